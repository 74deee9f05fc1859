/- FieldReckons: the walk. -/
import Derived.Test.YtjggclhhimccoaaGq
import Derived.Test.YtjggclhhimccoaaFn
import Derived.Test.YtjggclhhimccoaaFo
import Derived.Test.YtjggclhhimccoaaFq
namespace Go.Proofs.Ytjggclhhimccoaa
open Go.RowKit
theorem raddP (a b : Nat) (w : World) (ha : a < M256) (hb : b < M256) :
    Calls Try.prog 13 #[.agg (r64 4 (F4 a)), .agg (r64 4 (F4 b))] w fun e w' => e = .returned (.agg (r64 4 (F4 (addP a b)))) ∧ Below w.heap.size w w' := add_any a b w ha hb
theorem rmulP (a b : Nat) (w : World) (ha : a < M256) (hb : b < M256) :
    Calls Try.prog 17 #[.agg (r64 4 (F4 a)), .agg (r64 4 (F4 b))] w fun e w' => e = .returned (.agg (r64 4 (F4 (mulP a b)))) ∧ Below w.heap.size w w' := mul_any a b w ha hb
theorem rsubP (a b : Nat) (w : World) (ha : a < M256) (hb : b < M256) :
    Calls Try.prog 15 #[.agg (r64 4 (F4 a)), .agg (r64 4 (F4 b))] w fun e w' => e = .returned (.agg (r64 4 (F4 (subP a b)))) ∧ Below w.heap.size w w' := by
  have h := sub_any a b w ha hb
  rw [Nat.add_mod_mod] at h
  exact h
theorem rnegP (a : Nat) (w : World) (ha : a < M256) :
    Calls Try.prog 19 #[.agg (r64 4 (F4 a))] w fun e w' => e = .returned (.agg (r64 4 (F4 (negP a)))) ∧ Below w.heap.size w w' := neg_any a w ha
set_option maxRecDepth 100000 in
set_option maxHeartbeats 8000000 in
theorem reckons_any (a b : Nat) (w : World) (ha : a < M256) (hb : b < M256) :
    Calls Try.prog 3 #[.agg (r64 4 (F4 a)), .agg (r64 4 (F4 b))] w fun e w' => e = .returned (.bool true) ∧ Below w.heap.size w w' := by
  have L0 := KF.start2 a b w
  go_enter Try.func3, Try.ntmps3
  go_wp2_with fail
  refine (examples_any _).mono ?_
  rintro e w1 ⟨rfl, hq⟩
  have h1 := L0.below hq
  clear L0 hq
  go_wp2_with fail
  refine wp_region_anyL (Two 1000 1001 fun _ _ wx => KF w.heap.size w [(w.heap.size, F4 a), (w.heap.size + 1, F4 b)] wx) (by kernel_rfl) h1.drew ?_
  refine anyL_take (i := 0) (v := ?_) rfl (by kernel_rfl) (by kernel_rfl) (by kernel_rfl) (yl_other (by decide) (by decide) rfl (fun f1 f2 wx hT => ?_)) ?_; rotate_left
  · refine lands_value (w := wx) ?_ hT; go_simp <;> rfl
  simp only [Act.put, List.setIfInBounds_toArray, List.set_cons_zero, List.set_cons_succ]
  refine anyL_take (i := 1) (v := ?_) rfl (by kernel_rfl) (by kernel_rfl) (by kernel_rfl) (yl_other (by decide) (by decide) rfl (fun f1 f2 wx hT => ?_)) ?_; rotate_left
  · refine lands_value (w := wx) ?_ hT; go_simp <;> rfl
  simp only [Act.put, List.setIfInBounds_toArray, List.set_cons_zero, List.set_cons_succ]
  refine anyL_take (i := 2) (v := .agg (r64 4 (F4 a))) rfl (by kernel_rfl) (by kernel_rfl) (by kernel_rfl) (yl_other (by decide) (by decide) rfl (fun f1 f2 wx hT => ?_)) ?_
  · exact lands_fe _ rfl _ rfl _ (hT.blk _ m0) hT
  simp only [Act.put, List.setIfInBounds_toArray, List.set_cons_zero, List.set_cons_succ]
  refine anyL_take (i := 3) (v := .agg (r64 4 (F4 b))) rfl (by kernel_rfl) (by kernel_rfl) (by kernel_rfl) (yl_other (by decide) (by decide) rfl (fun f1 f2 wx hT => ?_)) ?_
  · exact lands_fe _ rfl _ rfl _ (hT.blk _ m1) hT
  simp only [Act.put, List.setIfInBounds_toArray, List.set_cons_zero, List.set_cons_succ]
  refine anyL_take (i := 4) (v := .agg (r64 4 (F4 (addP a b)))) rfl (by kernel_rfl) (by kernel_rfl) (by kernel_rfl) (yl_other (by decide) (by decide) rfl (fun f1 f2 wx hT => ?_)) ?_
  · exact lands_calls (w := wx) ((faddP a b wx ha hb).mono fun _ _ ⟨he, hb⟩ => ⟨he, hT.below hb⟩) (by go_simp)
  simp only [Act.put, List.setIfInBounds_toArray, List.set_cons_zero, List.set_cons_succ]
  refine anyL_take (i := 5) (v := .agg (r64 4 (F4 a))) rfl (by kernel_rfl) (by kernel_rfl) (by kernel_rfl) (yl_other (by decide) (by decide) rfl (fun f1 f2 wx hT => ?_)) ?_
  · exact lands_fe _ rfl _ rfl _ (hT.blk _ m0) hT
  simp only [Act.put, List.setIfInBounds_toArray, List.set_cons_zero, List.set_cons_succ]
  refine anyL_take (i := 6) (v := .agg (r64 4 (F4 b))) rfl (by kernel_rfl) (by kernel_rfl) (by kernel_rfl) (yl_other (by decide) (by decide) rfl (fun f1 f2 wx hT => ?_)) ?_
  · exact lands_fe _ rfl _ rfl _ (hT.blk _ m1) hT
  simp only [Act.put, List.setIfInBounds_toArray, List.set_cons_zero, List.set_cons_succ]
  refine anyL_take (i := 7) (v := .agg (r64 4 (F4 (addP a b)))) rfl (by kernel_rfl) (by kernel_rfl) (by kernel_rfl) (yl_other (by decide) (by decide) rfl (fun f1 f2 wx hT => ?_)) ?_
  · exact lands_calls (w := wx) ((raddP a b wx ha hb).mono fun _ _ ⟨he, hb⟩ => ⟨he, hT.below hb⟩) (by go_simp)
  simp only [Act.put, List.setIfInBounds_toArray, List.set_cons_zero, List.set_cons_succ]
  refine anyL_take (i := 8) (v := .bool true) rfl (by kernel_rfl) (by kernel_rfl) (by kernel_rfl) (yl_other (by decide) (by decide) rfl (fun f1 f2 wx hT => ?_)) ?_
  · exact lands_eql _ _ rfl (addP a b) (addP a b) rfl rfl (addP_lt _ _) (addP_lt _ _) true (decide_eq_true (rfl)) hT
  simp only [Act.put, List.setIfInBounds_toArray, List.set_cons_zero, List.set_cons_succ]
  refine anyL_take (i := 9) (v := ?_) rfl (by kernel_rfl) (by kernel_rfl) (by kernel_rfl) (yl_other (by decide) (by decide) rfl (fun f1 f2 wx hT => ?_)) ?_; rotate_left
  · refine lands_value (w := wx) ?_ hT; go_simp <;> rfl
  simp only [Act.put, List.setIfInBounds_toArray, List.set_cons_zero, List.set_cons_succ]
  refine anyL_take (i := 10) (v := ?_) rfl (by kernel_rfl) (by kernel_rfl) (by kernel_rfl) (yl_other (by decide) (by decide) rfl (fun f1 f2 wx hT => ?_)) ?_; rotate_left
  · refine lands_value (w := wx) ?_ hT; go_simp <;> rfl
  simp only [Act.put, List.setIfInBounds_toArray, List.set_cons_zero, List.set_cons_succ]
  refine anyL_take (i := 11) (v := .agg (r64 4 (F4 a))) rfl (by kernel_rfl) (by kernel_rfl) (by kernel_rfl) (yl_other (by decide) (by decide) rfl (fun f1 f2 wx hT => ?_)) ?_
  · exact lands_fe _ rfl _ rfl _ (hT.blk _ m0) hT
  simp only [Act.put, List.setIfInBounds_toArray, List.set_cons_zero, List.set_cons_succ]
  refine anyL_take (i := 12) (v := .agg (r64 4 (F4 b))) rfl (by kernel_rfl) (by kernel_rfl) (by kernel_rfl) (yl_other (by decide) (by decide) rfl (fun f1 f2 wx hT => ?_)) ?_
  · exact lands_fe _ rfl _ rfl _ (hT.blk _ m1) hT
  simp only [Act.put, List.setIfInBounds_toArray, List.set_cons_zero, List.set_cons_succ]
  refine anyL_take (i := 13) (v := .agg (r64 4 (F4 (subP a b)))) rfl (by kernel_rfl) (by kernel_rfl) (by kernel_rfl) (yl_other (by decide) (by decide) rfl (fun f1 f2 wx hT => ?_)) ?_
  · exact lands_calls (w := wx) ((fsubP a b wx ha hb).mono fun _ _ ⟨he, hb⟩ => ⟨he, hT.below hb⟩) (by go_simp)
  simp only [Act.put, List.setIfInBounds_toArray, List.set_cons_zero, List.set_cons_succ]
  refine anyL_take (i := 14) (v := .agg (r64 4 (F4 a))) rfl (by kernel_rfl) (by kernel_rfl) (by kernel_rfl) (yl_other (by decide) (by decide) rfl (fun f1 f2 wx hT => ?_)) ?_
  · exact lands_fe _ rfl _ rfl _ (hT.blk _ m0) hT
  simp only [Act.put, List.setIfInBounds_toArray, List.set_cons_zero, List.set_cons_succ]
  refine anyL_take (i := 15) (v := .agg (r64 4 (F4 b))) rfl (by kernel_rfl) (by kernel_rfl) (by kernel_rfl) (yl_other (by decide) (by decide) rfl (fun f1 f2 wx hT => ?_)) ?_
  · exact lands_fe _ rfl _ rfl _ (hT.blk _ m1) hT
  simp only [Act.put, List.setIfInBounds_toArray, List.set_cons_zero, List.set_cons_succ]
  refine anyL_take (i := 16) (v := .agg (r64 4 (F4 (subP a b)))) rfl (by kernel_rfl) (by kernel_rfl) (by kernel_rfl) (yl_other (by decide) (by decide) rfl (fun f1 f2 wx hT => ?_)) ?_
  · exact lands_calls (w := wx) ((rsubP a b wx ha hb).mono fun _ _ ⟨he, hb⟩ => ⟨he, hT.below hb⟩) (by go_simp)
  simp only [Act.put, List.setIfInBounds_toArray, List.set_cons_zero, List.set_cons_succ]
  refine anyL_take (i := 17) (v := .bool true) rfl (by kernel_rfl) (by kernel_rfl) (by kernel_rfl) (yl_other (by decide) (by decide) rfl (fun f1 f2 wx hT => ?_)) ?_
  · exact lands_eql _ _ rfl (subP a b) (subP a b) rfl rfl (subP_lt _ _) (subP_lt _ _) true (decide_eq_true (rfl)) hT
  simp only [Act.put, List.setIfInBounds_toArray, List.set_cons_zero, List.set_cons_succ]
  refine anyL_take (i := 18) (v := ?_) rfl (by kernel_rfl) (by kernel_rfl) (by kernel_rfl) (yl_other (by decide) (by decide) rfl (fun f1 f2 wx hT => ?_)) ?_; rotate_left
  · refine lands_value (w := wx) ?_ hT; go_simp <;> rfl
  simp only [Act.put, List.setIfInBounds_toArray, List.set_cons_zero, List.set_cons_succ]
  refine anyL_take (i := 19) (v := ?_) rfl (by kernel_rfl) (by kernel_rfl) (by kernel_rfl) (yl_other (by decide) (by decide) rfl (fun f1 f2 wx hT => ?_)) ?_; rotate_left
  · refine lands_value (w := wx) ?_ hT; go_simp <;> rfl
  simp only [Act.put, List.setIfInBounds_toArray, List.set_cons_zero, List.set_cons_succ]
  refine anyL_take (i := 20) (v := .agg (r64 4 (F4 a))) rfl (by kernel_rfl) (by kernel_rfl) (by kernel_rfl) (yl_other (by decide) (by decide) rfl (fun f1 f2 wx hT => ?_)) ?_
  · exact lands_fe _ rfl _ rfl _ (hT.blk _ m0) hT
  simp only [Act.put, List.setIfInBounds_toArray, List.set_cons_zero, List.set_cons_succ]
  refine anyL_take (i := 21) (v := .agg (r64 4 (F4 b))) rfl (by kernel_rfl) (by kernel_rfl) (by kernel_rfl) (yl_other (by decide) (by decide) rfl (fun f1 f2 wx hT => ?_)) ?_
  · exact lands_fe _ rfl _ rfl _ (hT.blk _ m1) hT
  simp only [Act.put, List.setIfInBounds_toArray, List.set_cons_zero, List.set_cons_succ]
  refine anyL_take (i := 22) (v := .agg (r64 4 (F4 (mulP a b)))) rfl (by kernel_rfl) (by kernel_rfl) (by kernel_rfl) (yl_other (by decide) (by decide) rfl (fun f1 f2 wx hT => ?_)) ?_
  · exact lands_calls (w := wx) ((fmulP a b wx ha hb).mono fun _ _ ⟨he, hb⟩ => ⟨he, hT.below hb⟩) (by go_simp)
  simp only [Act.put, List.setIfInBounds_toArray, List.set_cons_zero, List.set_cons_succ]
  refine anyL_take (i := 23) (v := .agg (r64 4 (F4 a))) rfl (by kernel_rfl) (by kernel_rfl) (by kernel_rfl) (yl_other (by decide) (by decide) rfl (fun f1 f2 wx hT => ?_)) ?_
  · exact lands_fe _ rfl _ rfl _ (hT.blk _ m0) hT
  simp only [Act.put, List.setIfInBounds_toArray, List.set_cons_zero, List.set_cons_succ]
  refine anyL_take (i := 24) (v := .agg (r64 4 (F4 b))) rfl (by kernel_rfl) (by kernel_rfl) (by kernel_rfl) (yl_other (by decide) (by decide) rfl (fun f1 f2 wx hT => ?_)) ?_
  · exact lands_fe _ rfl _ rfl _ (hT.blk _ m1) hT
  simp only [Act.put, List.setIfInBounds_toArray, List.set_cons_zero, List.set_cons_succ]
  refine anyL_take (i := 25) (v := .agg (r64 4 (F4 (mulP a b)))) rfl (by kernel_rfl) (by kernel_rfl) (by kernel_rfl) (yl_other (by decide) (by decide) rfl (fun f1 f2 wx hT => ?_)) ?_
  · exact lands_calls (w := wx) ((rmulP a b wx ha hb).mono fun _ _ ⟨he, hb⟩ => ⟨he, hT.below hb⟩) (by go_simp)
  simp only [Act.put, List.setIfInBounds_toArray, List.set_cons_zero, List.set_cons_succ]
  refine anyL_take (i := 26) (v := .bool true) rfl (by kernel_rfl) (by kernel_rfl) (by kernel_rfl) (yl_other (by decide) (by decide) rfl (fun f1 f2 wx hT => ?_)) ?_
  · exact lands_eql _ _ rfl (mulP a b) (mulP a b) rfl rfl (mulP_lt _ _) (mulP_lt _ _) true (decide_eq_true (rfl)) hT
  simp only [Act.put, List.setIfInBounds_toArray, List.set_cons_zero, List.set_cons_succ]
  refine anyL_take (i := 27) (v := ?_) rfl (by kernel_rfl) (by kernel_rfl) (by kernel_rfl) (yl_other (by decide) (by decide) rfl (fun f1 f2 wx hT => ?_)) ?_; rotate_left
  · refine lands_value (w := wx) ?_ hT; go_simp <;> rfl
  simp only [Act.put, List.setIfInBounds_toArray, List.set_cons_zero, List.set_cons_succ]
  refine anyL_take (i := 28) (v := ?_) rfl (by kernel_rfl) (by kernel_rfl) (by kernel_rfl) (yl_other (by decide) (by decide) rfl (fun f1 f2 wx hT => ?_)) ?_; rotate_left
  · refine lands_value (w := wx) ?_ hT; go_simp <;> rfl
  simp only [Act.put, List.setIfInBounds_toArray, List.set_cons_zero, List.set_cons_succ]
  refine anyL_take (i := 29) (v := .agg (r64 4 (F4 a))) rfl (by kernel_rfl) (by kernel_rfl) (by kernel_rfl) (yl_other (by decide) (by decide) rfl (fun f1 f2 wx hT => ?_)) ?_
  · exact lands_fe _ rfl _ rfl _ (hT.blk _ m0) hT
  simp only [Act.put, List.setIfInBounds_toArray, List.set_cons_zero, List.set_cons_succ]
  refine anyL_take (i := 30) (v := .agg (r64 4 (F4 (negP a)))) rfl (by kernel_rfl) (by kernel_rfl) (by kernel_rfl) (yl_other (by decide) (by decide) rfl (fun f1 f2 wx hT => ?_)) ?_
  · exact lands_calls (w := wx) ((fnegP a wx ha).mono fun _ _ ⟨he, hb⟩ => ⟨he, hT.below hb⟩) (by go_simp)
  simp only [Act.put, List.setIfInBounds_toArray, List.set_cons_zero, List.set_cons_succ]
  refine anyL_take (i := 31) (v := .agg (r64 4 (F4 a))) rfl (by kernel_rfl) (by kernel_rfl) (by kernel_rfl) (yl_other (by decide) (by decide) rfl (fun f1 f2 wx hT => ?_)) ?_
  · exact lands_fe _ rfl _ rfl _ (hT.blk _ m0) hT
  simp only [Act.put, List.setIfInBounds_toArray, List.set_cons_zero, List.set_cons_succ]
  refine anyL_take (i := 32) (v := .agg (r64 4 (F4 (negP a)))) rfl (by kernel_rfl) (by kernel_rfl) (by kernel_rfl) (yl_other (by decide) (by decide) rfl (fun f1 f2 wx hT => ?_)) ?_
  · exact lands_calls (w := wx) ((rnegP a wx ha).mono fun _ _ ⟨he, hb⟩ => ⟨he, hT.below hb⟩) (by go_simp)
  simp only [Act.put, List.setIfInBounds_toArray, List.set_cons_zero, List.set_cons_succ]
  refine anyL_take (i := 33) (v := .bool true) rfl (by kernel_rfl) (by kernel_rfl) (by kernel_rfl) (yl_other (by decide) (by decide) rfl (fun f1 f2 wx hT => ?_)) ?_
  · exact lands_eql _ _ rfl (negP a) (negP a) rfl rfl (negP_lt _) (negP_lt _) true (decide_eq_true (rfl)) hT
  simp only [Act.put, List.setIfInBounds_toArray, List.set_cons_zero, List.set_cons_succ]
  refine anyL_take (i := 34) (v := ?_) rfl (by kernel_rfl) (by kernel_rfl) (by kernel_rfl) (yl_other (by decide) (by decide) rfl (fun f1 f2 wx hT => ?_)) ?_; rotate_left
  · refine lands_value (w := wx) ?_ hT; go_simp <;> rfl
  simp only [Act.put, List.setIfInBounds_toArray, List.set_cons_zero, List.set_cons_succ]
  refine anyL_take (i := 35) (v := ?_) rfl (by kernel_rfl) (by kernel_rfl) (by kernel_rfl) (yl_other (by decide) (by decide) rfl (fun f1 f2 wx hT => ?_)) ?_; rotate_left
  · refine lands_value (w := wx) ?_ hT; go_simp <;> rfl
  simp only [Act.put, List.setIfInBounds_toArray, List.set_cons_zero, List.set_cons_succ]
  refine anyL_done (by kernel_rfl) (fun w7 (h7 : KF w.heap.size w [(w.heap.size, F4 a), (w.heap.size + 1, F4 b)] w7) => ?_) _
  clear h1
  go_wp2_with fail
  go_ret
  exact ⟨rfl, h7.b⟩
end Go.Proofs.Ytjggclhhimccoaa
