/- FieldPowers: the walk. -/
import Derived.Test.YtjggclhhimccoaaFt
namespace Go.Proofs.Ytjggclhhimccoaa
open Go.RowKit
/-- Blocks of numbers, and the exponent's block. -/
structure KE (e B : Nat) (w0 : World) (l : List (Nat × (Nat → BitVec 64))) (w : World) : Prop where
  k : KF B w0 l w
  e : Blk w (B + 1) 23 (r64 4 (F4 e))
variable {e B : Nat} {w0 w w' : World} {l : List (Nat × (Nat → BitVec 64))}
theorem KE.b (h : KE e B w0 l w) : Below B w0 w := h.k.b
theorem KE.blk (h : KE e B w0 l w) : ∀ x ∈ l, Blk w x.1 24 (r64 4 x.2) := h.k.blk
theorem KE.below (h : KE e B w0 l w) (hb : Below w.heap.size w w') : KE e B w0 l w' := ⟨h.k.below hb, h.e.below hb h.e.lt⟩
theorem KE.drew (h : KE e B w0 l w) : KE e B w0 l w.drew := ⟨h.k.drew, h.e.drew⟩
theorem KE.new (h : KE e B w0 l w) (cs : Array Value) (f : Nat → BitVec 64) : KE e B w0 ((w.heap.size, f) :: l) ((w.alloc (.cells cs 24)).setRow w.heap.size (r64 4 f)) :=
  ⟨h.k.new cs f, (h.e.alloc _).row_far (Nat.ne_of_lt h.e.lt) _⟩
theorem KE.start (a e u v : Nat) (w : World) : KE e w.heap.size w [(w.heap.size, F4 a), (w.heap.size + 2, F4 u), (w.heap.size + 3, F4 v)] ((((w.alloc (.cells (r64 4 (F4 a)) 24)).alloc (.cells (r64 4 (F4 e)) 23)).alloc (.cells (r64 4 (F4 u)) 24)).alloc (.cells (r64 4 (F4 v)) 24)) := by
  refine ⟨⟨((((Below.refl _ _).alloc (Nat.le_refl _) _).alloc (by simp) _).alloc (by simp; omega) _).alloc (by simp; omega) _, by simp; omega, fun x hx => ?_⟩, (((Blk.new (w.alloc _) _ _).cast' ⟨by simp, rfl⟩).alloc _).alloc _⟩
  simp only [List.mem_cons, List.not_mem_nil, or_false] at hx
  rcases hx with rfl | rfl | rfl
  · exact (((Blk.new w _ _).alloc _).alloc _).alloc _
  · exact ((Blk.new ((w.alloc _).alloc _) _ _).cast' ⟨by simp, rfl⟩).alloc _
  · exact (Blk.new _ _ _).cast' ⟨by simp, rfl⟩
theorem rroot_is (u v : Nat) (w : World) (hu : u < M256) (hv : v < M256) :
    Calls Try.prog 31 #[.agg (r64 4 (F4 u)), .agg (r64 4 (F4 v))] w fun e w' => e = .returned (.tuple #[.agg (r64 4 (F4 (rootV u v).1)), .bool (rootV u v).2]) ∧ Below w.heap.size w w' := by
  have h := rroot_any u v w hu hv
  rw [show mulP u (invP v) = mulP (u % pP) (invP v) by unfold mulP; rw [Nat.mod_mul_mod], show powP (mulP (u % pP) (invP v)) E3 = tryV (u % pP) v from rfl, root_same] at h
  exact h
theorem rootV_lt (u v : Nat) : (rootV u v).1 < M256 := by
  cases hb : (rootV u v).2 with
  | true => exact Nat.lt_trans (rootV_ok (u := u) (v := v) (x := (rootV u v).1) (by
      generalize rootV u v = p at hb ⊢
      obtain ⟨a, b⟩ := p
      cases hb
      rfl)).2.1 pP_lt
  | false => rw [rootV_no hb]; decide
set_option maxRecDepth 100000 in
set_option maxHeartbeats 8000000 in
theorem powers_any (a e u v : Nat) (w : World) (ha : a < M256) (he : e < M256) (hu : u < M256) (hv : v < M256) :
    Calls Try.prog 5 #[.agg (r64 4 (F4 a)), .agg (r64 4 (F4 e)), .agg (r64 4 (F4 u)), .agg (r64 4 (F4 v))] w fun e w' => e = .returned (.bool true) ∧ Below w.heap.size w w' := by
  have HS := Lib.hid fe_size
  have hyM := rootV_lt u v
  have c1 := Lib.hid (fun w => froot_any u v w hu hv)
  have c2 := Lib.hid (fun w => rroot_is u v w hu hv)
  generalize (rootV u v).1 = y at c1 c2 hyM
  generalize (rootV u v).2 = b at c1 c2
  have L0 := KE.start a e u v w
  go_enter Try.func5, Try.ntmps5
  go_wp2_with fail
  refine (examples_any _).mono ?_
  rintro e w1 ⟨rfl, hq⟩
  have h1 := L0.below hq
  clear L0 hq
  go_wp2_with (first
    | (refine wpList_load_row rfl 24 _ rfl (w.heap.size + 2) rfl 24 _ (0, 0) _ (h1.blk _ m1) Try.underlying24 rfl (HS.out _) ?_)
    | (refine wpList_load_row rfl 24 _ rfl (w.heap.size + 3) rfl 24 _ (0, 0) _ (h1.blk _ m2) Try.underlying24 rfl (HS.out _) ?_))
  refine (c1.out _).mono ?_
  rintro e w3 ⟨rfl, hq⟩
  have h3 := h1.below hq
  clear h1 hq
  go_wp2_with (first
    | (refine wpList_store_row rfl 24 _ _ rfl w3.heap.size (r64 4 (F4 y)) rfl rfl 24 (r64 4 zF) ((Blk.new w3 _ _).cast_ zero4') (HS.out _) (by simp only [row_size]) (row_one fun _ => rfl) ?_; refine wpList_gen (KE e w.heap.size w [(w3.heap.size, F4 y), (w.heap.size, F4 a), (w.heap.size + 2, F4 u), (w.heap.size + 3, F4 v)]) (h3.new _ _) (fun w4 h4 => ?_))
    | (refine wpList_load_row rfl 24 _ rfl (w.heap.size + 2) rfl 24 _ (0, 0) _ (h4.blk _ m2) Try.underlying24 rfl (HS.out _) ?_)
    | (refine wpList_load_row rfl 24 _ rfl (w.heap.size + 3) rfl 24 _ (0, 0) _ (h4.blk _ m3) Try.underlying24 rfl (HS.out _) ?_))
  clear h3 c1
  generalize w3.heap.size = g10 at h4 ⊢
  refine (c2.out _).mono ?_
  rintro e w5 ⟨rfl, hq⟩
  have h5 := h4.below hq
  clear h4 hq
  go_wp2_with (refine wpList_store_row rfl 24 _ _ rfl w5.heap.size (r64 4 (F4 y)) rfl rfl 24 (r64 4 zF) ((Blk.new w5 _ _).cast_ zero4') (HS.out _) (by simp only [row_size]) (row_one fun _ => rfl) ?_; refine wpList_gen (KE e w.heap.size w [(w5.heap.size, F4 y), (g10, F4 y), (w.heap.size, F4 a), (w.heap.size + 2, F4 u), (w.heap.size + 3, F4 v)]) (h5.new _ _) (fun w6 h6 => ?_))
  clear h5 c2
  generalize w5.heap.size = g12 at h6 ⊢
  refine wp_region_anyL (Two 1000 1001 fun _ _ wx => KE e w.heap.size w [(g12, F4 y), (g10, F4 y), (w.heap.size, F4 a), (w.heap.size + 2, F4 u), (w.heap.size + 3, F4 v)] wx) (by kernel_rfl) h6.drew ?_
  refine anyL_take (i := 0) (v := ?_) rfl (by kernel_rfl) (by kernel_rfl) (by kernel_rfl) (yl_other (by decide) (by decide) rfl (fun f1 f2 wx hT => ?_)) ?_; rotate_left
  · refine lands_value (w := wx) ?_ hT; go_simp <;> rfl
  simp only [Act.put, List.setIfInBounds_toArray, List.set_cons_zero, List.set_cons_succ]
  refine anyL_take (i := 1) (v := ?_) rfl (by kernel_rfl) (by kernel_rfl) (by kernel_rfl) (yl_other (by decide) (by decide) rfl (fun f1 f2 wx hT => ?_)) ?_; rotate_left
  · refine lands_value (w := wx) ?_ hT; go_simp <;> rfl
  simp only [Act.put, List.setIfInBounds_toArray, List.set_cons_zero, List.set_cons_succ]
  refine anyL_take (i := 2) (v := .agg (r64 4 (F4 a))) rfl (by kernel_rfl) (by kernel_rfl) (by kernel_rfl) (yl_other (by decide) (by decide) rfl (fun f1 f2 wx hT => ?_)) ?_
  · exact lands_fe _ rfl _ rfl _ (hT.blk _ m2) hT
  simp only [Act.put, List.setIfInBounds_toArray, List.set_cons_zero, List.set_cons_succ]
  refine anyL_take (i := 3) (v := .agg (r64 4 (F4 e))) rfl (by kernel_rfl) (by kernel_rfl) (by kernel_rfl) (yl_other (by decide) (by decide) rfl (fun f1 f2 wx hT => ?_)) ?_
  · exact lands_a4 _ rfl _ rfl _ hT.e hT
  simp only [Act.put, List.setIfInBounds_toArray, List.set_cons_zero, List.set_cons_succ]
  refine anyL_take (i := 4) (v := .agg (r64 4 (F4 (powP a e)))) rfl (by kernel_rfl) (by kernel_rfl) (by kernel_rfl) (yl_other (by decide) (by decide) rfl (fun f1 f2 wx hT => ?_)) ?_
  · exact lands_calls (w := wx) ((fpowP a e wx ha he).mono fun _ _ ⟨he, hb⟩ => ⟨he, hT.below hb⟩) (by go_simp)
  simp only [Act.put, List.setIfInBounds_toArray, List.set_cons_zero, List.set_cons_succ]
  refine anyL_take (i := 5) (v := .agg (r64 4 (F4 a))) rfl (by kernel_rfl) (by kernel_rfl) (by kernel_rfl) (yl_other (by decide) (by decide) rfl (fun f1 f2 wx hT => ?_)) ?_
  · exact lands_fe _ rfl _ rfl _ (hT.blk _ m2) hT
  simp only [Act.put, List.setIfInBounds_toArray, List.set_cons_zero, List.set_cons_succ]
  refine anyL_take (i := 6) (v := .agg (r64 4 (F4 e))) rfl (by kernel_rfl) (by kernel_rfl) (by kernel_rfl) (yl_other (by decide) (by decide) rfl (fun f1 f2 wx hT => ?_)) ?_
  · exact lands_a4 _ rfl _ rfl _ hT.e hT
  simp only [Act.put, List.setIfInBounds_toArray, List.set_cons_zero, List.set_cons_succ]
  refine anyL_take (i := 7) (v := .agg (r64 4 (F4 (powP a e)))) rfl (by kernel_rfl) (by kernel_rfl) (by kernel_rfl) (yl_other (by decide) (by decide) rfl (fun f1 f2 wx hT => ?_)) ?_
  · exact lands_calls (w := wx) ((rpowP a e wx ha he).mono fun _ _ ⟨he, hb⟩ => ⟨he, hT.below hb⟩) (by go_simp)
  simp only [Act.put, List.setIfInBounds_toArray, List.set_cons_zero, List.set_cons_succ]
  refine anyL_take (i := 8) (v := .bool true) rfl (by kernel_rfl) (by kernel_rfl) (by kernel_rfl) (yl_other (by decide) (by decide) rfl (fun f1 f2 wx hT => ?_)) ?_
  · exact lands_eql _ _ rfl (powP a e) (powP a e) rfl rfl (powP_lt _ _) (powP_lt _ _) true (decide_eq_true (rfl)) hT
  simp only [Act.put, List.setIfInBounds_toArray, List.set_cons_zero, List.set_cons_succ]
  refine anyL_take (i := 9) (v := ?_) rfl (by kernel_rfl) (by kernel_rfl) (by kernel_rfl) (yl_other (by decide) (by decide) rfl (fun f1 f2 wx hT => ?_)) ?_; rotate_left
  · refine lands_value (w := wx) ?_ hT; go_simp <;> rfl
  simp only [Act.put, List.setIfInBounds_toArray, List.set_cons_zero, List.set_cons_succ]
  refine anyL_take (i := 10) (v := ?_) rfl (by kernel_rfl) (by kernel_rfl) (by kernel_rfl) (yl_other (by decide) (by decide) rfl (fun f1 f2 wx hT => ?_)) ?_; rotate_left
  · refine lands_value (w := wx) ?_ hT; go_simp <;> rfl
  simp only [Act.put, List.setIfInBounds_toArray, List.set_cons_zero, List.set_cons_succ]
  refine anyL_take (i := 11) (v := .agg (r64 4 (F4 a))) rfl (by kernel_rfl) (by kernel_rfl) (by kernel_rfl) (yl_other (by decide) (by decide) rfl (fun f1 f2 wx hT => ?_)) ?_
  · exact lands_fe _ rfl _ rfl _ (hT.blk _ m2) hT
  simp only [Act.put, List.setIfInBounds_toArray, List.set_cons_zero, List.set_cons_succ]
  refine anyL_take (i := 12) (v := .agg (r64 4 (F4 (invP a)))) rfl (by kernel_rfl) (by kernel_rfl) (by kernel_rfl) (yl_other (by decide) (by decide) rfl (fun f1 f2 wx hT => ?_)) ?_
  · exact lands_calls (w := wx) ((finvP a wx ha).mono fun _ _ ⟨he, hb⟩ => ⟨he, hT.below hb⟩) (by go_simp)
  simp only [Act.put, List.setIfInBounds_toArray, List.set_cons_zero, List.set_cons_succ]
  refine anyL_take (i := 13) (v := .agg (r64 4 (F4 a))) rfl (by kernel_rfl) (by kernel_rfl) (by kernel_rfl) (yl_other (by decide) (by decide) rfl (fun f1 f2 wx hT => ?_)) ?_
  · exact lands_fe _ rfl _ rfl _ (hT.blk _ m2) hT
  simp only [Act.put, List.setIfInBounds_toArray, List.set_cons_zero, List.set_cons_succ]
  refine anyL_take (i := 14) (v := .agg (r64 4 (F4 (invP a)))) rfl (by kernel_rfl) (by kernel_rfl) (by kernel_rfl) (yl_other (by decide) (by decide) rfl (fun f1 f2 wx hT => ?_)) ?_
  · exact lands_calls (w := wx) ((rinvI a wx ha).mono fun _ _ ⟨he, hb⟩ => ⟨he, hT.below hb⟩) (by go_simp)
  simp only [Act.put, List.setIfInBounds_toArray, List.set_cons_zero, List.set_cons_succ]
  refine anyL_take (i := 15) (v := .bool true) rfl (by kernel_rfl) (by kernel_rfl) (by kernel_rfl) (yl_other (by decide) (by decide) rfl (fun f1 f2 wx hT => ?_)) ?_
  · exact lands_eql _ _ rfl (invP a) (invP a) rfl rfl (invP_lt _) (invP_lt _) true (decide_eq_true (rfl)) hT
  simp only [Act.put, List.setIfInBounds_toArray, List.set_cons_zero, List.set_cons_succ]
  refine anyL_take (i := 16) (v := ?_) rfl (by kernel_rfl) (by kernel_rfl) (by kernel_rfl) (yl_other (by decide) (by decide) rfl (fun f1 f2 wx hT => ?_)) ?_; rotate_left
  · refine lands_value (w := wx) ?_ hT; go_simp <;> rfl
  simp only [Act.put, List.setIfInBounds_toArray, List.set_cons_zero, List.set_cons_succ]
  refine anyL_take (i := 17) (v := ?_) rfl (by kernel_rfl) (by kernel_rfl) (by kernel_rfl) (yl_other (by decide) (by decide) rfl (fun f1 f2 wx hT => ?_)) ?_; rotate_left
  · refine lands_value (w := wx) ?_ hT; go_simp <;> rfl
  simp only [Act.put, List.setIfInBounds_toArray, List.set_cons_zero, List.set_cons_succ]
  refine anyL_take (i := 18) (v := .agg (r64 4 (F4 y))) rfl (by kernel_rfl) (by kernel_rfl) (by kernel_rfl) (yl_other (by decide) (by decide) rfl (fun f1 f2 wx hT => ?_)) ?_
  · exact lands_fe _ rfl _ rfl _ (hT.blk _ m1) hT
  simp only [Act.put, List.setIfInBounds_toArray, List.set_cons_zero, List.set_cons_succ]
  refine anyL_take (i := 19) (v := .agg (r64 4 (F4 y))) rfl (by kernel_rfl) (by kernel_rfl) (by kernel_rfl) (yl_other (by decide) (by decide) rfl (fun f1 f2 wx hT => ?_)) ?_
  · exact lands_fe _ rfl _ rfl _ (hT.blk _ m0) hT
  simp only [Act.put, List.setIfInBounds_toArray, List.set_cons_zero, List.set_cons_succ]
  refine anyL_take (i := 20) (v := .bool true) rfl (by kernel_rfl) (by kernel_rfl) (by kernel_rfl) (yl_other (by decide) (by decide) rfl (fun f1 f2 wx hT => ?_)) ?_
  · exact lands_eql _ _ rfl y y rfl rfl hyM hyM true (decide_eq_true (rfl)) hT
  simp only [Act.put, List.setIfInBounds_toArray, List.set_cons_zero, List.set_cons_succ]
  refine anyL_take (i := 21) (v := ?_) rfl (by kernel_rfl) (by kernel_rfl) (by kernel_rfl) (yl_other (by decide) (by decide) rfl (fun f1 f2 wx hT => ?_)) ?_; rotate_left
  · refine lands_value (w := wx) ?_ hT; go_simp <;> rfl
  simp only [Act.put, List.setIfInBounds_toArray, List.set_cons_zero, List.set_cons_succ]
  refine anyL_take (i := 22) (v := ?_) rfl (by kernel_rfl) (by kernel_rfl) (by kernel_rfl) (yl_other (by decide) (by decide) rfl (fun f1 f2 wx hT => ?_)) ?_; rotate_left
  · refine lands_value (w := wx) ?_ hT; go_simp <;> rfl
  simp only [Act.put, List.setIfInBounds_toArray, List.set_cons_zero, List.set_cons_succ]
  refine anyL_take (i := 23) (v := ?_) rfl (by kernel_rfl) (by kernel_rfl) (by kernel_rfl) (yl_other (by decide) (by decide) rfl (fun f1 f2 wx hT => ?_)) ?_; rotate_left
  · refine lands_value (w := wx) ?_ hT; go_simp <;> rfl
  simp only [Act.put, List.setIfInBounds_toArray, List.set_cons_zero, List.set_cons_succ]
  refine anyL_take (i := 24) (v := ?_) rfl (by kernel_rfl) (by kernel_rfl) (by kernel_rfl) (yl_other (by decide) (by decide) rfl (fun f1 f2 wx hT => ?_)) ?_; rotate_left
  · refine lands_value (w := wx) ?_ hT; go_simp <;> rfl
  simp only [Act.put, List.setIfInBounds_toArray, List.set_cons_zero, List.set_cons_succ]
  refine anyL_take (i := 25) (v := .bool true) rfl (by kernel_rfl) (by kernel_rfl) (by kernel_rfl) (yl_other (by decide) (by decide) rfl (fun f1 f2 wx hT => ?_)) ?_
  · refine lands_value (w := wx) ?_ hT; go_simp
  simp only [Act.put, List.setIfInBounds_toArray, List.set_cons_zero, List.set_cons_succ]
  refine anyL_take (i := 26) (v := ?_) rfl (by kernel_rfl) (by kernel_rfl) (by kernel_rfl) (yl_other (by decide) (by decide) rfl (fun f1 f2 wx hT => ?_)) ?_; rotate_left
  · refine lands_value (w := wx) ?_ hT; go_simp <;> rfl
  simp only [Act.put, List.setIfInBounds_toArray, List.set_cons_zero, List.set_cons_succ]
  refine anyL_take (i := 27) (v := ?_) rfl (by kernel_rfl) (by kernel_rfl) (by kernel_rfl) (yl_other (by decide) (by decide) rfl (fun f1 f2 wx hT => ?_)) ?_; rotate_left
  · refine lands_value (w := wx) ?_ hT; go_simp <;> rfl
  simp only [Act.put, List.setIfInBounds_toArray, List.set_cons_zero, List.set_cons_succ]
  refine anyL_done (by kernel_rfl) (fun w8 (h8 : KE e w.heap.size w [(g12, F4 y), (g10, F4 y), (w.heap.size, F4 a), (w.heap.size + 2, F4 u), (w.heap.size + 3, F4 v)] w8) => ?_) _
  clear h6
  go_wp2_with fail
  go_ret
  exact ⟨rfl, h8.b⟩
end Go.Proofs.Ytjggclhhimccoaa
