/- FieldInverts: the walk. -/
import Derived.Test.YtjggclhhimccoaaGp
namespace Go.Proofs.Ytjggclhhimccoaa
open Go.RowKit
theorem pow_zero_mod {a k : Nat} (hk : 0 < k) (h : a % pP = 0) : a ^ k % pP = 0 := by
  rw [Nat.pow_mod, h, Nat.zero_pow hk, Nat.zero_mod]
theorem inv_zero {a : Nat} (h : ((a + 0) % pP) = 0) : (a ^ (pP - 2) % pP) = ((a + 0) % pP) := by
  rw [h]
  rw [Nat.add_zero] at h
  exact pow_zero_mod (by decide) h
theorem inv_one {a : Nat} (h : ¬ a % pP = 0) : a * (a ^ (pP - 2) % pP) % pP = 1 := by
  have h1 := fermatP a h
  rw [Nat.mul_mod_mod, Nat.mul_comm, ← Nat.pow_succ]
  exact h1
theorem inv_not {a : Nat} (h : ¬ a % pP = 0) : ¬ (a ^ (pP - 2) % pP) % pP = 0 := fun h0 => by
  have h1 := inv_one h
  rw [Nat.mod_mod] at h0
  rw [h0, Nat.mul_zero, Nat.zero_mod] at h1
  cases h1
theorem inv_inv {a : Nat} (h : ¬ a % pP = 0) : (a ^ (pP - 2) % pP) ^ (pP - 2) % pP = a % pP := by
  have h1 := inv_one h
  have h2 := inv_one (inv_not h)
  generalize a ^ (pP - 2) % pP = b at *
  generalize b ^ (pP - 2) = c at *
  have h3 : c % pP = (a * b % pP) * (c % pP) % pP := by rw [h1, Nat.one_mul, Nat.mod_mod]
  rw [h3, Nat.mod_mul_mod, Nat.mul_assoc, Nat.mul_mod, h2, Nat.mul_one, Nat.mod_mod]
theorem inv_inv_own {a : Nat} (h : ¬ a % pP = 0) : (a ^ (pP - 2) % pP) ^ (pP - 2) % pP = (a + 0) % pP := by
  rw [Nat.add_zero]; exact inv_inv h
set_option maxRecDepth 100000 in
set_option maxHeartbeats 4000000 in
theorem inverts_any (a : Nat) (w : World) (ha : a < M256) :
    Calls Try.prog 7 #[.agg (r64 4 (F4 a))] w fun e w' => e = .returned (.bool true) ∧ Below w.heap.size w w' := by
  have HS := Lib.hid fe_size
  have L0 := KF.start1 a w
  go_enter Try.func7, Try.ntmps7
  go_wp2_with fail
  refine (examples_any _).mono ?_
  rintro e w1 ⟨rfl, hq⟩
  have h1 := L0.below hq
  clear L0 hq
  go_wp2_with (first
    | (refine wpList_load_row rfl 24 _ rfl (w.heap.size) rfl 24 _ (0, 0) _ (h1.blk _ m0) Try.underlying24 rfl (HS.out _) ?_)
    | (refine wpList_val (R := fun w' => w' = _) (.agg (r64 4 (F4 0))) rfl (lands_zero rfl rfl) ?_; rintro _ rfl))
  refine (fadd_any a 0 _ ha (by decide)).mono ?_
  rintro e w2 ⟨rfl, hq⟩
  have h2 := h1.below hq
  clear h1 hq
  go_wp2_with (first
    | (refine wpList_store_row rfl 24 _ _ rfl w2.heap.size (r64 4 (F4 ((a + 0) % pP))) rfl rfl 24 (r64 4 zF) ((Blk.new w2 _ _).cast_ zero4') (HS.out _) (by simp only [row_size]) (row_one fun _ => rfl) ?_; refine wpList_gen (KF w.heap.size w [(w2.heap.size, F4 ((a + 0) % pP)), (w.heap.size, F4 a)]) (h2.new _ _) (fun w3 h3 => ?_))
    | (refine wpList_load_row rfl 24 _ rfl (w.heap.size) rfl 24 _ (0, 0) _ (h3.blk _ m1) Try.underlying24 rfl (HS.out _) ?_))
  clear h2
  generalize w2.heap.size = g4 at h3 ⊢
  refine (finv_any a _ ha).mono ?_
  rintro e w4 ⟨rfl, hq⟩
  have h4 := h3.below hq
  clear h3 hq
  by_cases c : ((a + 0) % pP) = 0
  · have C := Lib.hid c
    clear c
    go_wp2_with (first
      | (refine wpList_store_row rfl 24 _ _ rfl w4.heap.size (r64 4 (F4 (a ^ (pP - 2) % pP))) rfl rfl 24 (r64 4 zF) ((Blk.new w4 _ _).cast_ zero4') (HS.out _) (by simp only [row_size]) (row_one fun _ => rfl) ?_; refine wpList_gen (KF w.heap.size w [(w4.heap.size, F4 (a ^ (pP - 2) % pP)), (g4, F4 ((a + 0) % pP)), (w.heap.size, F4 a)]) (h4.new _ _) (fun w5 h5 => ?_))
      | (refine wpList_valG (R := fun w' => w' = _) (.agg (r64 4 (F4 ((a + 0) % pP)))) rfl (lands_fe _ rfl _ rfl _ (h5.blk _ m1) rfl) ?_; rintro _ rfl; simp only [Act.put, List.setIfInBounds_toArray, List.set_cons_zero, List.set_cons_succ])
      | (refine wpList_valG (R := fun w' => w' = _) (.agg (r64 4 (F4 (a ^ (pP - 2) % pP)))) rfl (lands_fe _ rfl _ rfl _ (h5.blk _ m0) rfl) ?_; rintro _ rfl; simp only [Act.put, List.setIfInBounds_toArray, List.set_cons_zero, List.set_cons_succ])
      | (refine wpList_val (R := fun w' => w' = _) (.agg (r64 4 (F4 0))) rfl (lands_zero rfl rfl) ?_; rintro _ rfl)
      | (refine wpList_valG (R := fun w' => w' = _) (.bool true) rfl (lands_eql _ _ rfl ((a + 0) % pP) 0 rfl rfl (mod_lt_M _) (by decide) true (decide_eq_true C.out) rfl) ?_; rintro _ rfl)
      | (refine wpList_valG (R := fun w' => w' = _) (.bool true) rfl (lands_eql _ _ rfl (a ^ (pP - 2) % pP) ((a + 0) % pP) rfl rfl (mod_lt_M _) (mod_lt_M _) true (decide_eq_true (inv_zero C.out)) rfl) ?_; rintro _ rfl))
    go_ret
    exact ⟨rfl, h5.b⟩
  · have C := Lib.hid c
    have D : Hid (¬ a % pP = 0) := Lib.hid (by rw [Nat.add_zero] at c; exact c)
    clear c
    go_wp2_with (first
      | (refine wpList_store_row rfl 24 _ _ rfl w4.heap.size (r64 4 (F4 (a ^ (pP - 2) % pP))) rfl rfl 24 (r64 4 zF) ((Blk.new w4 _ _).cast_ zero4') (HS.out _) (by simp only [row_size]) (row_one fun _ => rfl) ?_; refine wpList_gen (KF w.heap.size w [(w4.heap.size, F4 (a ^ (pP - 2) % pP)), (g4, F4 ((a + 0) % pP)), (w.heap.size, F4 a)]) (h4.new _ _) (fun w5 h5 => ?_))
      | (refine wpList_valG (R := fun w' => w' = _) (.agg (r64 4 (F4 ((a + 0) % pP)))) rfl (lands_fe _ rfl _ rfl _ (h5.blk _ m1) rfl) ?_; rintro _ rfl; simp only [Act.put, List.setIfInBounds_toArray, List.set_cons_zero, List.set_cons_succ])
      | (refine wpList_valG (R := fun w' => w' = _) (.agg (r64 4 (F4 (a ^ (pP - 2) % pP)))) rfl (lands_fe _ rfl _ rfl _ (h5.blk _ m0) rfl) ?_; rintro _ rfl; simp only [Act.put, List.setIfInBounds_toArray, List.set_cons_zero, List.set_cons_succ])
      | (refine wpList_val (R := fun w' => w' = _) (.agg (r64 4 (F4 0))) rfl (lands_zero rfl rfl) ?_; rintro _ rfl)
      | (refine wpList_valG (R := fun w' => w' = _) (.bool false) rfl (lands_eql _ _ rfl ((a + 0) % pP) 0 rfl rfl (mod_lt_M _) (by decide) false (decide_eq_false C.out) rfl) ?_; rintro _ rfl))
    clear h4
    generalize w4.heap.size = g5 at h5 ⊢
    refine wp_region_anyL (Two 1000 1001 fun _ _ wx => KF w.heap.size w [(g5, F4 (a ^ (pP - 2) % pP)), (g4, F4 ((a + 0) % pP)), (w.heap.size, F4 a)] wx) (by kernel_rfl) h5.drew ?_
    refine anyL_take (i := 0) (v := ?_) rfl (by kernel_rfl) (by kernel_rfl) (by kernel_rfl) (yl_other (by decide) (by decide) rfl (fun f1 f2 wx hT => ?_)) ?_; rotate_left
    · refine lands_value (w := wx) ?_ hT; go_simp <;> rfl
    simp only [Act.put, List.setIfInBounds_toArray, List.set_cons_zero, List.set_cons_succ]
    refine anyL_take (i := 1) (v := ?_) rfl (by kernel_rfl) (by kernel_rfl) (by kernel_rfl) (yl_other (by decide) (by decide) rfl (fun f1 f2 wx hT => ?_)) ?_; rotate_left
    · refine lands_value (w := wx) ?_ hT; go_simp <;> rfl
    simp only [Act.put, List.setIfInBounds_toArray, List.set_cons_zero, List.set_cons_succ]
    refine anyL_take (i := 2) (v := .agg (r64 4 (F4 a))) rfl (by kernel_rfl) (by kernel_rfl) (by kernel_rfl) (yl_other (by decide) (by decide) rfl (fun f1 f2 wx hT => ?_)) ?_
    · exact lands_fe _ rfl _ rfl _ (hT.blk _ m2) hT
    simp only [Act.put, List.setIfInBounds_toArray, List.set_cons_zero, List.set_cons_succ]
    refine anyL_take (i := 3) (v := .agg (r64 4 (F4 (a ^ (pP - 2) % pP)))) rfl (by kernel_rfl) (by kernel_rfl) (by kernel_rfl) (yl_other (by decide) (by decide) rfl (fun f1 f2 wx hT => ?_)) ?_
    · exact lands_fe _ rfl _ rfl _ (hT.blk _ m0) hT
    simp only [Act.put, List.setIfInBounds_toArray, List.set_cons_zero, List.set_cons_succ]
    refine anyL_take (i := 4) (v := .agg (r64 4 (F4 (a * (a ^ (pP - 2) % pP) % pP)))) rfl (by kernel_rfl) (by kernel_rfl) (by kernel_rfl) (yl_other (by decide) (by decide) rfl (fun f1 f2 wx hT => ?_)) ?_
    · exact lands_calls (w := wx) ((fmul_any a (a ^ (pP - 2) % pP) wx ha (mod_lt_M _)).mono fun _ _ ⟨he, hb⟩ => ⟨he, hT.below hb⟩) (by go_simp)
    simp only [Act.put, List.setIfInBounds_toArray, List.set_cons_zero, List.set_cons_succ]
    refine anyL_take (i := 5) (v := .agg (r64 4 (F4 1))) rfl (by kernel_rfl) (by kernel_rfl) (by kernel_rfl) (yl_other (by decide) (by decide) rfl (fun f1 f2 wx hT => ?_)) ?_
    · exact lands_calls (w := wx) ((fsmall1 wx).mono fun _ _ ⟨he, hb⟩ => ⟨he, hT.below hb⟩) (by go_simp)
    simp only [Act.put, List.setIfInBounds_toArray, List.set_cons_zero, List.set_cons_succ]
    refine anyL_take (i := 6) (v := .bool true) rfl (by kernel_rfl) (by kernel_rfl) (by kernel_rfl) (yl_other (by decide) (by decide) rfl (fun f1 f2 wx hT => ?_)) ?_
    · exact lands_eql _ _ rfl (a * (a ^ (pP - 2) % pP) % pP) 1 rfl rfl (mod_lt_M _) (by decide) true (decide_eq_true (inv_one D.out)) hT
    simp only [Act.put, List.setIfInBounds_toArray, List.set_cons_zero, List.set_cons_succ]
    refine anyL_take (i := 7) (v := ?_) rfl (by kernel_rfl) (by kernel_rfl) (by kernel_rfl) (yl_other (by decide) (by decide) rfl (fun f1 f2 wx hT => ?_)) ?_; rotate_left
    · refine lands_value (w := wx) ?_ hT; go_simp <;> rfl
    simp only [Act.put, List.setIfInBounds_toArray, List.set_cons_zero, List.set_cons_succ]
    refine anyL_take (i := 8) (v := ?_) rfl (by kernel_rfl) (by kernel_rfl) (by kernel_rfl) (yl_other (by decide) (by decide) rfl (fun f1 f2 wx hT => ?_)) ?_; rotate_left
    · refine lands_value (w := wx) ?_ hT; go_simp <;> rfl
    simp only [Act.put, List.setIfInBounds_toArray, List.set_cons_zero, List.set_cons_succ]
    refine anyL_take (i := 9) (v := .agg (r64 4 (F4 (a ^ (pP - 2) % pP)))) rfl (by kernel_rfl) (by kernel_rfl) (by kernel_rfl) (yl_other (by decide) (by decide) rfl (fun f1 f2 wx hT => ?_)) ?_
    · exact lands_fe _ rfl _ rfl _ (hT.blk _ m0) hT
    simp only [Act.put, List.setIfInBounds_toArray, List.set_cons_zero, List.set_cons_succ]
    refine anyL_take (i := 10) (v := .agg (r64 4 (F4 ((a ^ (pP - 2) % pP) ^ (pP - 2) % pP)))) rfl (by kernel_rfl) (by kernel_rfl) (by kernel_rfl) (yl_other (by decide) (by decide) rfl (fun f1 f2 wx hT => ?_)) ?_
    · exact lands_calls (w := wx) ((finv_any (a ^ (pP - 2) % pP) wx (mod_lt_M _)).mono fun _ _ ⟨he, hb⟩ => ⟨he, hT.below hb⟩) (by go_simp)
    simp only [Act.put, List.setIfInBounds_toArray, List.set_cons_zero, List.set_cons_succ]
    refine anyL_take (i := 11) (v := .agg (r64 4 (F4 ((a + 0) % pP)))) rfl (by kernel_rfl) (by kernel_rfl) (by kernel_rfl) (yl_other (by decide) (by decide) rfl (fun f1 f2 wx hT => ?_)) ?_
    · exact lands_fe _ rfl _ rfl _ (hT.blk _ m1) hT
    simp only [Act.put, List.setIfInBounds_toArray, List.set_cons_zero, List.set_cons_succ]
    refine anyL_take (i := 12) (v := .bool true) rfl (by kernel_rfl) (by kernel_rfl) (by kernel_rfl) (yl_other (by decide) (by decide) rfl (fun f1 f2 wx hT => ?_)) ?_
    · exact lands_eql _ _ rfl ((a ^ (pP - 2) % pP) ^ (pP - 2) % pP) ((a + 0) % pP) rfl rfl (mod_lt_M _) (mod_lt_M _) true (decide_eq_true (inv_inv_own D.out)) hT
    simp only [Act.put, List.setIfInBounds_toArray, List.set_cons_zero, List.set_cons_succ]
    refine anyL_take (i := 13) (v := ?_) rfl (by kernel_rfl) (by kernel_rfl) (by kernel_rfl) (yl_other (by decide) (by decide) rfl (fun f1 f2 wx hT => ?_)) ?_; rotate_left
    · refine lands_value (w := wx) ?_ hT; go_simp <;> rfl
    simp only [Act.put, List.setIfInBounds_toArray, List.set_cons_zero, List.set_cons_succ]
    refine anyL_take (i := 14) (v := ?_) rfl (by kernel_rfl) (by kernel_rfl) (by kernel_rfl) (yl_other (by decide) (by decide) rfl (fun f1 f2 wx hT => ?_)) ?_; rotate_left
    · refine lands_value (w := wx) ?_ hT; go_simp <;> rfl
    simp only [Act.put, List.setIfInBounds_toArray, List.set_cons_zero, List.set_cons_succ]
    refine anyL_done (by kernel_rfl) (fun w7 (h7 : KF w.heap.size w [(g5, F4 (a ^ (pP - 2) % pP)), (g4, F4 ((a + 0) % pP)), (w.heap.size, F4 a)] w7) => ?_) _
    clear h5
    go_wp2_with fail
    go_ret
    exact ⟨rfl, h7.b⟩
end Go.Proofs.Ytjggclhhimccoaa
