/- The chapter's examples: examples answers true. -/
import Derived.Test.YtjggclhhimccoaaGm
import Derived.Test.YtjggclhhimccoaaPrime
namespace Go.Proofs.Ytjggclhhimccoaa
open Go.RowKit
theorem flast_any (w : World) :
    Calls Try.prog 36 #[] w fun e w' => e = .returned (.agg (r64 4 (F4 (pP - 1)))) ∧ Below w.heap.size w w' := by
  have HS := Lib.hid fe_size
  go_enter Try.func36, Try.ntmps36
  go_wp2_with (refine wpList_store_row rfl 24 _ _ rfl w.heap.size (r64 4 (F4 (pP - 1))) rfl (by kernel_rfl) 24 _ (Blk.new w _ _) (HS.out _) (by rw [row_size]; rfl) (row_one fun _ => rfl) ?_)
  simp only [Act.put]
  exact bodyPost_ret (results_cell_row rfl _ _ w.heap.size 24 (r64 4 (F4 (pP - 1))) (0, 0) _ rfl ((Blk.new w _ _).row_ _) Try.underlying24 rfl (HS.out _)) rfl ⟨rfl, below_setRow' ((Below.refl _ _).alloc (Nat.le_refl _) _) (by omega) _⟩
theorem fright_true (a : Nat) (w : World) (ha : a < M256) (h : a % pP = a) :
    Calls Try.prog 22 #[.agg (r64 4 (F4 a))] w fun e w' => e = .returned (.bool true) ∧ Below w.heap.size w w' := by
  have := fright_any a w ha
  rw [decide_eq_true h] at this; exact this
theorem fright_false (a : Nat) (w : World) (ha : a < M256) (h : ¬ a % pP = a) :
    Calls Try.prog 22 #[.agg (r64 4 (F4 a))] w fun e w' => e = .returned (.bool false) ∧ Below w.heap.size w w' := by
  have := fright_any a w ha
  rw [decide_eq_false h] at this; exact this
/-- A literal of four words, built. -/
theorem lands_lit {P : Program} {R : World → Prop} {o : Oper} {ac : Act} {w : World} (T : TypeId) (parts : Array (Nat × Operand)) (ho : o.op = .build T parts) (cs : Array Value)
    (hb : P.built T (parts.map fun (i, x) => (i, ac.eval x)).toList = some cs) (hR : R w) : Lands P R (.agg cs) ((execOp ac.eval o).run P w) := by
  have : (execOp ac.eval o).run P w = .ok (.value (.agg cs)) w := by
    unfold execOp
    simp only [ho, Sem.run_bind, run_build w _ _ _ hb, Result.andThen_ok, Sem.run_pure]
  rw [this]; exact ⟨rfl, hR⟩
theorem lands_zero {R : World → Prop} {o : Oper} {ac : Act} {w : World} (ho : o.op = .build 24 #[]) (hR : R w) : Lands Try.prog R (.agg (r64 4 (F4 0))) ((execOp ac.eval o).run Try.prog w) := by
  rw [← zero4F]
  exact lands_lit 24 #[] ho _ (by simpa using builtE) hR
theorem p_row : #[Value.int .u64 18446744073709551597, .int .u64 18446744073709551615, .int .u64 18446744073709551615, .int .u64 9223372036854775807] = r64 4 (F4 pP) := by kernel_rfl
theorem p_built : Try.prog.built 24 [(0, .int .u64 18446744073709551597), (1, .int .u64 18446744073709551615), (2, .int .u64 18446744073709551615), (3, .int .u64 9223372036854775807)] = some #[.int .u64 18446744073709551597, .int .u64 18446744073709551615, .int .u64 18446744073709551615, .int .u64 9223372036854775807] := by kernel_rfl
theorem lands_p {R : World → Prop} {o : Oper} {ac : Act} {w : World} (ho : o.op = .build 24 #[(0, .const (.int .u64 18446744073709551597)), (1, .const (.int .u64 18446744073709551615)), (2, .const (.int .u64 18446744073709551615)), (3, .const (.int .u64 9223372036854775807))]) (hR : R w) : Lands Try.prog R (.agg (r64 4 (F4 pP))) ((execOp ac.eval o).run Try.prog w) := by
  rw [← p_row]
  exact lands_lit 24 _ ho _ (by simpa [Act.eval] using p_built) hR
theorem pP_eq : pP = P25519 := rfl
theorem e8_pow (a : Nat) : a ^ E8 % pP = pmod pP a 253 E8 := (pmod_eq pP a 253 E8 (by decide)).symm
theorem near_pmod (u v : Nat) : nearV u v = (u * cuV v % pP) * pmod pP (u * seV v % pP) 253 E8 % pP := by
  unfold nearV pwV; rw [e8_pow]
theorem root_pmod (u v : Nat) : rootV u v = rootW (u % pP) v ((u % pP * cuV v % pP) * pmod pP (u % pP * seV v % pP) 253 E8 % pP) := by
  unfold rootV; rw [near_pmod]
theorem root_41 : rootV 4 1 = (2, true) := by
  rw [root_pmod]
  decide +kernel
theorem froot_41 (w : World) :
    Calls Try.prog 30 #[.agg (r64 4 (F4 4)), .agg (r64 4 (F4 1))] w fun e w' => e = .returned (.tuple #[.agg (r64 4 (F4 2)), .bool true]) ∧ Below w.heap.size w w' := by
  have := froot_any 4 1 w (by decide) (by decide)
  rw [root_41] at this; exact this
set_option maxRecDepth 100000 in
set_option maxHeartbeats 4000000 in
theorem examples_any (w : World) :
    Calls Try.prog 11 #[] w fun e w' => e = .returned (.bool true) ∧ Below w.heap.size w w' := by
  have HS := Lib.hid fe_size
  go_enter Try.func11, Try.ntmps11
  go_wp2_with fail
  refine (fsmall2 _).mono ?_
  rintro e w1 ⟨rfl, hq⟩
  have h1 : KF w.heap.size w [] w1 := ⟨hq, hq.size, fun x hx => by cases hx⟩
  clear hq
  go_wp2_with (refine wpList_store_row rfl 24 _ _ rfl w1.heap.size (r64 4 (F4 2)) rfl rfl 24 (r64 4 zF) ((Blk.new w1 _ _).cast_ zero4') (HS.out _) (by simp only [row_size]) (row_one fun _ => rfl) ?_; refine wpList_gen (KF w.heap.size w [(w1.heap.size, F4 2)]) (h1.new _ _) (fun w2 h2 => ?_))
  clear h1
  generalize w1.heap.size = g1 at h2 ⊢
  refine (fsmall4 _).mono ?_
  rintro e w3 ⟨rfl, hq⟩
  have h3 := h2.below hq
  clear h2 hq
  go_wp2_with fail
  refine (fsmall1 _).mono ?_
  rintro e w4 ⟨rfl, hq⟩
  have h4 := h3.below hq
  clear h3 hq
  go_wp2_with fail
  refine (froot_41 _).mono ?_
  rintro e w5 ⟨rfl, hq⟩
  have h5 := h4.below hq
  clear h4 hq
  go_wp2_with (refine wpList_store_row rfl 24 _ _ rfl w5.heap.size (r64 4 (F4 2)) rfl rfl 24 (r64 4 zF) ((Blk.new w5 _ _).cast_ zero4') (HS.out _) (by simp only [row_size]) (row_one fun _ => rfl) ?_; refine wpList_gen (KF w.heap.size w [(w5.heap.size, F4 2), (g1, F4 2)]) (h5.new _ _) (fun w6 h6 => ?_))
  clear h5
  generalize w5.heap.size = g2 at h6 ⊢
  refine wp_region_anyL (Two 1000 1001 fun _ _ wx => KF w.heap.size w [(g2, F4 2), (g1, F4 2)] wx) (by kernel_rfl) h6.drew ?_
  refine anyL_take (i := 0) (v := .agg (r64 4 (F4 (pP - 1)))) rfl (by kernel_rfl) (by kernel_rfl) (by kernel_rfl) (yl_other (by decide) (by decide) rfl (fun f1 f2 wx hT => ?_)) ?_
  · exact lands_calls (w := wx) ((flast_any wx).mono fun _ _ ⟨he, hb⟩ => ⟨he, hT.below hb⟩) (by go_simp)
  simp only [Act.put, List.setIfInBounds_toArray, List.set_cons_zero, List.set_cons_succ]
  refine anyL_take (i := 1) (v := .agg (r64 4 (F4 2))) rfl (by kernel_rfl) (by kernel_rfl) (by kernel_rfl) (yl_other (by decide) (by decide) rfl (fun f1 f2 wx hT => ?_)) ?_
  · exact lands_fe _ rfl _ rfl _ (hT.blk _ m1) hT
  simp only [Act.put, List.setIfInBounds_toArray, List.set_cons_zero, List.set_cons_succ]
  refine anyL_take (i := 2) (v := .agg (r64 4 (F4 (((pP - 1) + 2) % pP)))) rfl (by kernel_rfl) (by kernel_rfl) (by kernel_rfl) (yl_other (by decide) (by decide) rfl (fun f1 f2 wx hT => ?_)) ?_
  · exact lands_calls (w := wx) ((fadd_any (pP - 1) 2 wx (by decide) (by decide)).mono fun _ _ ⟨he, hb⟩ => ⟨he, hT.below hb⟩) (by go_simp)
  simp only [Act.put, List.setIfInBounds_toArray, List.set_cons_zero, List.set_cons_succ]
  refine anyL_take (i := 3) (v := .agg (r64 4 (F4 1))) rfl (by kernel_rfl) (by kernel_rfl) (by kernel_rfl) (yl_other (by decide) (by decide) rfl (fun f1 f2 wx hT => ?_)) ?_
  · exact lands_calls (w := wx) ((fsmall1 wx).mono fun _ _ ⟨he, hb⟩ => ⟨he, hT.below hb⟩) (by go_simp)
  simp only [Act.put, List.setIfInBounds_toArray, List.set_cons_zero, List.set_cons_succ]
  refine anyL_take (i := 4) (v := .bool true) rfl (by kernel_rfl) (by kernel_rfl) (by kernel_rfl) (yl_other (by decide) (by decide) rfl (fun f1 f2 wx hT => ?_)) ?_
  · exact lands_eql _ _ rfl (((pP - 1) + 2) % pP) 1 rfl rfl (mod_lt_M _) (by decide) true (decide_eq_true (show ((pP - 1) + 2) % pP = 1 by decide)) hT
  simp only [Act.put, List.setIfInBounds_toArray, List.set_cons_zero, List.set_cons_succ]
  refine anyL_take (i := 5) (v := ?_) rfl (by kernel_rfl) (by kernel_rfl) (by kernel_rfl) (yl_other (by decide) (by decide) rfl (fun f1 f2 wx hT => ?_)) ?_; rotate_left
  · refine lands_value (w := wx) ?_ hT; go_simp <;> rfl
  simp only [Act.put, List.setIfInBounds_toArray, List.set_cons_zero, List.set_cons_succ]
  refine anyL_take (i := 6) (v := .agg (r64 4 (F4 (pP - 1)))) rfl (by kernel_rfl) (by kernel_rfl) (by kernel_rfl) (yl_other (by decide) (by decide) rfl (fun f1 f2 wx hT => ?_)) ?_
  · exact lands_calls (w := wx) ((flast_any wx).mono fun _ _ ⟨he, hb⟩ => ⟨he, hT.below hb⟩) (by go_simp)
  simp only [Act.put, List.setIfInBounds_toArray, List.set_cons_zero, List.set_cons_succ]
  refine anyL_take (i := 7) (v := .agg (r64 4 (F4 (pP - 1)))) rfl (by kernel_rfl) (by kernel_rfl) (by kernel_rfl) (yl_other (by decide) (by decide) rfl (fun f1 f2 wx hT => ?_)) ?_
  · exact lands_calls (w := wx) ((flast_any wx).mono fun _ _ ⟨he, hb⟩ => ⟨he, hT.below hb⟩) (by go_simp)
  simp only [Act.put, List.setIfInBounds_toArray, List.set_cons_zero, List.set_cons_succ]
  refine anyL_take (i := 8) (v := .agg (r64 4 (F4 ((pP - 1) * (pP - 1) % pP)))) rfl (by kernel_rfl) (by kernel_rfl) (by kernel_rfl) (yl_other (by decide) (by decide) rfl (fun f1 f2 wx hT => ?_)) ?_
  · exact lands_calls (w := wx) ((fmul_any (pP - 1) (pP - 1) wx (by decide) (by decide)).mono fun _ _ ⟨he, hb⟩ => ⟨he, hT.below hb⟩) (by go_simp)
  simp only [Act.put, List.setIfInBounds_toArray, List.set_cons_zero, List.set_cons_succ]
  refine anyL_take (i := 9) (v := .agg (r64 4 (F4 1))) rfl (by kernel_rfl) (by kernel_rfl) (by kernel_rfl) (yl_other (by decide) (by decide) rfl (fun f1 f2 wx hT => ?_)) ?_
  · exact lands_calls (w := wx) ((fsmall1 wx).mono fun _ _ ⟨he, hb⟩ => ⟨he, hT.below hb⟩) (by go_simp)
  simp only [Act.put, List.setIfInBounds_toArray, List.set_cons_zero, List.set_cons_succ]
  refine anyL_take (i := 10) (v := .bool true) rfl (by kernel_rfl) (by kernel_rfl) (by kernel_rfl) (yl_other (by decide) (by decide) rfl (fun f1 f2 wx hT => ?_)) ?_
  · exact lands_eql _ _ rfl ((pP - 1) * (pP - 1) % pP) 1 rfl rfl (mod_lt_M _) (by decide) true (decide_eq_true (show (pP - 1) * (pP - 1) % pP = 1 by decide)) hT
  simp only [Act.put, List.setIfInBounds_toArray, List.set_cons_zero, List.set_cons_succ]
  refine anyL_take (i := 11) (v := ?_) rfl (by kernel_rfl) (by kernel_rfl) (by kernel_rfl) (yl_other (by decide) (by decide) rfl (fun f1 f2 wx hT => ?_)) ?_; rotate_left
  · refine lands_value (w := wx) ?_ hT; go_simp <;> rfl
  simp only [Act.put, List.setIfInBounds_toArray, List.set_cons_zero, List.set_cons_succ]
  refine anyL_take (i := 12) (v := ?_) rfl (by kernel_rfl) (by kernel_rfl) (by kernel_rfl) (yl_other (by decide) (by decide) rfl (fun f1 f2 wx hT => ?_)) ?_; rotate_left
  · refine lands_value (w := wx) ?_ hT; go_simp <;> rfl
  simp only [Act.put, List.setIfInBounds_toArray, List.set_cons_zero, List.set_cons_succ]
  refine anyL_take (i := 13) (v := .agg (r64 4 (F4 (pP - 1)))) rfl (by kernel_rfl) (by kernel_rfl) (by kernel_rfl) (yl_other (by decide) (by decide) rfl (fun f1 f2 wx hT => ?_)) ?_
  · exact lands_calls (w := wx) ((flast_any wx).mono fun _ _ ⟨he, hb⟩ => ⟨he, hT.below hb⟩) (by go_simp)
  simp only [Act.put, List.setIfInBounds_toArray, List.set_cons_zero, List.set_cons_succ]
  refine anyL_take (i := 14) (v := .bool true) rfl (by kernel_rfl) (by kernel_rfl) (by kernel_rfl) (yl_other (by decide) (by decide) rfl (fun f1 f2 wx hT => ?_)) ?_
  · exact lands_calls (w := wx) ((fright_true (pP - 1) wx (by decide) (show (pP - 1) % pP = pP - 1 by decide)).mono fun _ _ ⟨he, hb⟩ => ⟨he, hT.below hb⟩) (by go_simp)
  simp only [Act.put, List.setIfInBounds_toArray, List.set_cons_zero, List.set_cons_succ]
  refine anyL_take (i := 15) (v := ?_) rfl (by kernel_rfl) (by kernel_rfl) (by kernel_rfl) (yl_other (by decide) (by decide) rfl (fun f1 f2 wx hT => ?_)) ?_; rotate_left
  · refine lands_value (w := wx) ?_ hT; go_simp <;> rfl
  simp only [Act.put, List.setIfInBounds_toArray, List.set_cons_zero, List.set_cons_succ]
  refine anyL_take (i := 16) (v := ?_) rfl (by kernel_rfl) (by kernel_rfl) (by kernel_rfl) (yl_other (by decide) (by decide) rfl (fun f1 f2 wx hT => ?_)) ?_; rotate_left
  · refine lands_value (w := wx) ?_ hT; go_simp <;> rfl
  simp only [Act.put, List.setIfInBounds_toArray, List.set_cons_zero, List.set_cons_succ]
  refine anyL_take (i := 17) (v := .agg (r64 4 (F4 pP))) rfl (by kernel_rfl) (by kernel_rfl) (by kernel_rfl) (yl_other (by decide) (by decide) rfl (fun f1 f2 wx hT => ?_)) ?_
  · exact lands_p rfl hT
  simp only [Act.put, List.setIfInBounds_toArray, List.set_cons_zero, List.set_cons_succ]
  refine anyL_take (i := 18) (v := .bool false) rfl (by kernel_rfl) (by kernel_rfl) (by kernel_rfl) (yl_other (by decide) (by decide) rfl (fun f1 f2 wx hT => ?_)) ?_
  · exact lands_calls (w := wx) ((fright_false pP wx pP_lt (show ¬ pP % pP = pP by decide)).mono fun _ _ ⟨he, hb⟩ => ⟨he, hT.below hb⟩) (by go_simp)
  simp only [Act.put, List.setIfInBounds_toArray, List.set_cons_zero, List.set_cons_succ]
  refine anyL_take (i := 19) (v := ?_) rfl (by kernel_rfl) (by kernel_rfl) (by kernel_rfl) (yl_other (by decide) (by decide) rfl (fun f1 f2 wx hT => ?_)) ?_; rotate_left
  · refine lands_value (w := wx) ?_ hT; go_simp <;> rfl
  simp only [Act.put, List.setIfInBounds_toArray, List.set_cons_zero, List.set_cons_succ]
  refine anyL_take (i := 20) (v := ?_) rfl (by kernel_rfl) (by kernel_rfl) (by kernel_rfl) (yl_other (by decide) (by decide) rfl (fun f1 f2 wx hT => ?_)) ?_; rotate_left
  · refine lands_value (w := wx) ?_ hT; go_simp <;> rfl
  simp only [Act.put, List.setIfInBounds_toArray, List.set_cons_zero, List.set_cons_succ]
  refine anyL_take (i := 21) (v := ?_) rfl (by kernel_rfl) (by kernel_rfl) (by kernel_rfl) (yl_other (by decide) (by decide) rfl (fun f1 f2 wx hT => ?_)) ?_; rotate_left
  · refine lands_value (w := wx) ?_ hT; go_simp <;> rfl
  simp only [Act.put, List.setIfInBounds_toArray, List.set_cons_zero, List.set_cons_succ]
  refine anyL_take (i := 22) (v := .agg (r64 4 (F4 2))) rfl (by kernel_rfl) (by kernel_rfl) (by kernel_rfl) (yl_other (by decide) (by decide) rfl (fun f1 f2 wx hT => ?_)) ?_
  · exact lands_fe _ rfl _ rfl _ (hT.blk _ m0) hT
  simp only [Act.put, List.setIfInBounds_toArray, List.set_cons_zero, List.set_cons_succ]
  refine anyL_take (i := 23) (v := .agg (r64 4 (F4 2))) rfl (by kernel_rfl) (by kernel_rfl) (by kernel_rfl) (yl_other (by decide) (by decide) rfl (fun f1 f2 wx hT => ?_)) ?_
  · exact lands_fe _ rfl _ rfl _ (hT.blk _ m1) hT
  simp only [Act.put, List.setIfInBounds_toArray, List.set_cons_zero, List.set_cons_succ]
  refine anyL_take (i := 24) (v := .bool true) rfl (by kernel_rfl) (by kernel_rfl) (by kernel_rfl) (yl_other (by decide) (by decide) rfl (fun f1 f2 wx hT => ?_)) ?_
  · exact lands_eql _ _ rfl 2 2 rfl rfl (by decide) (by decide) true (decide_eq_true (rfl)) hT
  simp only [Act.put, List.setIfInBounds_toArray, List.set_cons_zero, List.set_cons_succ]
  refine anyL_take (i := 25) (v := ?_) rfl (by kernel_rfl) (by kernel_rfl) (by kernel_rfl) (yl_other (by decide) (by decide) rfl (fun f1 f2 wx hT => ?_)) ?_; rotate_left
  · refine lands_value (w := wx) ?_ hT; go_simp <;> rfl
  simp only [Act.put, List.setIfInBounds_toArray, List.set_cons_zero, List.set_cons_succ]
  refine anyL_take (i := 26) (v := ?_) rfl (by kernel_rfl) (by kernel_rfl) (by kernel_rfl) (yl_other (by decide) (by decide) rfl (fun f1 f2 wx hT => ?_)) ?_; rotate_left
  · refine lands_value (w := wx) ?_ hT; go_simp <;> rfl
  simp only [Act.put, List.setIfInBounds_toArray, List.set_cons_zero, List.set_cons_succ]
  refine anyL_take (i := 27) (v := ?_) rfl (by kernel_rfl) (by kernel_rfl) (by kernel_rfl) (yl_other (by decide) (by decide) rfl (fun f1 f2 wx hT => ?_)) ?_; rotate_left
  · refine lands_value (w := wx) ?_ hT; go_simp <;> rfl
  simp only [Act.put, List.setIfInBounds_toArray, List.set_cons_zero, List.set_cons_succ]
  refine anyL_take (i := 28) (v := ?_) rfl (by kernel_rfl) (by kernel_rfl) (by kernel_rfl) (yl_other (by decide) (by decide) rfl (fun f1 f2 wx hT => ?_)) ?_; rotate_left
  · refine lands_value (w := wx) ?_ hT; go_simp <;> rfl
  simp only [Act.put, List.setIfInBounds_toArray, List.set_cons_zero, List.set_cons_succ]
  refine anyL_take (i := 29) (v := ?_) rfl (by kernel_rfl) (by kernel_rfl) (by kernel_rfl) (yl_other (by decide) (by decide) rfl (fun f1 f2 wx hT => ?_)) ?_; rotate_left
  · refine lands_value (w := wx) ?_ hT; go_simp <;> rfl
  simp only [Act.put, List.setIfInBounds_toArray, List.set_cons_zero]
  refine anyL_done (by kernel_rfl) (fun w7 (h7 : KF w.heap.size w [(g2, F4 2), (g1, F4 2)] w7) => ?_) _
  clear h6
  go_wp2_with fail
  go_ret
  exact ⟨rfl, h7.b⟩
end Go.Proofs.Ytjggclhhimccoaa
