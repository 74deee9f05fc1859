/- PointTimes: the walk. (written by mkQ6.py) -/
import Derived.Test.YtehcigidjghddaaQCs
import Derived.Test.YtehcigidjghddaaQAm
namespace Go.Proofs.Ytehcigidjghddaa
open Go.RowKit
set_option maxRecDepth 100000 in
set_option maxHeartbeats 4000000 in
theorem times_any (n s : ByteArray) (p : Pt) (hp : p.ok) (a : Bool) (w : World) :
    Calls Try.prog 4 #[.string n, .string s, .agg (nums 2 (two p.x p.y)), .bool a] w fun e w' => e = .returned (.bool true) ∧ Below w.heap.size w w' := by
  obtain ⟨X, hX⟩ : ∃ z, someX s p a = z := ⟨_, rfl⟩
  have oX : X.ok := hX ▸ someX_ok s hp a
  have CX := Lib.hid (some_is s p a X hX)
  clear hX
  obtain ⟨k, hk⟩ : ∃ z, min n.size 40 = z := ⟨_, rfl⟩
  have hkn : k ≤ n.size := by omega
  have HK := Lib.hid hk
  clear hk
  obtain ⟨R, hR⟩ : ∃ z, pmul (cnt X) (numV (n.extract 0 k) 32) = z := ⟨_, rfl⟩
  have oR : R.ok := hR ▸ (pmul_on (cnt_C X) _).ok
  have HR := Lib.hid hR
  clear hR
  go_enter Try.func4, Try.ntmps4
  repeat (first | (with_reducible apply wp_seq_k; intro _ _) | with_reducible apply wp_block | with_reducible apply wp_skip | with_reducible apply wp_exit | (go_at_K; go_step) | with_reducible apply then_normal | with_reducible apply then_exit | with_reducible apply block_normal | with_reducible apply block_same | with_reducible exact block_far rfl ?_)
  have h1 := KD.begin w
  with_reducible apply wp_region_lit
  refine wpList_val (R := KD w.heap.size w [(w.heap.size, 26, nums 2 (two p.x p.y))]) (.pointer (some ⟨w.heap.size, 0, none⟩)) rfl (lands_run2 (box_run _ _ _ rfl rfl _) (h1.add _ _)) ?_
  intro w2 h2
  simp only [Act.put, List.setIfInBounds_toArray, List.set_cons_zero, List.set_cons_succ]
  clear h1
  refine wpList_val (R := KD w.heap.size w [(w.heap.size, 26, nums 2 (two p.x p.y))]) (.bool false) rfl (by refine lands_value (w := w2) ?_ h2; go_simp <;> rfl) ?_
  intro w3 h3
  simp only [Act.put, List.setIfInBounds_toArray, List.set_cons_zero, List.set_cons_succ]
  clear h2
  refine wpList_nil ?_
  repeat (first | (with_reducible apply wp_seq_k; intro _ _) | with_reducible apply wp_block | with_reducible apply wp_skip | with_reducible apply wp_exit | (go_at_K; go_step) | with_reducible apply then_normal | with_reducible apply then_exit | with_reducible apply block_normal | with_reducible apply block_same | with_reducible exact block_far rfl ?_)
  with_reducible apply wp_region_lit
  refine wpList_val (R := KD w.heap.size w [(w.heap.size, 26, nums 2 (two p.x p.y))]) (.bool true) rfl (by exact lands_calls (w := w3) ((examples_any w3).mono fun _ _ ⟨he, hb⟩ => ⟨he, h3.below hb⟩) (by go_simp)) ?_
  intro w4 h4
  simp only [Act.put, List.setIfInBounds_toArray, List.set_cons_zero, List.set_cons_succ]
  clear h3
  refine wpList_val (R := KD w.heap.size w [(w.heap.size, 26, nums 2 (two p.x p.y))]) (.bool true) rfl (by refine lands_value (w := w4) ?_ h4; go_simp <;> rfl) ?_
  intro w5 h5
  simp only [Act.put, List.setIfInBounds_toArray, List.set_cons_zero, List.set_cons_succ]
  clear h4
  refine wpList_nil ?_
  repeat (first | (with_reducible apply wp_seq_k; intro _ _) | with_reducible apply wp_block | with_reducible apply wp_skip | with_reducible apply wp_exit | (go_at_K; go_step) | with_reducible apply then_normal | with_reducible apply then_exit | with_reducible apply block_normal | with_reducible apply block_same | with_reducible exact block_far rfl ?_)
  with_reducible apply wp_region_lit
  refine wpList_val (R := KD w.heap.size w [(w.heap.size, 26, nums 2 (two p.x p.y))]) (.bool true) rfl (by refine lands_value (w := w5) ?_ h5; go_simp <;> rfl) ?_
  intro w6 h6
  simp only [Act.put, List.setIfInBounds_toArray, List.set_cons_zero, List.set_cons_succ]
  clear h5
  refine wpList_val (R := KD w.heap.size w [(w.heap.size, 26, nums 2 (two p.x p.y))]) (.bool false) rfl (by refine lands_value (w := w6) ?_ h6; go_simp <;> rfl) ?_
  intro w7 h7
  simp only [Act.put, List.setIfInBounds_toArray, List.set_cons_zero, List.set_cons_succ]
  clear h6
  refine wpList_nil ?_
  repeat (first | (with_reducible apply wp_seq_k; intro _ _) | with_reducible apply wp_block | with_reducible apply wp_skip | with_reducible apply wp_exit | (go_at_K; go_step) | with_reducible apply then_normal | with_reducible apply then_exit | with_reducible apply block_normal | with_reducible apply block_same | with_reducible exact block_far rfl ?_)
  refine wp_cond_false rfl ?_
  repeat (first | (with_reducible apply wp_seq_k; intro _ _) | with_reducible apply wp_block | with_reducible apply wp_skip | with_reducible apply wp_exit | (go_at_K; go_step) | with_reducible apply then_normal | with_reducible apply then_exit | with_reducible apply block_normal | with_reducible apply block_same | with_reducible exact block_far rfl ?_)
  with_reducible apply wp_region_lit
  refine wpList_val (R := KD w.heap.size w [(w.heap.size, 26, nums 2 (two p.x p.y))]) (.string s) rfl (by refine lands_value (w := w7) ?_ h7; go_simp <;> rfl) ?_
  intro w8 h8
  simp only [Act.put, List.setIfInBounds_toArray, List.set_cons_zero, List.set_cons_succ]
  clear h7
  refine wpList_val (R := KD w.heap.size w [(w.heap.size, 26, nums 2 (two p.x p.y))]) (.agg (nums 2 (two p.x p.y))) rfl (by exact lands_load _ _ rfl _ rfl _ _ _ (h8.blk _ m0) Try.underlying26 rfl (by kernel_rfl) h8) ?_
  intro w9 h9
  simp only [Act.put, List.setIfInBounds_toArray, List.set_cons_zero, List.set_cons_succ]
  clear h8
  refine wpList_val (R := KD w.heap.size w [(w.heap.size, 26, nums 2 (two p.x p.y))]) (.bool a) rfl (by refine lands_value (w := w9) ?_ h9; go_simp <;> rfl) ?_
  intro w10 h10
  simp only [Act.put, List.setIfInBounds_toArray, List.set_cons_zero, List.set_cons_succ]
  clear h9
  refine wpList_val (R := KD w.heap.size w [(w.heap.size, 26, nums 2 (two p.x p.y))]) (.agg (nums 2 (two X.x X.y))) rfl (by exact lands_calls (w := w10) ((CX.out w10).mono fun _ _ ⟨he, hb⟩ => ⟨he, h10.below hb⟩) (by go_simp)) ?_
  intro w11 h11
  simp only [Act.put, List.setIfInBounds_toArray, List.set_cons_zero, List.set_cons_succ]
  clear h10
  refine wpList_val (R := KD w.heap.size w [(w11.heap.size, 26, nums 2 (two 0 0)), (w.heap.size, 26, nums 2 (two p.x p.y))]) (.pointer (some ⟨w11.heap.size, 0, none⟩)) rfl (lands_run2 (alloc_run _ _ rfl zero_pt _) (h11.add _ _)) ?_
  intro w12 h12
  simp only [Act.put, List.setIfInBounds_toArray, List.set_cons_zero, List.set_cons_succ]
  clear h11
  generalize w11.heap.size = g13 at h12 ⊢
  refine wpList_val (R := KD w.heap.size w [(g13, 26, nums 2 (two X.x X.y)), (w.heap.size, 26, nums 2 (two p.x p.y))]) undef rfl (lands_store _ _ _ rfl g13 (nums 2 (two X.x X.y)) rfl rfl _ _ (h12.blk _ m0) (by kernel_rfl) (by kernel_rfl) (row_one fun _ => rfl) (h12.put (k := 0) rfl _)) ?_
  intro w14 h14
  simp only [Act.put]
  clear h12
  refine wpList_nil ?_
  repeat (first | (with_reducible apply wp_seq_k; intro _ _) | with_reducible apply wp_block | with_reducible apply wp_skip | with_reducible apply wp_exit | (go_at_K; go_step) | with_reducible apply then_normal | with_reducible apply then_exit | with_reducible apply block_normal | with_reducible apply block_same | with_reducible exact block_far rfl ?_)
  with_reducible apply wp_region_lit
  refine wpList_val (R := KD w.heap.size w [(g13, 26, nums 2 (two X.x X.y)), (w.heap.size, 26, nums 2 (two p.x p.y))]) (.string n) rfl (by refine lands_value (w := w14) ?_ h14; go_simp <;> rfl) ?_
  intro w15 h15
  simp only [Act.put, List.setIfInBounds_toArray, List.set_cons_zero, List.set_cons_succ]
  clear h14
  refine wpList_val (R := KD w.heap.size w [(g13, 26, nums 2 (two X.x X.y)), (w.heap.size, 26, nums 2 (two p.x p.y))]) (.string n) rfl (by refine lands_value (w := w15) ?_ h15; go_simp <;> rfl) ?_
  intro w16 h16
  simp only [Act.put, List.setIfInBounds_toArray, List.set_cons_zero, List.set_cons_succ]
  clear h15
  refine wpList_val (R := KD w.heap.size w [(g13, 26, nums 2 (two X.x X.y)), (w.heap.size, 26, nums 2 (two p.x p.y))]) (.int .i64 (n.size : Int)) rfl (by refine lands_value (w := w16) ?_ h16; go_simp) ?_
  intro w17 h17
  simp only [Act.put, List.setIfInBounds_toArray, List.set_cons_zero, List.set_cons_succ]
  clear h16
  refine wpList_val (R := KD w.heap.size w [(g13, 26, nums 2 (two X.x X.y)), (w.heap.size, 26, nums 2 (two p.x p.y))]) (.int .i64 (k : Int)) rfl (by have hm := HK.out; rw [← hm]; exact (lands_min (w := w17) _ n.size 40 rfl rfl rfl).weak fun _ e => e ▸ h17) ?_
  intro w18 h18
  simp only [Act.put, List.setIfInBounds_toArray, List.set_cons_zero, List.set_cons_succ]
  clear h17
  refine wpList_val (R := KD w.heap.size w [(g13, 26, nums 2 (two X.x X.y)), (w.heap.size, 26, nums 2 (two p.x p.y))]) (.string (n.extract 0 k)) rfl (by refine lands_value (w := w18) ?_ h18; go_simp) ?_
  intro w19 h19
  simp only [Act.put, List.setIfInBounds_toArray, List.set_cons_zero, List.set_cons_succ]
  clear h18
  refine wpList_val (R := KD w.heap.size w [(g13, 26, nums 2 (two X.x X.y)), (w.heap.size, 26, nums 2 (two p.x p.y))]) (.string (n.extract 0 k)) rfl (by refine lands_value (w := w19) ?_ h19; go_simp <;> rfl) ?_
  intro w20 h20
  simp only [Act.put, List.setIfInBounds_toArray, List.set_cons_zero]
  clear h19
  refine wpList_nil ?_
  repeat (first | (with_reducible apply wp_seq_k; intro _ _) | with_reducible apply wp_block | with_reducible apply wp_skip | with_reducible apply wp_exit | (go_at_K; go_step) | with_reducible apply then_normal | with_reducible apply then_exit | with_reducible apply block_normal | with_reducible apply block_same | with_reducible exact block_far rfl ?_)
  obtain ⟨n21, hn21⟩ : ∃ n, n = w20.heap.size := ⟨_, rfl⟩
  refine wp_region_anyE (KM w.heap.size n21 w (fun _ _ => [(g13, 26, nums 2 (two X.x X.y)), (w.heap.size, 26, nums 2 (two p.x p.y))]) 1000 1001 []) (fun _ => false) (by kernel_rfl) (KM.begin h20 hn21 (lows hn21 h20 (fun _ _ => rfl)) _) ?_
  refine anyE_take (i := 0) (.bool true) rfl rfl (by kernel_rfl) (by kernel_rfl) (by kernel_rfl) (fun qv => ym_other rfl rfl (fun L wx hT => ?_)) ?_
  · refine lands_value (w := wx) ?_ hT; go_simp <;> rfl
  simp only [Act.put, List.setIfInBounds_toArray, List.set_cons_zero, List.set_cons_succ]
  refine anyE_take (i := 1) (.bool true) rfl rfl (by kernel_rfl) (by kernel_rfl) (by kernel_rfl) (fun qv => ym_other rfl rfl (fun L wx hT => ?_)) ?_
  · refine lands_value (w := wx) ?_ hT; go_simp <;> rfl
  simp only [Act.put, List.setIfInBounds_toArray, List.set_cons_zero, List.set_cons_succ]
  refine anyE_take (i := 2) (.string (n.extract 0 k)) rfl rfl (by kernel_rfl) (by kernel_rfl) (by kernel_rfl) (fun qv => ym_other rfl rfl (fun L wx hT => ?_)) ?_
  · refine lands_value (w := wx) ?_ hT; go_simp <;> rfl
  simp only [Act.put, List.setIfInBounds_toArray, List.set_cons_zero, List.set_cons_succ]
  refine anyE_take (i := 3) (.agg (nums 2 (two X.x X.y))) rfl rfl (by kernel_rfl) (by kernel_rfl) (by kernel_rfl) (fun qv => ym_other rfl rfl (fun L wx hT => ?_)) ?_
  · exact lands_load _ _ rfl _ rfl _ _ _ (hT.k.blk _ m0) Try.underlying26 rfl (by kernel_rfl) hT
  simp only [Act.put, List.setIfInBounds_toArray, List.set_cons_zero, List.set_cons_succ]
  refine anyE_take (i := 4) (.agg (nums 2 (two R.x R.y))) rfl rfl (by kernel_rfl) (by kernel_rfl) (by kernel_rfl) (fun qv => ym_other rfl rfl (fun L wx hT => ?_)) ?_
  · exact lands_calls (w := wx) ((mul_is (n.extract 0 k) X R oX HR.out wx).mono fun _ _ ⟨he, hb⟩ => ⟨he, hT.below hb⟩) (by go_simp)
  simp only [Act.put, List.setIfInBounds_toArray, List.set_cons_zero, List.set_cons_succ]
  refine anyE_take (i := 5) (.string (n.extract 0 k)) rfl rfl (by kernel_rfl) (by kernel_rfl) (by kernel_rfl) (fun qv => ym_other rfl rfl (fun L wx hT => ?_)) ?_
  · refine lands_value (w := wx) ?_ hT; go_simp <;> rfl
  simp only [Act.put, List.setIfInBounds_toArray, List.set_cons_zero, List.set_cons_succ]
  refine anyE_take (i := 6) (.agg (nums 2 (two X.x X.y))) rfl rfl (by kernel_rfl) (by kernel_rfl) (by kernel_rfl) (fun qv => ym_other rfl rfl (fun L wx hT => ?_)) ?_
  · exact lands_load _ _ rfl _ rfl _ _ _ (hT.k.blk _ m0) Try.underlying26 rfl (by kernel_rfl) hT
  simp only [Act.put, List.setIfInBounds_toArray, List.set_cons_zero, List.set_cons_succ]
  refine anyE_take (i := 7) (.agg (nums 2 (two R.x R.y))) rfl rfl (by kernel_rfl) (by kernel_rfl) (by kernel_rfl) (fun qv => ym_other rfl rfl (fun L wx hT => ?_)) ?_
  · exact lands_calls (w := wx) ((rmul5_is (n.extract 0 k) X R oX HR.out wx).mono fun _ _ ⟨he, hb⟩ => ⟨he, hT.below hb⟩) (by go_simp)
  simp only [Act.put, List.setIfInBounds_toArray, List.set_cons_zero, List.set_cons_succ]
  refine anyE_take (i := 8) (.bool true) rfl rfl (by kernel_rfl) (by kernel_rfl) (by kernel_rfl) (fun qv => ym_other rfl rfl (fun L wx hT => ?_)) ?_
  · exact lands_eqlP _ _ rfl R R rfl rfl oR oR true (eqP_iff.2 rfl) hT
  simp only [Act.put, List.setIfInBounds_toArray, List.set_cons_zero, List.set_cons_succ]
  refine anyE_take (i := 9) (.bool true) rfl rfl (by kernel_rfl) (by kernel_rfl) (by kernel_rfl) (fun qv => ym_other rfl rfl (fun L wx hT => ?_)) ?_
  · refine lands_value (w := wx) ?_ hT; go_simp <;> rfl
  simp only [Act.put, List.setIfInBounds_toArray, List.set_cons_zero, List.set_cons_succ]
  refine anyE_take (i := 10) (.bool true) rfl rfl (by kernel_rfl) (by kernel_rfl) (by kernel_rfl) (fun qv => ym_other rfl rfl (fun L wx hT => ?_)) ?_
  · refine lands_value (w := wx) ?_ hT; go_simp <;> rfl
  simp only [Act.put, List.setIfInBounds_toArray, List.set_cons_zero, List.set_cons_succ]
  refine anyE_take (i := 11) (.agg (nums 2 (two bP.x bP.y))) rfl rfl (by kernel_rfl) (by kernel_rfl) (by kernel_rfl) (fun qv => ym_other rfl rfl (fun L wx hT => ?_)) ?_
  · exact lands_calls (w := wx) ((qbase_any wx).mono fun _ _ ⟨he, hb⟩ => ⟨he, hT.below hb⟩) (by go_simp)
  simp only [Act.put, List.setIfInBounds_toArray, List.set_cons_zero, List.set_cons_succ]
  refine anyE_take (i := 12) (.agg (nums 2 (two bP.x bP.y))) rfl rfl (by kernel_rfl) (by kernel_rfl) (by kernel_rfl) (fun qv => ym_other rfl rfl (fun L wx hT => ?_)) ?_
  · exact lands_calls (w := wx) ((rbase_any wx).mono fun _ _ ⟨he, hb⟩ => ⟨he, hT.below hb⟩) (by go_simp)
  simp only [Act.put, List.setIfInBounds_toArray, List.set_cons_zero, List.set_cons_succ]
  refine anyE_take (i := 13) (.bool true) rfl rfl (by kernel_rfl) (by kernel_rfl) (by kernel_rfl) (fun qv => ym_other rfl rfl (fun L wx hT => ?_)) ?_
  · exact lands_eqlP _ _ rfl bP bP rfl rfl base_on.ok base_on.ok true (eqP_iff.2 rfl) hT
  simp only [Act.put, List.setIfInBounds_toArray, List.set_cons_zero, List.set_cons_succ]
  refine anyE_take (i := 14) (.bool true) rfl rfl (by kernel_rfl) (by kernel_rfl) (by kernel_rfl) (fun qv => ym_other rfl rfl (fun L wx hT => ?_)) ?_
  · refine lands_value (w := wx) ?_ hT; go_simp <;> rfl
  simp only [Act.put, List.setIfInBounds_toArray, List.set_cons_zero, List.set_cons_succ]
  refine anyE_take (i := 15) (.bool true) rfl rfl (by kernel_rfl) (by kernel_rfl) (by kernel_rfl) (fun qv => ym_other rfl rfl (fun L wx hT => ?_)) ?_
  · refine lands_value (w := wx) ?_ hT; go_simp <;> rfl
  simp only [Act.put, List.setIfInBounds_toArray, List.set_cons_zero, List.set_cons_succ]
  refine anyE_take (i := 16) (.agg (nums 2 (two pZ.x pZ.y))) rfl rfl (by kernel_rfl) (by kernel_rfl) (by kernel_rfl) (fun qv => ym_other rfl rfl (fun L wx hT => ?_)) ?_
  · exact lands_calls (w := wx) ((qzero_any wx).mono fun _ _ ⟨he, hb⟩ => ⟨he, hT.below hb⟩) (by go_simp)
  simp only [Act.put, List.setIfInBounds_toArray, List.set_cons_zero, List.set_cons_succ]
  refine anyE_take (i := 17) (.agg (nums 2 (two pZ.x pZ.y))) rfl rfl (by kernel_rfl) (by kernel_rfl) (by kernel_rfl) (fun qv => ym_other rfl rfl (fun L wx hT => ?_)) ?_
  · exact lands_calls (w := wx) ((rzero_any wx).mono fun _ _ ⟨he, hb⟩ => ⟨he, hT.below hb⟩) (by go_simp)
  simp only [Act.put, List.setIfInBounds_toArray, List.set_cons_zero, List.set_cons_succ]
  refine anyE_take (i := 18) (.bool true) rfl rfl (by kernel_rfl) (by kernel_rfl) (by kernel_rfl) (fun qv => ym_other rfl rfl (fun L wx hT => ?_)) ?_
  · exact lands_eqlP _ _ rfl pZ pZ rfl rfl pZ_on.ok pZ_on.ok true (eqP_iff.2 rfl) hT
  simp only [Act.put, List.setIfInBounds_toArray, List.set_cons_zero, List.set_cons_succ]
  refine anyE_take (i := 19) (.bool true) rfl rfl (by kernel_rfl) (by kernel_rfl) (by kernel_rfl) (fun qv => ym_other rfl rfl (fun L wx hT => ?_)) ?_
  · refine lands_value (w := wx) ?_ hT; go_simp <;> rfl
  simp only [Act.put, List.setIfInBounds_toArray, List.set_cons_zero, List.set_cons_succ]
  refine anyE_take (i := 20) (.bool true) rfl rfl (by kernel_rfl) (by kernel_rfl) (by kernel_rfl) (fun qv => ym_other rfl rfl (fun L wx hT => ?_)) ?_
  · refine lands_value (w := wx) ?_ hT; go_simp <;> rfl
  simp only [Act.put, List.setIfInBounds_toArray, List.set_cons_zero, List.set_cons_succ]
  refine anyE_done (by kernel_rfl) (fun qv w22 hK => ?_) _
  have hE := hK.outs (by kernel_rfl) (by kernel_rfl)  (b := false) (c := false) (by kernel_rfl) (by kernel_rfl)
  clear hK h20 hn21
  have h22 : KD w.heap.size w [(g13, 26, nums 2 (two X.x X.y)), (w.heap.size, 26, nums 2 (two p.x p.y))] w22 := hE.k
  clear hE
  clear n21
  clear qv
  repeat (first | (with_reducible apply wp_seq_k; intro _ _) | with_reducible apply wp_block | with_reducible apply wp_skip | with_reducible apply wp_exit | (go_at_K; go_step) | with_reducible apply then_normal | with_reducible apply then_exit | with_reducible apply block_normal | with_reducible apply block_same | with_reducible exact block_far rfl ?_)
  with_reducible apply wp_ret
  repeat (first | with_reducible apply then_ret | with_reducible apply block_ret)
  exact bodyPost_ret (results_tmp rfl _ _ _) rfl ⟨rfl, h22.b⟩
end Go.Proofs.Ytehcigidjghddaa
