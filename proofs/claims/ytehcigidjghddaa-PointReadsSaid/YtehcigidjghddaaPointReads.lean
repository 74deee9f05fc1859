/- PointReads: the walk. (written by mkQ6.py) -/
import Derived.Test.YtehcigidjghddaaQCe
import Derived.Test.YtehcigidjghddaaQAd
import Derived.Test.YtehcigidjghddaaQAz
namespace Go.Proofs.Ytehcigidjghddaa
open Go.RowKit
set_option maxRecDepth 100000 in
set_option maxHeartbeats 4000000 in
theorem reads_any (s : ByteArray) (w : World) :
    Calls Try.prog 5 #[.string s] w fun e w' => e = .returned (.bool true) ∧ Below w.heap.size w w' := by
  obtain ⟨P, c, h⟩ : ∃ P c, decV s = (P, c) := ⟨_, _, rfl⟩
  have oP : P.ok := by have := decV_ok s; rwa [h] at this
  have H := Lib.hid h
  clear h
  go_enter Try.func5, Try.ntmps5
  repeat (first | (with_reducible apply wp_seq_k; intro _ _) | with_reducible apply wp_block | with_reducible apply wp_skip | with_reducible apply wp_exit | (go_at_K; go_step) | with_reducible apply then_normal | with_reducible apply then_exit | with_reducible apply block_normal | with_reducible apply block_same | with_reducible exact block_far rfl ?_)
  have h1 := KD.begin w
  with_reducible apply wp_region_lit
  refine wpList_val (R := KD w.heap.size w []) (.bool false) rfl (by refine lands_value (w := w) ?_ h1; go_simp <;> rfl) ?_
  intro w2 h2
  simp only [Act.put, List.setIfInBounds_toArray, List.set_cons_zero, List.set_cons_succ]
  clear h1
  refine wpList_nil ?_
  repeat (first | (with_reducible apply wp_seq_k; intro _ _) | with_reducible apply wp_block | with_reducible apply wp_skip | with_reducible apply wp_exit | (go_at_K; go_step) | with_reducible apply then_normal | with_reducible apply then_exit | with_reducible apply block_normal | with_reducible apply block_same | with_reducible exact block_far rfl ?_)
  with_reducible apply wp_region_lit
  refine wpList_val (R := KD w.heap.size w []) (.bool true) rfl (by exact lands_calls (w := w2) ((examples_any w2).mono fun _ _ ⟨he, hb⟩ => ⟨he, h2.below hb⟩) (by go_simp)) ?_
  intro w3 h3
  simp only [Act.put, List.setIfInBounds_toArray, List.set_cons_zero, List.set_cons_succ]
  clear h2
  refine wpList_val (R := KD w.heap.size w []) (.bool true) rfl (by refine lands_value (w := w3) ?_ h3; go_simp <;> rfl) ?_
  intro w4 h4
  simp only [Act.put, List.setIfInBounds_toArray, List.set_cons_zero, List.set_cons_succ]
  clear h3
  refine wpList_nil ?_
  repeat (first | (with_reducible apply wp_seq_k; intro _ _) | with_reducible apply wp_block | with_reducible apply wp_skip | with_reducible apply wp_exit | (go_at_K; go_step) | with_reducible apply then_normal | with_reducible apply then_exit | with_reducible apply block_normal | with_reducible apply block_same | with_reducible exact block_far rfl ?_)
  with_reducible apply wp_region_lit
  refine wpList_val (R := KD w.heap.size w []) (.bool true) rfl (by refine lands_value (w := w4) ?_ h4; go_simp <;> rfl) ?_
  intro w5 h5
  simp only [Act.put, List.setIfInBounds_toArray, List.set_cons_zero, List.set_cons_succ]
  clear h4
  refine wpList_val (R := KD w.heap.size w []) (.bool false) rfl (by refine lands_value (w := w5) ?_ h5; go_simp <;> rfl) ?_
  intro w6 h6
  simp only [Act.put, List.setIfInBounds_toArray, List.set_cons_zero, List.set_cons_succ]
  clear h5
  refine wpList_nil ?_
  repeat (first | (with_reducible apply wp_seq_k; intro _ _) | with_reducible apply wp_block | with_reducible apply wp_skip | with_reducible apply wp_exit | (go_at_K; go_step) | with_reducible apply then_normal | with_reducible apply then_exit | with_reducible apply block_normal | with_reducible apply block_same | with_reducible exact block_far rfl ?_)
  refine wp_cond_false rfl ?_
  repeat (first | (with_reducible apply wp_seq_k; intro _ _) | with_reducible apply wp_block | with_reducible apply wp_skip | with_reducible apply wp_exit | (go_at_K; go_step) | with_reducible apply then_normal | with_reducible apply then_exit | with_reducible apply block_normal | with_reducible apply block_same | with_reducible exact block_far rfl ?_)
  with_reducible apply wp_region_lit
  refine wpList_val (R := KD w.heap.size w []) (.string s) rfl (by refine lands_value (w := w6) ?_ h6; go_simp <;> rfl) ?_
  intro w7 h7
  simp only [Act.put, List.setIfInBounds_toArray, List.set_cons_zero, List.set_cons_succ]
  clear h6
  refine wpList_val (R := KD w.heap.size w []) (.tuple #[.agg (nums 2 (two P.x P.y)), .bool c]) rfl (by exact lands_calls (w := w7) ((dec_is s P c H.out w7).mono fun _ _ ⟨he, hb⟩ => ⟨he, h7.below hb⟩) (by go_simp)) ?_
  intro w8 h8
  simp only [Act.put, List.setIfInBounds_toArray, List.set_cons_zero, List.set_cons_succ]
  clear h7
  refine wpList_val (R := KD w.heap.size w []) (.tuple #[.agg (nums 2 (two P.x P.y)), .bool c]) rfl (by refine lands_value (w := w8) ?_ h8; go_simp <;> rfl) ?_
  intro w9 h9
  simp only [Act.put, List.setIfInBounds_toArray, List.set_cons_zero, List.set_cons_succ]
  clear h8
  refine wpList_val (R := KD w.heap.size w []) (.agg (nums 2 (two P.x P.y))) rfl (by refine lands_value (w := w9) ?_ h9; go_simp <;> rfl) ?_
  intro w10 h10
  simp only [Act.put, List.setIfInBounds_toArray, List.set_cons_zero, List.set_cons_succ]
  clear h9
  refine wpList_val (R := KD w.heap.size w []) (.bool c) rfl (by refine lands_value (w := w10) ?_ h10; go_simp <;> rfl) ?_
  intro w11 h11
  simp only [Act.put, List.setIfInBounds_toArray, List.set_cons_zero, List.set_cons_succ]
  clear h10
  refine wpList_val (R := KD w.heap.size w [(w11.heap.size, 26, nums 2 (two 0 0))]) (.pointer (some ⟨w11.heap.size, 0, none⟩)) rfl (lands_run2 (alloc_run _ _ rfl zero_pt _) (h11.add _ _)) ?_
  intro w12 h12
  simp only [Act.put, List.setIfInBounds_toArray, List.set_cons_zero, List.set_cons_succ]
  clear h11
  generalize w11.heap.size = g13 at h12 ⊢
  refine wpList_val (R := KD w.heap.size w [(g13, 26, nums 2 (two P.x P.y))]) undef rfl (lands_store _ _ _ rfl g13 (nums 2 (two P.x P.y)) rfl rfl _ _ (h12.blk _ m0) (by kernel_rfl) (by kernel_rfl) (row_one fun _ => rfl) (h12.put (k := 0) rfl _)) ?_
  intro w14 h14
  simp only [Act.put]
  clear h12
  refine wpList_val (R := KD w.heap.size w [(g13, 26, nums 2 (two P.x P.y))]) (.bool c) rfl (by refine lands_value (w := w14) ?_ h14; go_simp <;> rfl) ?_
  intro w15 h15
  simp only [Act.put, List.setIfInBounds_toArray, List.set_cons_zero, List.set_cons_succ]
  clear h14
  refine wpList_nil ?_
  repeat (first | (with_reducible apply wp_seq_k; intro _ _) | with_reducible apply wp_block | with_reducible apply wp_skip | with_reducible apply wp_exit | (go_at_K; go_step) | with_reducible apply then_normal | with_reducible apply then_exit | with_reducible apply block_normal | with_reducible apply block_same | with_reducible exact block_far rfl ?_)
  with_reducible apply wp_region_lit
  refine wpList_val (R := KD w.heap.size w [(g13, 26, nums 2 (two P.x P.y))]) (.string s) rfl (by refine lands_value (w := w15) ?_ h15; go_simp <;> rfl) ?_
  intro w16 h16
  simp only [Act.put, List.setIfInBounds_toArray, List.set_cons_zero, List.set_cons_succ]
  clear h15
  refine wpList_val (R := KD w.heap.size w [(g13, 26, nums 2 (two P.x P.y))]) (.tuple #[.agg (nums 2 (two P.x P.y)), .bool c]) rfl (by exact lands_calls (w := w16) ((rdec_is s P c H.out w16).mono fun _ _ ⟨he, hb⟩ => ⟨he, h16.below hb⟩) (by go_simp)) ?_
  intro w17 h17
  simp only [Act.put, List.setIfInBounds_toArray, List.set_cons_zero, List.set_cons_succ]
  clear h16
  refine wpList_val (R := KD w.heap.size w [(g13, 26, nums 2 (two P.x P.y))]) (.tuple #[.agg (nums 2 (two P.x P.y)), .bool c]) rfl (by refine lands_value (w := w17) ?_ h17; go_simp <;> rfl) ?_
  intro w18 h18
  simp only [Act.put, List.setIfInBounds_toArray, List.set_cons_zero, List.set_cons_succ]
  clear h17
  refine wpList_val (R := KD w.heap.size w [(g13, 26, nums 2 (two P.x P.y))]) (.agg (nums 2 (two P.x P.y))) rfl (by refine lands_value (w := w18) ?_ h18; go_simp <;> rfl) ?_
  intro w19 h19
  simp only [Act.put, List.setIfInBounds_toArray, List.set_cons_zero, List.set_cons_succ]
  clear h18
  refine wpList_val (R := KD w.heap.size w [(g13, 26, nums 2 (two P.x P.y))]) (.bool c) rfl (by refine lands_value (w := w19) ?_ h19; go_simp <;> rfl) ?_
  intro w20 h20
  simp only [Act.put, List.setIfInBounds_toArray, List.set_cons_zero, List.set_cons_succ]
  clear h19
  refine wpList_val (R := KD w.heap.size w [(w20.heap.size, 26, nums 2 (two 0 0)), (g13, 26, nums 2 (two P.x P.y))]) (.pointer (some ⟨w20.heap.size, 0, none⟩)) rfl (lands_run2 (alloc_run _ _ rfl zero_pt _) (h20.add _ _)) ?_
  intro w21 h21
  simp only [Act.put, List.setIfInBounds_toArray, List.set_cons_zero, List.set_cons_succ]
  clear h20
  generalize w20.heap.size = g22 at h21 ⊢
  refine wpList_val (R := KD w.heap.size w [(g22, 26, nums 2 (two P.x P.y)), (g13, 26, nums 2 (two P.x P.y))]) undef rfl (lands_store _ _ _ rfl g22 (nums 2 (two P.x P.y)) rfl rfl _ _ (h21.blk _ m0) (by kernel_rfl) (by kernel_rfl) (row_one fun _ => rfl) (h21.put (k := 0) rfl _)) ?_
  intro w23 h23
  simp only [Act.put]
  clear h21
  refine wpList_val (R := KD w.heap.size w [(g22, 26, nums 2 (two P.x P.y)), (g13, 26, nums 2 (two P.x P.y))]) (.bool c) rfl (by refine lands_value (w := w23) ?_ h23; go_simp <;> rfl) ?_
  intro w24 h24
  simp only [Act.put, List.setIfInBounds_toArray, List.set_cons_zero, List.set_cons_succ]
  clear h23
  refine wpList_nil ?_
  repeat (first | (with_reducible apply wp_seq_k; intro _ _) | with_reducible apply wp_block | with_reducible apply wp_skip | with_reducible apply wp_exit | (go_at_K; go_step) | with_reducible apply then_normal | with_reducible apply then_exit | with_reducible apply block_normal | with_reducible apply block_same | with_reducible exact block_far rfl ?_)
  with_reducible apply wp_region_lit
  refine wpList_val (R := KD w.heap.size w [(g22, 26, nums 2 (two P.x P.y)), (g13, 26, nums 2 (two P.x P.y))]) (.bool true) rfl (by refine lands_value (w := w24) ?_ h24; go_simp <;> rfl) ?_
  intro w25 h25
  simp only [Act.put, List.setIfInBounds_toArray, List.set_cons_zero, List.set_cons_succ]
  clear h24
  refine wpList_val (R := KD w.heap.size w [(g22, 26, nums 2 (two P.x P.y)), (g13, 26, nums 2 (two P.x P.y))]) (.bool true) rfl (by refine lands_value (w := w25) ?_ h25; go_simp <;> rfl) ?_
  intro w26 h26
  simp only [Act.put, List.setIfInBounds_toArray, List.set_cons_zero, List.set_cons_succ]
  clear h25
  refine wpList_valG (R := KD w.heap.size w [(g22, 26, nums 2 (two P.x P.y)), (g13, 26, nums 2 (two P.x P.y))]) (.agg (nums 2 (two P.x P.y))) rfl (by exact lands_load _ _ rfl _ rfl _ _ _ (h26.blk _ m1) Try.underlying26 rfl (by kernel_rfl) h26) ?_
  intro w27 h27
  simp only [Act.put, List.setIfInBounds_toArray, List.set_cons_zero, List.set_cons_succ]
  clear h26
  refine wpList_valG (R := KD w.heap.size w [(g22, 26, nums 2 (two P.x P.y)), (g13, 26, nums 2 (two P.x P.y))]) (.agg (nums 2 (two P.x P.y))) rfl (by exact lands_load _ _ rfl _ rfl _ _ _ (h27.blk _ m0) Try.underlying26 rfl (by kernel_rfl) h27) ?_
  intro w28 h28
  simp only [Act.put, List.setIfInBounds_toArray, List.set_cons_zero, List.set_cons_succ]
  clear h27
  refine wpList_valG (R := KD w.heap.size w [(g22, 26, nums 2 (two P.x P.y)), (g13, 26, nums 2 (two P.x P.y))]) (.bool true) rfl (by exact lands_eqlP _ _ rfl P P rfl rfl oP oP true (eqP_iff.2 rfl) h28) ?_
  intro w29 h29
  simp only [Act.put, List.setIfInBounds_toArray, List.set_cons_zero, List.set_cons_succ]
  clear h28
  refine wpList_val (R := KD w.heap.size w [(g22, 26, nums 2 (two P.x P.y)), (g13, 26, nums 2 (two P.x P.y))]) (.bool true) rfl (by refine lands_value (w := w29) ?_ h29; go_simp <;> rfl) ?_
  intro w30 h30
  simp only [Act.put, List.setIfInBounds_toArray, List.set_cons_zero, List.set_cons_succ]
  clear h29
  refine wpList_val (R := KD w.heap.size w [(g22, 26, nums 2 (two P.x P.y)), (g13, 26, nums 2 (two P.x P.y))]) (.bool true) rfl (by refine lands_value (w := w30) ?_ h30; go_simp <;> rfl) ?_
  intro w31 h31
  simp only [Act.put, List.setIfInBounds_toArray, List.set_cons_zero, List.set_cons_succ]
  clear h30
  refine wpList_valG (R := KD w.heap.size w [(g22, 26, nums 2 (two P.x P.y)), (g13, 26, nums 2 (two P.x P.y))]) (.bool c) rfl (by refine lands_value (w := w31) ?_ h31; go_simp <;> rfl) ?_
  intro w32 h32
  simp only [Act.put, List.setIfInBounds_toArray, List.set_cons_zero, List.set_cons_succ]
  clear h31
  refine wpList_valG (R := KD w.heap.size w [(g22, 26, nums 2 (two P.x P.y)), (g13, 26, nums 2 (two P.x P.y))]) (.bool c) rfl (by refine lands_value (w := w32) ?_ h32; go_simp <;> rfl) ?_
  intro w33 h33
  simp only [Act.put, List.setIfInBounds_toArray, List.set_cons_zero, List.set_cons_succ]
  clear h32
  refine wpList_valG (R := KD w.heap.size w [(g22, 26, nums 2 (two P.x P.y)), (g13, 26, nums 2 (two P.x P.y))]) (.bool true) rfl (by refine lands_value (w := w33) ?_ h33; go_simp) ?_
  intro w34 h34
  simp only [Act.put, List.setIfInBounds_toArray, List.set_cons_zero, List.set_cons_succ]
  clear h33
  refine wpList_val (R := KD w.heap.size w [(g22, 26, nums 2 (two P.x P.y)), (g13, 26, nums 2 (two P.x P.y))]) (.bool true) rfl (by refine lands_value (w := w34) ?_ h34; go_simp <;> rfl) ?_
  intro w35 h35
  simp only [Act.put, List.setIfInBounds_toArray, List.set_cons_zero, List.set_cons_succ]
  clear h34
  refine wpList_val (R := KD w.heap.size w [(g22, 26, nums 2 (two P.x P.y)), (g13, 26, nums 2 (two P.x P.y))]) (.bool true) rfl (by refine lands_value (w := w35) ?_ h35; go_simp <;> rfl) ?_
  intro w36 h36
  simp only [Act.put, List.setIfInBounds_toArray, List.set_cons_zero, List.set_cons_succ]
  clear h35
  refine wpList_nil ?_
  repeat (first | (with_reducible apply wp_seq_k; intro _ _) | with_reducible apply wp_block | with_reducible apply wp_skip | with_reducible apply wp_exit | (go_at_K; go_step) | with_reducible apply then_normal | with_reducible apply then_exit | with_reducible apply block_normal | with_reducible apply block_same | with_reducible exact block_far rfl ?_)
  with_reducible apply wp_ret
  repeat (first | with_reducible apply then_ret | with_reducible apply block_ret)
  exact bodyPost_ret (results_tmp rfl _ _ _) rfl ⟨rfl, h36.b⟩
end Go.Proofs.Ytehcigidjghddaa
