/- The reference of layer 5: Decode. (written by mkQ5.py) -/
import Derived.Test.YtehcigidjghddaaQx
namespace Go.Proofs.Ytehcigidjghddaa
open Go.RowKit
set_option maxRecDepth 100000 in
set_option maxHeartbeats 1000000 in
theorem rdec_make_e (s : ByteArray) (hs : s.size = 32) (heven : byteS s 31 < 128) (hm : makeV (bytesV (yV s)) = (0, false)) (w : World) :
    Calls Try.prog 27 #[.string s] w fun e w' => e = .returned (.tuple #[.agg (nums 2 (two 0 0)), .bool false]) ∧ Below w.heap.size w w' := by
  have hc : ((s.size : Int) != 32) = false := by rw [hs]; rfl
  have hb256 := byteS_lt s 31
  have HM := Lib.hid hm
  clear hm
  have hcmp : ¬ (128 : Int) ≤ byteS s 31 := by omega
  have htm : (byteS s 31 : Int).tmod 128 = ((byteS s 31 % 128 : Nat) : Int) := by rw [Int.tmod_eq_emod_of_nonneg (by omega)]; omega
  go_enter Try.func27, Try.ntmps27
  repeat (first | (with_reducible apply wp_seq_k; intro _ _) | with_reducible apply wp_block | with_reducible apply wp_skip | with_reducible apply wp_exit | (go_at_K; go_step) | with_reducible apply then_normal | with_reducible apply then_exit | with_reducible apply block_normal | with_reducible apply block_same | with_reducible exact block_far rfl ?_)
  have h1 := KD.begin w
  with_reducible apply wp_region_lit
  refine wpList_val (R := KD w.heap.size w [(w.heap.size, 26, nums 2 (two 0 0))]) (.pointer (some ⟨w.heap.size, 0, none⟩)) rfl (lands_run2 (alloc_run _ _ rfl zero_pt _) (h1.add _ _)) ?_
  intro w2 h2
  simp only [Act.put, List.setIfInBounds_toArray, List.set_cons_zero, List.set_cons_succ]
  clear h1
  refine wpList_val (R := KD w.heap.size w [(w.heap.size, 26, nums 2 (two 0 0))]) (.bool false) rfl (by refine lands_value (w := w2) ?_ h2; go_simp <;> rfl) ?_
  intro w3 h3
  simp only [Act.put, List.setIfInBounds_toArray, List.set_cons_zero, List.set_cons_succ]
  clear h2
  refine wpList_nil ?_
  repeat (first | (with_reducible apply wp_seq_k; intro _ _) | with_reducible apply wp_block | with_reducible apply wp_skip | with_reducible apply wp_exit | (go_at_K; go_step) | with_reducible apply then_normal | with_reducible apply then_exit | with_reducible apply block_normal | with_reducible apply block_same | with_reducible exact block_far rfl ?_)
  with_reducible apply wp_region_lit
  refine wpList_val (R := KD w.heap.size w [(w.heap.size, 26, nums 2 (two 0 0))]) (.string s) rfl (by refine lands_value (w := w3) ?_ h3; go_simp <;> rfl) ?_
  intro w4 h4
  simp only [Act.put, List.setIfInBounds_toArray, List.set_cons_zero, List.set_cons_succ]
  clear h3
  refine wpList_val (R := KD w.heap.size w [(w.heap.size, 26, nums 2 (two 0 0))]) (.int .i64 (s.size : Int)) rfl (by refine lands_value (w := w4) ?_ h4; go_simp) ?_
  intro w5 h5
  simp only [Act.put, List.setIfInBounds_toArray, List.set_cons_zero, List.set_cons_succ]
  clear h4
  refine wpList_val (R := KD w.heap.size w [(w.heap.size, 26, nums 2 (two 0 0))]) (.bool false) rfl (by refine lands_value (w := w5) ?_ h5; go_simp) ?_
  intro w6 h6
  simp only [Act.put, List.setIfInBounds_toArray, List.set_cons_zero, List.set_cons_succ]
  clear h5
  refine wpList_nil ?_
  repeat (first | (with_reducible apply wp_seq_k; intro _ _) | with_reducible apply wp_block | with_reducible apply wp_skip | with_reducible apply wp_exit | (go_at_K; go_step) | with_reducible apply then_normal | with_reducible apply then_exit | with_reducible apply block_normal | with_reducible apply block_same | with_reducible exact block_far rfl ?_)
  refine wp_cond_false rfl ?_
  repeat (first | (with_reducible apply wp_seq_k; intro _ _) | with_reducible apply wp_block | with_reducible apply wp_skip | with_reducible apply wp_exit | (go_at_K; go_step) | with_reducible apply then_normal | with_reducible apply then_exit | with_reducible apply block_normal | with_reducible apply block_same | with_reducible exact block_far rfl ?_)
  with_reducible apply wp_region_lit
  refine wpList_val (R := KD w.heap.size w [(w.heap.size, 26, nums 2 (two 0 0))]) (.string s) rfl (by refine lands_value (w := w6) ?_ h6; go_simp <;> rfl) ?_
  intro w7 h7
  simp only [Act.put, List.setIfInBounds_toArray, List.set_cons_zero, List.set_cons_succ]
  clear h6
  obtain ⟨cap, W1, hcv, hX, hB⟩ := bytes_start s w7 hs
  refine wpList_val (R := KC (fun j => (byteS s j : Int)) w7.heap.size w.heap.size w [(w.heap.size, 26, nums 2 (two 0 0))]) (.slice (some ⟨w7.heap.size, 0, none⟩) 32 cap) rfl (lands_convert _ _ _ rfl rfl hcv ⟨h7.below hB, hX⟩) ?_
  have hge := h7.lo
  have hfar := h7.lt
  intro w8 h8
  simp only [Act.put, List.setIfInBounds_toArray, List.set_cons_zero, List.set_cons_succ]
  clear hcv hX hB W1 h7
  generalize w7.heap.size = g9 at h8 hge hfar ⊢
  refine wpList_val (R := KC (fun j => (byteS s j : Int)) g9 w.heap.size w [(w.heap.size, 26, nums 2 (two 0 0))]) (.slice (some ⟨g9, 0, none⟩) 32 cap) rfl (by refine lands_value (w := w8) ?_ h8; go_simp <;> rfl) ?_
  intro w10 h10
  simp only [Act.put, List.setIfInBounds_toArray, List.set_cons_zero, List.set_cons_succ]
  clear h8
  refine wpList_nil ?_
  repeat (first | (with_reducible apply wp_seq_k; intro _ _) | with_reducible apply wp_block | with_reducible apply wp_skip | with_reducible apply wp_exit | (go_at_K; go_step) | with_reducible apply then_normal | with_reducible apply then_exit | with_reducible apply block_normal | with_reducible apply block_same | with_reducible exact block_far rfl ?_)
  with_reducible apply wp_region_lit
  refine wpList_val (R := KC (fun j => (byteS s j : Int)) g9 w.heap.size w [(w.heap.size, 26, nums 2 (two 0 0))]) (.slice (some ⟨g9, 0, none⟩) 32 cap) rfl (by refine lands_value (w := w10) ?_ h10; go_simp <;> rfl) ?_
  intro w11 h11
  simp only [Act.put, List.setIfInBounds_toArray, List.set_cons_zero, List.set_cons_succ]
  clear h10
  refine wpList_val (R := KC (fun j => (byteS s j : Int)) g9 w.heap.size w [(w.heap.size, 26, nums 2 (two 0 0))]) (.pointer (some ⟨g9, 31, none⟩)) rfl (by refine lands_value (w := w11) ?_ h11; go_simp) ?_
  intro w12 h12
  simp only [Act.put, List.setIfInBounds_toArray, List.set_cons_zero, List.set_cons_succ]
  clear h11
  refine wpList_val (R := KC (fun j => (byteS s j : Int)) g9 w.heap.size w [(w.heap.size, 26, nums 2 (two 0 0))]) (.int .u8 (byteS s 31 : Int)) rfl (by have c31 := h12.x.c 31 (by decide); have f31 := h12.x.fz 31 (by decide); refine lands_value (w := w12) ?_ h12; go_simp) ?_
  intro w13 h13
  simp only [Act.put, List.setIfInBounds_toArray, List.set_cons_zero, List.set_cons_succ]
  clear h12
  refine wpList_val (R := KC (fun j => (byteS s j : Int)) g9 w.heap.size w [(w.heap.size, 26, nums 2 (two 0 0))]) (.bool false) rfl (by refine lands_value (w := w13) ?_ h13; go_simp) ?_
  intro w14 h14
  simp only [Act.put, List.setIfInBounds_toArray, List.set_cons_zero, List.set_cons_succ]
  clear h13
  refine wpList_val (R := KC (fun j => (byteS s j : Int)) g9 w.heap.size w [(w.heap.size, 26, nums 2 (two 0 0))]) (.bool false) rfl (by refine lands_value (w := w14) ?_ h14; go_simp <;> rfl) ?_
  intro w15 h15
  simp only [Act.put, List.setIfInBounds_toArray, List.set_cons_zero, List.set_cons_succ]
  clear h14
  refine wpList_nil ?_
  repeat (first | (with_reducible apply wp_seq_k; intro _ _) | with_reducible apply wp_block | with_reducible apply wp_skip | with_reducible apply wp_exit | (go_at_K; go_step) | with_reducible apply then_normal | with_reducible apply then_exit | with_reducible apply block_normal | with_reducible apply block_same | with_reducible exact block_far rfl ?_)
  with_reducible apply wp_region_lit
  refine wpList_val (R := KC (fun j => (byteS s j : Int)) g9 w.heap.size w [(w.heap.size, 26, nums 2 (two 0 0))]) (.slice (some ⟨g9, 0, none⟩) 32 cap) rfl (by refine lands_value (w := w15) ?_ h15; go_simp <;> rfl) ?_
  intro w16 h16
  simp only [Act.put, List.setIfInBounds_toArray, List.set_cons_zero, List.set_cons_succ]
  clear h15
  refine wpList_val (R := KC (fun j => (byteS s j : Int)) g9 w.heap.size w [(w.heap.size, 26, nums 2 (two 0 0))]) (.slice (some ⟨g9, 0, none⟩) 32 cap) rfl (by refine lands_value (w := w16) ?_ h16; go_simp <;> rfl) ?_
  intro w17 h17
  simp only [Act.put, List.setIfInBounds_toArray, List.set_cons_zero, List.set_cons_succ]
  clear h16
  refine wpList_val (R := KC (fun j => (byteS s j : Int)) g9 w.heap.size w [(w.heap.size, 26, nums 2 (two 0 0))]) (.pointer (some ⟨g9, 31, none⟩)) rfl (by refine lands_value (w := w17) ?_ h17; go_simp) ?_
  intro w18 h18
  simp only [Act.put, List.setIfInBounds_toArray, List.set_cons_zero, List.set_cons_succ]
  clear h17
  refine wpList_val (R := KC (fun j => (byteS s j : Int)) g9 w.heap.size w [(w.heap.size, 26, nums 2 (two 0 0))]) (.int .u8 (byteS s 31 : Int)) rfl (by have c31 := h18.x.c 31 (by decide); have f31 := h18.x.fz 31 (by decide); refine lands_value (w := w18) ?_ h18; go_simp) ?_
  intro w19 h19
  simp only [Act.put, List.setIfInBounds_toArray, List.set_cons_zero, List.set_cons_succ]
  clear h18
  refine wpList_val (R := KC (fun j => (byteS s j : Int)) g9 w.heap.size w [(w.heap.size, 26, nums 2 (two 0 0))]) (.int .u8 ((byteS s 31 % 128 : Nat) : Int)) rfl (by refine lands_value (w := w19) ?_ h19; go_simp) ?_
  intro w20 h20
  simp only [Act.put, List.setIfInBounds_toArray, List.set_cons_zero, List.set_cons_succ]
  clear h19
  refine wpList_val (R := KC (fun j => (byteS s j : Int)) g9 w.heap.size w [(w.heap.size, 26, nums 2 (two 0 0))]) (.pointer (some ⟨g9, 31, none⟩)) rfl (by refine lands_value (w := w20) ?_ h20; go_simp) ?_
  intro w21 h21
  simp only [Act.put, List.setIfInBounds_toArray, List.set_cons_zero, List.set_cons_succ]
  clear h20
  have c31 := h21.x.c 31 (by decide)
  have f31 := h21.x.fz 31 (by decide)
  refine wpList_val (R := KC (fun j => if j = 31 then ((byteS s 31 % 128 : Nat) : Int) else (byteS s j : Int)) g9 w.heap.size w [(w.heap.size, 26, nums 2 (two 0 0))]) undef rfl (lands_skip (by go_simp) ⟨h21.k.cellfar hfar hge _, h21.x.put (by decide) _⟩) ?_
  intro w22 h22
  simp only [Act.put]
  clear c31 f31 h21
  refine wpList_nil ?_
  repeat (first | (with_reducible apply wp_seq_k; intro _ _) | with_reducible apply wp_block | with_reducible apply wp_skip | with_reducible apply wp_exit | (go_at_K; go_step) | with_reducible apply then_normal | with_reducible apply then_exit | with_reducible apply block_normal | with_reducible apply block_same | with_reducible exact block_far rfl ?_)
  with_reducible apply wp_region_lit
  refine wpList_val (R := KC (fun j => if j = 31 then ((byteS s 31 % 128 : Nat) : Int) else (byteS s j : Int)) g9 w.heap.size w [(w.heap.size, 26, nums 2 (two 0 0))]) (.slice (some ⟨g9, 0, none⟩) 32 cap) rfl (by refine lands_value (w := w22) ?_ h22; go_simp <;> rfl) ?_
  intro w23 h23
  simp only [Act.put, List.setIfInBounds_toArray, List.set_cons_zero, List.set_cons_succ]
  clear h22
  refine wpList_val (R := KC (fun j => if j = 31 then ((byteS s 31 % 128 : Nat) : Int) else (byteS s j : Int)) g9 w.heap.size w [(w.heap.size, 26, nums 2 (two 0 0))]) (.string (bytesV (yV s))) rfl (by exact lands_convert _ _ _ rfl rfl (bytes_end h23.x (yV s) (fun j hj => by rw [yV_byte s j hj]; by_cases h1 : j = 31 <;> simp only [h1, if_true, if_false]) cap) h23) ?_
  intro w24 h24
  simp only [Act.put, List.setIfInBounds_toArray, List.set_cons_zero, List.set_cons_succ]
  clear h23
  replace h24 := h24.k
  clear hfar hge
  refine wpList_val (R := KD w.heap.size w [(w.heap.size, 26, nums 2 (two 0 0))]) (.tuple #[.agg (r64 4 (F4 0)), .bool false]) rfl (by exact lands_calls (w := w24) ((rmake_is (bytesV (yV s)) 0 false w24 HM.out).mono fun _ _ ⟨he, hb⟩ => ⟨he, h24.below hb⟩) (by go_simp)) ?_
  intro w25 h25
  simp only [Act.put, List.setIfInBounds_toArray, List.set_cons_zero, List.set_cons_succ]
  clear h24
  refine wpList_val (R := KD w.heap.size w [(w.heap.size, 26, nums 2 (two 0 0))]) (.tuple #[.agg (r64 4 (F4 0)), .bool false]) rfl (by refine lands_value (w := w25) ?_ h25; go_simp <;> rfl) ?_
  intro w26 h26
  simp only [Act.put, List.setIfInBounds_toArray, List.set_cons_zero, List.set_cons_succ]
  clear h25
  refine wpList_val (R := KD w.heap.size w [(w.heap.size, 26, nums 2 (two 0 0))]) (.agg (r64 4 (F4 0))) rfl (by refine lands_value (w := w26) ?_ h26; go_simp <;> rfl) ?_
  intro w27 h27
  simp only [Act.put, List.setIfInBounds_toArray, List.set_cons_zero, List.set_cons_succ]
  clear h26
  refine wpList_val (R := KD w.heap.size w [(w.heap.size, 26, nums 2 (two 0 0))]) (.bool false) rfl (by refine lands_value (w := w27) ?_ h27; go_simp <;> rfl) ?_
  intro w28 h28
  simp only [Act.put, List.setIfInBounds_toArray, List.set_cons_zero, List.set_cons_succ]
  clear h27
  refine wpList_val (R := KD w.heap.size w [(w28.heap.size, 24, r64 4 (F4 0)), (w.heap.size, 26, nums 2 (two 0 0))]) (.pointer (some ⟨w28.heap.size, 0, none⟩)) rfl (lands_run2 (alloc_run _ _ rfl zero_fe _) (h28.add _ _)) ?_
  intro w29 h29
  simp only [Act.put, List.setIfInBounds_toArray, List.set_cons_zero, List.set_cons_succ]
  clear h28
  generalize w28.heap.size = g30 at h29 ⊢
  refine wpList_val (R := KD w.heap.size w [(g30, 24, r64 4 (F4 0)), (w.heap.size, 26, nums 2 (two 0 0))]) undef rfl (lands_store _ _ _ rfl g30 (r64 4 (F4 0)) rfl rfl _ _ (h29.blk _ m0) (by kernel_rfl) (by kernel_rfl) (row_one fun _ => rfl) (h29.put (k := 0) rfl _)) ?_
  intro w31 h31
  simp only [Act.put]
  clear h29
  refine wpList_val (R := KD w.heap.size w [(g30, 24, r64 4 (F4 0)), (w.heap.size, 26, nums 2 (two 0 0))]) (.bool false) rfl (by refine lands_value (w := w31) ?_ h31; go_simp <;> rfl) ?_
  intro w32 h32
  simp only [Act.put, List.setIfInBounds_toArray, List.set_cons_zero, List.set_cons_succ]
  clear h31
  refine wpList_nil ?_
  repeat (first | (with_reducible apply wp_seq_k; intro _ _) | with_reducible apply wp_block | with_reducible apply wp_skip | with_reducible apply wp_exit | (go_at_K; go_step) | with_reducible apply then_normal | with_reducible apply then_exit | with_reducible apply block_normal | with_reducible apply block_same | with_reducible exact block_far rfl ?_)
  with_reducible apply wp_region_lit
  refine wpList_val (R := KD w.heap.size w [(g30, 24, r64 4 (F4 0)), (w.heap.size, 26, nums 2 (two 0 0))]) (.bool false) rfl (by refine lands_value (w := w32) ?_ h32; go_simp <;> rfl) ?_
  intro w33 h33
  simp only [Act.put, List.setIfInBounds_toArray, List.set_cons_zero, List.set_cons_succ]
  clear h32
  refine wpList_val (R := KD w.heap.size w [(g30, 24, r64 4 (F4 0)), (w.heap.size, 26, nums 2 (two 0 0))]) (.bool true) rfl (by refine lands_value (w := w33) ?_ h33; go_simp <;> rfl) ?_
  intro w34 h34
  simp only [Act.put, List.setIfInBounds_toArray, List.set_cons_zero, List.set_cons_succ]
  clear h33
  refine wpList_nil ?_
  repeat (first | (with_reducible apply wp_seq_k; intro _ _) | with_reducible apply wp_block | with_reducible apply wp_skip | with_reducible apply wp_exit | (go_at_K; go_step) | with_reducible apply then_normal | with_reducible apply then_exit | with_reducible apply block_normal | with_reducible apply block_same | with_reducible exact block_far rfl ?_)
  refine wp_cond_true rfl ?_
  repeat (first | (with_reducible apply wp_seq_k; intro _ _) | with_reducible apply wp_block | with_reducible apply wp_skip | with_reducible apply wp_exit | (go_at_K; go_step) | with_reducible apply then_normal | with_reducible apply then_exit | with_reducible apply block_normal | with_reducible apply block_same | with_reducible exact block_far rfl ?_)
  with_reducible apply wp_region_lit
  refine wpList_val (R := KD w.heap.size w [(g30, 24, r64 4 (F4 0)), (w.heap.size, 26, nums 2 (two 0 0))]) (.agg (nums 2 (two 0 0))) rfl (by exact lands_built _ _ rfl _ rfl _ (by kernel_rfl) h34) ?_
  intro w35 h35
  simp only [Act.put, List.setIfInBounds_toArray, List.set_cons_zero, List.set_cons_succ]
  clear h34
  refine wpList_val (R := KD w.heap.size w [(g30, 24, r64 4 (F4 0)), (w.heap.size, 26, nums 2 (two 0 0))]) undef rfl (lands_store _ _ _ rfl w.heap.size (nums 2 (two 0 0)) rfl rfl _ _ (h35.blk _ m1) (by kernel_rfl) (by kernel_rfl) (row_one fun _ => rfl) (h35.put (k := 1) rfl _)) ?_
  intro w36 h36
  simp only [Act.put]
  clear h35
  refine wpList_val (R := KD w.heap.size w [(g30, 24, r64 4 (F4 0)), (w.heap.size, 26, nums 2 (two 0 0))]) (.bool false) rfl (by refine lands_value (w := w36) ?_ h36; go_simp <;> rfl) ?_
  intro w37 h37
  simp only [Act.put, List.setIfInBounds_toArray, List.set_cons_zero, List.set_cons_succ]
  clear h36
  refine wpList_nil ?_
  repeat (first | (with_reducible apply wp_seq_k; intro _ _) | with_reducible apply wp_block | with_reducible apply wp_skip | with_reducible apply wp_exit | (go_at_K; go_step) | with_reducible apply then_normal | with_reducible apply then_exit | with_reducible apply block_normal | with_reducible apply block_same | with_reducible exact block_far rfl ?_)
  with_reducible apply wp_ret
  repeat (first | with_reducible apply then_ret | with_reducible apply block_ret)
  exact bodyPost_ret (results_cell_row_slot rfl _ _ w.heap.size 26 (nums 2 (two 0 0)) (0, 0) _ _ rfl (h37.blk _ m1) Try.underlying26 rfl (by kernel_rfl) rfl) rfl ⟨rfl, h37.b⟩
set_option maxRecDepth 100000 in
set_option maxHeartbeats 1000000 in
theorem rdec_none_e (s : ByteArray) (hs : s.size = 32) (heven : byteS s 31 < 128) (y : Nat) (hyM : y < M256) (hm : makeV (bytesV (yV s)) = (y, true)) (x : Nat) (hr : rV (subP (mulP y y) 1) (addP (mulP dP (mulP y y)) 1) = (x, false)) (w : World) :
    Calls Try.prog 27 #[.string s] w fun e w' => e = .returned (.tuple #[.agg (nums 2 (two 0 0)), .bool false]) ∧ Below w.heap.size w w' := by
  have hc : ((s.size : Int) != 32) = false := by rw [hs]; rfl
  have hb256 := byteS_lt s 31
  have HM := Lib.hid hm
  clear hm
  have hxM := rV_lt hr
  have hcmp : ¬ (128 : Int) ≤ byteS s 31 := by omega
  have htm : (byteS s 31 : Int).tmod 128 = ((byteS s 31 % 128 : Nat) : Int) := by rw [Int.tmod_eq_emod_of_nonneg (by omega)]; omega
  go_enter Try.func27, Try.ntmps27
  repeat (first | (with_reducible apply wp_seq_k; intro _ _) | with_reducible apply wp_block | with_reducible apply wp_skip | with_reducible apply wp_exit | (go_at_K; go_step) | with_reducible apply then_normal | with_reducible apply then_exit | with_reducible apply block_normal | with_reducible apply block_same | with_reducible exact block_far rfl ?_)
  have h1 := KD.begin w
  with_reducible apply wp_region_lit
  refine wpList_val (R := KD w.heap.size w [(w.heap.size, 26, nums 2 (two 0 0))]) (.pointer (some ⟨w.heap.size, 0, none⟩)) rfl (lands_run2 (alloc_run _ _ rfl zero_pt _) (h1.add _ _)) ?_
  intro w2 h2
  simp only [Act.put, List.setIfInBounds_toArray, List.set_cons_zero, List.set_cons_succ]
  clear h1
  refine wpList_val (R := KD w.heap.size w [(w.heap.size, 26, nums 2 (two 0 0))]) (.bool false) rfl (by refine lands_value (w := w2) ?_ h2; go_simp <;> rfl) ?_
  intro w3 h3
  simp only [Act.put, List.setIfInBounds_toArray, List.set_cons_zero, List.set_cons_succ]
  clear h2
  refine wpList_nil ?_
  repeat (first | (with_reducible apply wp_seq_k; intro _ _) | with_reducible apply wp_block | with_reducible apply wp_skip | with_reducible apply wp_exit | (go_at_K; go_step) | with_reducible apply then_normal | with_reducible apply then_exit | with_reducible apply block_normal | with_reducible apply block_same | with_reducible exact block_far rfl ?_)
  with_reducible apply wp_region_lit
  refine wpList_val (R := KD w.heap.size w [(w.heap.size, 26, nums 2 (two 0 0))]) (.string s) rfl (by refine lands_value (w := w3) ?_ h3; go_simp <;> rfl) ?_
  intro w4 h4
  simp only [Act.put, List.setIfInBounds_toArray, List.set_cons_zero, List.set_cons_succ]
  clear h3
  refine wpList_val (R := KD w.heap.size w [(w.heap.size, 26, nums 2 (two 0 0))]) (.int .i64 (s.size : Int)) rfl (by refine lands_value (w := w4) ?_ h4; go_simp) ?_
  intro w5 h5
  simp only [Act.put, List.setIfInBounds_toArray, List.set_cons_zero, List.set_cons_succ]
  clear h4
  refine wpList_val (R := KD w.heap.size w [(w.heap.size, 26, nums 2 (two 0 0))]) (.bool false) rfl (by refine lands_value (w := w5) ?_ h5; go_simp) ?_
  intro w6 h6
  simp only [Act.put, List.setIfInBounds_toArray, List.set_cons_zero, List.set_cons_succ]
  clear h5
  refine wpList_nil ?_
  repeat (first | (with_reducible apply wp_seq_k; intro _ _) | with_reducible apply wp_block | with_reducible apply wp_skip | with_reducible apply wp_exit | (go_at_K; go_step) | with_reducible apply then_normal | with_reducible apply then_exit | with_reducible apply block_normal | with_reducible apply block_same | with_reducible exact block_far rfl ?_)
  refine wp_cond_false rfl ?_
  repeat (first | (with_reducible apply wp_seq_k; intro _ _) | with_reducible apply wp_block | with_reducible apply wp_skip | with_reducible apply wp_exit | (go_at_K; go_step) | with_reducible apply then_normal | with_reducible apply then_exit | with_reducible apply block_normal | with_reducible apply block_same | with_reducible exact block_far rfl ?_)
  with_reducible apply wp_region_lit
  refine wpList_val (R := KD w.heap.size w [(w.heap.size, 26, nums 2 (two 0 0))]) (.string s) rfl (by refine lands_value (w := w6) ?_ h6; go_simp <;> rfl) ?_
  intro w7 h7
  simp only [Act.put, List.setIfInBounds_toArray, List.set_cons_zero, List.set_cons_succ]
  clear h6
  obtain ⟨cap, W1, hcv, hX, hB⟩ := bytes_start s w7 hs
  refine wpList_val (R := KC (fun j => (byteS s j : Int)) w7.heap.size w.heap.size w [(w.heap.size, 26, nums 2 (two 0 0))]) (.slice (some ⟨w7.heap.size, 0, none⟩) 32 cap) rfl (lands_convert _ _ _ rfl rfl hcv ⟨h7.below hB, hX⟩) ?_
  have hge := h7.lo
  have hfar := h7.lt
  intro w8 h8
  simp only [Act.put, List.setIfInBounds_toArray, List.set_cons_zero, List.set_cons_succ]
  clear hcv hX hB W1 h7
  generalize w7.heap.size = g9 at h8 hge hfar ⊢
  refine wpList_val (R := KC (fun j => (byteS s j : Int)) g9 w.heap.size w [(w.heap.size, 26, nums 2 (two 0 0))]) (.slice (some ⟨g9, 0, none⟩) 32 cap) rfl (by refine lands_value (w := w8) ?_ h8; go_simp <;> rfl) ?_
  intro w10 h10
  simp only [Act.put, List.setIfInBounds_toArray, List.set_cons_zero, List.set_cons_succ]
  clear h8
  refine wpList_nil ?_
  repeat (first | (with_reducible apply wp_seq_k; intro _ _) | with_reducible apply wp_block | with_reducible apply wp_skip | with_reducible apply wp_exit | (go_at_K; go_step) | with_reducible apply then_normal | with_reducible apply then_exit | with_reducible apply block_normal | with_reducible apply block_same | with_reducible exact block_far rfl ?_)
  with_reducible apply wp_region_lit
  refine wpList_val (R := KC (fun j => (byteS s j : Int)) g9 w.heap.size w [(w.heap.size, 26, nums 2 (two 0 0))]) (.slice (some ⟨g9, 0, none⟩) 32 cap) rfl (by refine lands_value (w := w10) ?_ h10; go_simp <;> rfl) ?_
  intro w11 h11
  simp only [Act.put, List.setIfInBounds_toArray, List.set_cons_zero, List.set_cons_succ]
  clear h10
  refine wpList_val (R := KC (fun j => (byteS s j : Int)) g9 w.heap.size w [(w.heap.size, 26, nums 2 (two 0 0))]) (.pointer (some ⟨g9, 31, none⟩)) rfl (by refine lands_value (w := w11) ?_ h11; go_simp) ?_
  intro w12 h12
  simp only [Act.put, List.setIfInBounds_toArray, List.set_cons_zero, List.set_cons_succ]
  clear h11
  refine wpList_val (R := KC (fun j => (byteS s j : Int)) g9 w.heap.size w [(w.heap.size, 26, nums 2 (two 0 0))]) (.int .u8 (byteS s 31 : Int)) rfl (by have c31 := h12.x.c 31 (by decide); have f31 := h12.x.fz 31 (by decide); refine lands_value (w := w12) ?_ h12; go_simp) ?_
  intro w13 h13
  simp only [Act.put, List.setIfInBounds_toArray, List.set_cons_zero, List.set_cons_succ]
  clear h12
  refine wpList_val (R := KC (fun j => (byteS s j : Int)) g9 w.heap.size w [(w.heap.size, 26, nums 2 (two 0 0))]) (.bool false) rfl (by refine lands_value (w := w13) ?_ h13; go_simp) ?_
  intro w14 h14
  simp only [Act.put, List.setIfInBounds_toArray, List.set_cons_zero, List.set_cons_succ]
  clear h13
  refine wpList_val (R := KC (fun j => (byteS s j : Int)) g9 w.heap.size w [(w.heap.size, 26, nums 2 (two 0 0))]) (.bool false) rfl (by refine lands_value (w := w14) ?_ h14; go_simp <;> rfl) ?_
  intro w15 h15
  simp only [Act.put, List.setIfInBounds_toArray, List.set_cons_zero, List.set_cons_succ]
  clear h14
  refine wpList_nil ?_
  repeat (first | (with_reducible apply wp_seq_k; intro _ _) | with_reducible apply wp_block | with_reducible apply wp_skip | with_reducible apply wp_exit | (go_at_K; go_step) | with_reducible apply then_normal | with_reducible apply then_exit | with_reducible apply block_normal | with_reducible apply block_same | with_reducible exact block_far rfl ?_)
  with_reducible apply wp_region_lit
  refine wpList_val (R := KC (fun j => (byteS s j : Int)) g9 w.heap.size w [(w.heap.size, 26, nums 2 (two 0 0))]) (.slice (some ⟨g9, 0, none⟩) 32 cap) rfl (by refine lands_value (w := w15) ?_ h15; go_simp <;> rfl) ?_
  intro w16 h16
  simp only [Act.put, List.setIfInBounds_toArray, List.set_cons_zero, List.set_cons_succ]
  clear h15
  refine wpList_val (R := KC (fun j => (byteS s j : Int)) g9 w.heap.size w [(w.heap.size, 26, nums 2 (two 0 0))]) (.slice (some ⟨g9, 0, none⟩) 32 cap) rfl (by refine lands_value (w := w16) ?_ h16; go_simp <;> rfl) ?_
  intro w17 h17
  simp only [Act.put, List.setIfInBounds_toArray, List.set_cons_zero, List.set_cons_succ]
  clear h16
  refine wpList_val (R := KC (fun j => (byteS s j : Int)) g9 w.heap.size w [(w.heap.size, 26, nums 2 (two 0 0))]) (.pointer (some ⟨g9, 31, none⟩)) rfl (by refine lands_value (w := w17) ?_ h17; go_simp) ?_
  intro w18 h18
  simp only [Act.put, List.setIfInBounds_toArray, List.set_cons_zero, List.set_cons_succ]
  clear h17
  refine wpList_val (R := KC (fun j => (byteS s j : Int)) g9 w.heap.size w [(w.heap.size, 26, nums 2 (two 0 0))]) (.int .u8 (byteS s 31 : Int)) rfl (by have c31 := h18.x.c 31 (by decide); have f31 := h18.x.fz 31 (by decide); refine lands_value (w := w18) ?_ h18; go_simp) ?_
  intro w19 h19
  simp only [Act.put, List.setIfInBounds_toArray, List.set_cons_zero, List.set_cons_succ]
  clear h18
  refine wpList_val (R := KC (fun j => (byteS s j : Int)) g9 w.heap.size w [(w.heap.size, 26, nums 2 (two 0 0))]) (.int .u8 ((byteS s 31 % 128 : Nat) : Int)) rfl (by refine lands_value (w := w19) ?_ h19; go_simp) ?_
  intro w20 h20
  simp only [Act.put, List.setIfInBounds_toArray, List.set_cons_zero, List.set_cons_succ]
  clear h19
  refine wpList_val (R := KC (fun j => (byteS s j : Int)) g9 w.heap.size w [(w.heap.size, 26, nums 2 (two 0 0))]) (.pointer (some ⟨g9, 31, none⟩)) rfl (by refine lands_value (w := w20) ?_ h20; go_simp) ?_
  intro w21 h21
  simp only [Act.put, List.setIfInBounds_toArray, List.set_cons_zero, List.set_cons_succ]
  clear h20
  have c31 := h21.x.c 31 (by decide)
  have f31 := h21.x.fz 31 (by decide)
  refine wpList_val (R := KC (fun j => if j = 31 then ((byteS s 31 % 128 : Nat) : Int) else (byteS s j : Int)) g9 w.heap.size w [(w.heap.size, 26, nums 2 (two 0 0))]) undef rfl (lands_skip (by go_simp) ⟨h21.k.cellfar hfar hge _, h21.x.put (by decide) _⟩) ?_
  intro w22 h22
  simp only [Act.put]
  clear c31 f31 h21
  refine wpList_nil ?_
  repeat (first | (with_reducible apply wp_seq_k; intro _ _) | with_reducible apply wp_block | with_reducible apply wp_skip | with_reducible apply wp_exit | (go_at_K; go_step) | with_reducible apply then_normal | with_reducible apply then_exit | with_reducible apply block_normal | with_reducible apply block_same | with_reducible exact block_far rfl ?_)
  with_reducible apply wp_region_lit
  refine wpList_val (R := KC (fun j => if j = 31 then ((byteS s 31 % 128 : Nat) : Int) else (byteS s j : Int)) g9 w.heap.size w [(w.heap.size, 26, nums 2 (two 0 0))]) (.slice (some ⟨g9, 0, none⟩) 32 cap) rfl (by refine lands_value (w := w22) ?_ h22; go_simp <;> rfl) ?_
  intro w23 h23
  simp only [Act.put, List.setIfInBounds_toArray, List.set_cons_zero, List.set_cons_succ]
  clear h22
  refine wpList_val (R := KC (fun j => if j = 31 then ((byteS s 31 % 128 : Nat) : Int) else (byteS s j : Int)) g9 w.heap.size w [(w.heap.size, 26, nums 2 (two 0 0))]) (.string (bytesV (yV s))) rfl (by exact lands_convert _ _ _ rfl rfl (bytes_end h23.x (yV s) (fun j hj => by rw [yV_byte s j hj]; by_cases h1 : j = 31 <;> simp only [h1, if_true, if_false]) cap) h23) ?_
  intro w24 h24
  simp only [Act.put, List.setIfInBounds_toArray, List.set_cons_zero, List.set_cons_succ]
  clear h23
  replace h24 := h24.k
  clear hfar hge
  refine wpList_val (R := KD w.heap.size w [(w.heap.size, 26, nums 2 (two 0 0))]) (.tuple #[.agg (r64 4 (F4 y)), .bool true]) rfl (by exact lands_calls (w := w24) ((rmake_is (bytesV (yV s)) y true w24 HM.out).mono fun _ _ ⟨he, hb⟩ => ⟨he, h24.below hb⟩) (by go_simp)) ?_
  intro w25 h25
  simp only [Act.put, List.setIfInBounds_toArray, List.set_cons_zero, List.set_cons_succ]
  clear h24
  refine wpList_val (R := KD w.heap.size w [(w.heap.size, 26, nums 2 (two 0 0))]) (.tuple #[.agg (r64 4 (F4 y)), .bool true]) rfl (by refine lands_value (w := w25) ?_ h25; go_simp <;> rfl) ?_
  intro w26 h26
  simp only [Act.put, List.setIfInBounds_toArray, List.set_cons_zero, List.set_cons_succ]
  clear h25
  refine wpList_val (R := KD w.heap.size w [(w.heap.size, 26, nums 2 (two 0 0))]) (.agg (r64 4 (F4 y))) rfl (by refine lands_value (w := w26) ?_ h26; go_simp <;> rfl) ?_
  intro w27 h27
  simp only [Act.put, List.setIfInBounds_toArray, List.set_cons_zero, List.set_cons_succ]
  clear h26
  refine wpList_val (R := KD w.heap.size w [(w.heap.size, 26, nums 2 (two 0 0))]) (.bool true) rfl (by refine lands_value (w := w27) ?_ h27; go_simp <;> rfl) ?_
  intro w28 h28
  simp only [Act.put, List.setIfInBounds_toArray, List.set_cons_zero, List.set_cons_succ]
  clear h27
  refine wpList_val (R := KD w.heap.size w [(w28.heap.size, 24, r64 4 (F4 0)), (w.heap.size, 26, nums 2 (two 0 0))]) (.pointer (some ⟨w28.heap.size, 0, none⟩)) rfl (lands_run2 (alloc_run _ _ rfl zero_fe _) (h28.add _ _)) ?_
  intro w29 h29
  simp only [Act.put, List.setIfInBounds_toArray, List.set_cons_zero, List.set_cons_succ]
  clear h28
  generalize w28.heap.size = g30 at h29 ⊢
  refine wpList_val (R := KD w.heap.size w [(g30, 24, r64 4 (F4 y)), (w.heap.size, 26, nums 2 (two 0 0))]) undef rfl (lands_store _ _ _ rfl g30 (r64 4 (F4 y)) rfl rfl _ _ (h29.blk _ m0) (by kernel_rfl) (by kernel_rfl) (row_one fun _ => rfl) (h29.put (k := 0) rfl _)) ?_
  intro w31 h31
  simp only [Act.put]
  clear h29
  refine wpList_val (R := KD w.heap.size w [(g30, 24, r64 4 (F4 y)), (w.heap.size, 26, nums 2 (two 0 0))]) (.bool true) rfl (by refine lands_value (w := w31) ?_ h31; go_simp <;> rfl) ?_
  intro w32 h32
  simp only [Act.put, List.setIfInBounds_toArray, List.set_cons_zero, List.set_cons_succ]
  clear h31
  refine wpList_nil ?_
  repeat (first | (with_reducible apply wp_seq_k; intro _ _) | with_reducible apply wp_block | with_reducible apply wp_skip | with_reducible apply wp_exit | (go_at_K; go_step) | with_reducible apply then_normal | with_reducible apply then_exit | with_reducible apply block_normal | with_reducible apply block_same | with_reducible exact block_far rfl ?_)
  with_reducible apply wp_region_lit
  refine wpList_val (R := KD w.heap.size w [(g30, 24, r64 4 (F4 y)), (w.heap.size, 26, nums 2 (two 0 0))]) (.bool true) rfl (by refine lands_value (w := w32) ?_ h32; go_simp <;> rfl) ?_
  intro w33 h33
  simp only [Act.put, List.setIfInBounds_toArray, List.set_cons_zero, List.set_cons_succ]
  clear h32
  refine wpList_val (R := KD w.heap.size w [(g30, 24, r64 4 (F4 y)), (w.heap.size, 26, nums 2 (two 0 0))]) (.bool false) rfl (by refine lands_value (w := w33) ?_ h33; go_simp <;> rfl) ?_
  intro w34 h34
  simp only [Act.put, List.setIfInBounds_toArray, List.set_cons_zero, List.set_cons_succ]
  clear h33
  refine wpList_nil ?_
  repeat (first | (with_reducible apply wp_seq_k; intro _ _) | with_reducible apply wp_block | with_reducible apply wp_skip | with_reducible apply wp_exit | (go_at_K; go_step) | with_reducible apply then_normal | with_reducible apply then_exit | with_reducible apply block_normal | with_reducible apply block_same | with_reducible exact block_far rfl ?_)
  refine wp_cond_false rfl ?_
  repeat (first | (with_reducible apply wp_seq_k; intro _ _) | with_reducible apply wp_block | with_reducible apply wp_skip | with_reducible apply wp_exit | (go_at_K; go_step) | with_reducible apply then_normal | with_reducible apply then_exit | with_reducible apply block_normal | with_reducible apply block_same | with_reducible exact block_far rfl ?_)
  with_reducible apply wp_region_lit
  refine wpList_val (R := KD w.heap.size w [(g30, 24, r64 4 (F4 y)), (w.heap.size, 26, nums 2 (two 0 0))]) (.agg (r64 4 (F4 y))) rfl (by exact lands_load _ _ rfl _ rfl _ _ _ (h34.blk _ m0) Try.underlying24 rfl (fe_size _) h34) ?_
  intro w35 h35
  simp only [Act.put, List.setIfInBounds_toArray, List.set_cons_zero, List.set_cons_succ]
  clear h34
  refine wpList_val (R := KD w.heap.size w [(g30, 24, r64 4 (F4 y)), (w.heap.size, 26, nums 2 (two 0 0))]) (.tuple #[.agg (r64 4 (F4 x)), .bool false]) rfl (by exact lands_calls (w := w35) ((rroot5_any y hyM x false hr w35).mono fun _ _ ⟨he, hb⟩ => ⟨he, h35.below hb⟩) (by go_simp)) ?_
  intro w36 h36
  simp only [Act.put, List.setIfInBounds_toArray, List.set_cons_zero, List.set_cons_succ]
  clear h35
  refine wpList_val (R := KD w.heap.size w [(g30, 24, r64 4 (F4 y)), (w.heap.size, 26, nums 2 (two 0 0))]) (.tuple #[.agg (r64 4 (F4 x)), .bool false]) rfl (by refine lands_value (w := w36) ?_ h36; go_simp <;> rfl) ?_
  intro w37 h37
  simp only [Act.put, List.setIfInBounds_toArray, List.set_cons_zero, List.set_cons_succ]
  clear h36
  refine wpList_val (R := KD w.heap.size w [(g30, 24, r64 4 (F4 y)), (w.heap.size, 26, nums 2 (two 0 0))]) (.agg (r64 4 (F4 x))) rfl (by refine lands_value (w := w37) ?_ h37; go_simp <;> rfl) ?_
  intro w38 h38
  simp only [Act.put, List.setIfInBounds_toArray, List.set_cons_zero, List.set_cons_succ]
  clear h37
  refine wpList_val (R := KD w.heap.size w [(g30, 24, r64 4 (F4 y)), (w.heap.size, 26, nums 2 (two 0 0))]) (.bool false) rfl (by refine lands_value (w := w38) ?_ h38; go_simp <;> rfl) ?_
  intro w39 h39
  simp only [Act.put, List.setIfInBounds_toArray, List.set_cons_zero, List.set_cons_succ]
  clear h38
  refine wpList_val (R := KD w.heap.size w [(w39.heap.size, 24, r64 4 (F4 0)), (g30, 24, r64 4 (F4 y)), (w.heap.size, 26, nums 2 (two 0 0))]) (.pointer (some ⟨w39.heap.size, 0, none⟩)) rfl (lands_run2 (alloc_run _ _ rfl zero_fe _) (h39.add _ _)) ?_
  intro w40 h40
  simp only [Act.put, List.setIfInBounds_toArray, List.set_cons_zero, List.set_cons_succ]
  clear h39
  generalize w39.heap.size = g41 at h40 ⊢
  refine wpList_val (R := KD w.heap.size w [(g41, 24, r64 4 (F4 x)), (g30, 24, r64 4 (F4 y)), (w.heap.size, 26, nums 2 (two 0 0))]) undef rfl (lands_store _ _ _ rfl g41 (r64 4 (F4 x)) rfl rfl _ _ (h40.blk _ m0) (by kernel_rfl) (by kernel_rfl) (row_one fun _ => rfl) (h40.put (k := 0) rfl _)) ?_
  intro w42 h42
  simp only [Act.put]
  clear h40
  refine wpList_val (R := KD w.heap.size w [(g41, 24, r64 4 (F4 x)), (g30, 24, r64 4 (F4 y)), (w.heap.size, 26, nums 2 (two 0 0))]) (.bool false) rfl (by refine lands_value (w := w42) ?_ h42; go_simp <;> rfl) ?_
  intro w43 h43
  simp only [Act.put, List.setIfInBounds_toArray, List.set_cons_zero, List.set_cons_succ]
  clear h42
  refine wpList_nil ?_
  repeat (first | (with_reducible apply wp_seq_k; intro _ _) | with_reducible apply wp_block | with_reducible apply wp_skip | with_reducible apply wp_exit | (go_at_K; go_step) | with_reducible apply then_normal | with_reducible apply then_exit | with_reducible apply block_normal | with_reducible apply block_same | with_reducible exact block_far rfl ?_)
  with_reducible apply wp_region_lit
  refine wpList_val (R := KD w.heap.size w [(g41, 24, r64 4 (F4 x)), (g30, 24, r64 4 (F4 y)), (w.heap.size, 26, nums 2 (two 0 0))]) (.bool false) rfl (by refine lands_value (w := w43) ?_ h43; go_simp <;> rfl) ?_
  intro w44 h44
  simp only [Act.put, List.setIfInBounds_toArray, List.set_cons_zero, List.set_cons_succ]
  clear h43
  refine wpList_val (R := KD w.heap.size w [(g41, 24, r64 4 (F4 x)), (g30, 24, r64 4 (F4 y)), (w.heap.size, 26, nums 2 (two 0 0))]) (.bool true) rfl (by refine lands_value (w := w44) ?_ h44; go_simp <;> rfl) ?_
  intro w45 h45
  simp only [Act.put, List.setIfInBounds_toArray, List.set_cons_zero, List.set_cons_succ]
  clear h44
  refine wpList_val (R := KD w.heap.size w [(g41, 24, r64 4 (F4 x)), (g30, 24, r64 4 (F4 y)), (w.heap.size, 26, nums 2 (two 0 0))]) (.bool true) rfl (by refine lands_value (w := w45) ?_ h45; go_simp <;> rfl) ?_
  intro w46 h46
  simp only [Act.put, List.setIfInBounds_toArray, List.set_cons_zero, List.set_cons_succ]
  clear h45
  refine wpList_skipG rfl ?_
  simp only [Act.put, List.setIfInBounds_toArray, List.set_cons_zero, List.set_cons_succ]
  refine wpList_skipG rfl ?_
  simp only [Act.put, List.setIfInBounds_toArray, List.set_cons_zero, List.set_cons_succ]
  refine wpList_skipG rfl ?_
  simp only [Act.put, List.setIfInBounds_toArray, List.set_cons_zero, List.set_cons_succ]
  refine wpList_skipG rfl ?_
  simp only [Act.put, List.setIfInBounds_toArray, List.set_cons_zero, List.set_cons_succ]
  refine wpList_skipG rfl ?_
  simp only [Act.put, List.setIfInBounds_toArray, List.set_cons_zero, List.set_cons_succ]
  refine wpList_skipG rfl ?_
  simp only [Act.put, List.setIfInBounds_toArray, List.set_cons_zero, List.set_cons_succ]
  refine wpList_val (R := KD w.heap.size w [(g41, 24, r64 4 (F4 x)), (g30, 24, r64 4 (F4 y)), (w.heap.size, 26, nums 2 (two 0 0))]) (.bool true) rfl (by refine lands_value (w := w46) ?_ h46; go_simp <;> rfl) ?_
  intro w47 h47
  simp only [Act.put, List.setIfInBounds_toArray, List.set_cons_zero, List.set_cons_succ]
  clear h46
  refine wpList_nil ?_
  repeat (first | (with_reducible apply wp_seq_k; intro _ _) | with_reducible apply wp_block | with_reducible apply wp_skip | with_reducible apply wp_exit | (go_at_K; go_step) | with_reducible apply then_normal | with_reducible apply then_exit | with_reducible apply block_normal | with_reducible apply block_same | with_reducible exact block_far rfl ?_)
  refine wp_cond_true rfl ?_
  repeat (first | (with_reducible apply wp_seq_k; intro _ _) | with_reducible apply wp_block | with_reducible apply wp_skip | with_reducible apply wp_exit | (go_at_K; go_step) | with_reducible apply then_normal | with_reducible apply then_exit | with_reducible apply block_normal | with_reducible apply block_same | with_reducible exact block_far rfl ?_)
  with_reducible apply wp_region_lit
  refine wpList_val (R := KD w.heap.size w [(g41, 24, r64 4 (F4 x)), (g30, 24, r64 4 (F4 y)), (w.heap.size, 26, nums 2 (two 0 0))]) (.agg (nums 2 (two 0 0))) rfl (by exact lands_built _ _ rfl _ rfl _ (by kernel_rfl) h47) ?_
  intro w48 h48
  simp only [Act.put, List.setIfInBounds_toArray, List.set_cons_zero, List.set_cons_succ]
  clear h47
  refine wpList_val (R := KD w.heap.size w [(g41, 24, r64 4 (F4 x)), (g30, 24, r64 4 (F4 y)), (w.heap.size, 26, nums 2 (two 0 0))]) undef rfl (lands_store _ _ _ rfl w.heap.size (nums 2 (two 0 0)) rfl rfl _ _ (h48.blk _ m2) (by kernel_rfl) (by kernel_rfl) (row_one fun _ => rfl) (h48.put (k := 2) rfl _)) ?_
  intro w49 h49
  simp only [Act.put]
  clear h48
  refine wpList_val (R := KD w.heap.size w [(g41, 24, r64 4 (F4 x)), (g30, 24, r64 4 (F4 y)), (w.heap.size, 26, nums 2 (two 0 0))]) (.bool false) rfl (by refine lands_value (w := w49) ?_ h49; go_simp <;> rfl) ?_
  intro w50 h50
  simp only [Act.put, List.setIfInBounds_toArray, List.set_cons_zero, List.set_cons_succ]
  clear h49
  refine wpList_nil ?_
  repeat (first | (with_reducible apply wp_seq_k; intro _ _) | with_reducible apply wp_block | with_reducible apply wp_skip | with_reducible apply wp_exit | (go_at_K; go_step) | with_reducible apply then_normal | with_reducible apply then_exit | with_reducible apply block_normal | with_reducible apply block_same | with_reducible exact block_far rfl ?_)
  with_reducible apply wp_ret
  repeat (first | with_reducible apply then_ret | with_reducible apply block_ret)
  exact bodyPost_ret (results_cell_row_slot rfl _ _ w.heap.size 26 (nums 2 (two 0 0)) (0, 0) _ _ rfl (h50.blk _ m2) Try.underlying26 rfl (by kernel_rfl) rfl) rfl ⟨rfl, h50.b⟩
set_option maxRecDepth 100000 in
set_option maxHeartbeats 1000000 in
theorem rdec_make_o (s : ByteArray) (hs : s.size = 32) (hodd : ¬ byteS s 31 < 128) (hm : makeV (bytesV (yV s)) = (0, false)) (w : World) :
    Calls Try.prog 27 #[.string s] w fun e w' => e = .returned (.tuple #[.agg (nums 2 (two 0 0)), .bool false]) ∧ Below w.heap.size w w' := by
  have hc : ((s.size : Int) != 32) = false := by rw [hs]; rfl
  have hb256 := byteS_lt s 31
  have HM := Lib.hid hm
  clear hm
  have hcmp : (128 : Int) ≤ byteS s 31 := by omega
  have htm : (byteS s 31 : Int).tmod 128 = ((byteS s 31 % 128 : Nat) : Int) := by rw [Int.tmod_eq_emod_of_nonneg (by omega)]; omega
  go_enter Try.func27, Try.ntmps27
  repeat (first | (with_reducible apply wp_seq_k; intro _ _) | with_reducible apply wp_block | with_reducible apply wp_skip | with_reducible apply wp_exit | (go_at_K; go_step) | with_reducible apply then_normal | with_reducible apply then_exit | with_reducible apply block_normal | with_reducible apply block_same | with_reducible exact block_far rfl ?_)
  have h1 := KD.begin w
  with_reducible apply wp_region_lit
  refine wpList_val (R := KD w.heap.size w [(w.heap.size, 26, nums 2 (two 0 0))]) (.pointer (some ⟨w.heap.size, 0, none⟩)) rfl (lands_run2 (alloc_run _ _ rfl zero_pt _) (h1.add _ _)) ?_
  intro w2 h2
  simp only [Act.put, List.setIfInBounds_toArray, List.set_cons_zero, List.set_cons_succ]
  clear h1
  refine wpList_val (R := KD w.heap.size w [(w.heap.size, 26, nums 2 (two 0 0))]) (.bool false) rfl (by refine lands_value (w := w2) ?_ h2; go_simp <;> rfl) ?_
  intro w3 h3
  simp only [Act.put, List.setIfInBounds_toArray, List.set_cons_zero, List.set_cons_succ]
  clear h2
  refine wpList_nil ?_
  repeat (first | (with_reducible apply wp_seq_k; intro _ _) | with_reducible apply wp_block | with_reducible apply wp_skip | with_reducible apply wp_exit | (go_at_K; go_step) | with_reducible apply then_normal | with_reducible apply then_exit | with_reducible apply block_normal | with_reducible apply block_same | with_reducible exact block_far rfl ?_)
  with_reducible apply wp_region_lit
  refine wpList_val (R := KD w.heap.size w [(w.heap.size, 26, nums 2 (two 0 0))]) (.string s) rfl (by refine lands_value (w := w3) ?_ h3; go_simp <;> rfl) ?_
  intro w4 h4
  simp only [Act.put, List.setIfInBounds_toArray, List.set_cons_zero, List.set_cons_succ]
  clear h3
  refine wpList_val (R := KD w.heap.size w [(w.heap.size, 26, nums 2 (two 0 0))]) (.int .i64 (s.size : Int)) rfl (by refine lands_value (w := w4) ?_ h4; go_simp) ?_
  intro w5 h5
  simp only [Act.put, List.setIfInBounds_toArray, List.set_cons_zero, List.set_cons_succ]
  clear h4
  refine wpList_val (R := KD w.heap.size w [(w.heap.size, 26, nums 2 (two 0 0))]) (.bool false) rfl (by refine lands_value (w := w5) ?_ h5; go_simp) ?_
  intro w6 h6
  simp only [Act.put, List.setIfInBounds_toArray, List.set_cons_zero, List.set_cons_succ]
  clear h5
  refine wpList_nil ?_
  repeat (first | (with_reducible apply wp_seq_k; intro _ _) | with_reducible apply wp_block | with_reducible apply wp_skip | with_reducible apply wp_exit | (go_at_K; go_step) | with_reducible apply then_normal | with_reducible apply then_exit | with_reducible apply block_normal | with_reducible apply block_same | with_reducible exact block_far rfl ?_)
  refine wp_cond_false rfl ?_
  repeat (first | (with_reducible apply wp_seq_k; intro _ _) | with_reducible apply wp_block | with_reducible apply wp_skip | with_reducible apply wp_exit | (go_at_K; go_step) | with_reducible apply then_normal | with_reducible apply then_exit | with_reducible apply block_normal | with_reducible apply block_same | with_reducible exact block_far rfl ?_)
  with_reducible apply wp_region_lit
  refine wpList_val (R := KD w.heap.size w [(w.heap.size, 26, nums 2 (two 0 0))]) (.string s) rfl (by refine lands_value (w := w6) ?_ h6; go_simp <;> rfl) ?_
  intro w7 h7
  simp only [Act.put, List.setIfInBounds_toArray, List.set_cons_zero, List.set_cons_succ]
  clear h6
  obtain ⟨cap, W1, hcv, hX, hB⟩ := bytes_start s w7 hs
  refine wpList_val (R := KC (fun j => (byteS s j : Int)) w7.heap.size w.heap.size w [(w.heap.size, 26, nums 2 (two 0 0))]) (.slice (some ⟨w7.heap.size, 0, none⟩) 32 cap) rfl (lands_convert _ _ _ rfl rfl hcv ⟨h7.below hB, hX⟩) ?_
  have hge := h7.lo
  have hfar := h7.lt
  intro w8 h8
  simp only [Act.put, List.setIfInBounds_toArray, List.set_cons_zero, List.set_cons_succ]
  clear hcv hX hB W1 h7
  generalize w7.heap.size = g9 at h8 hge hfar ⊢
  refine wpList_val (R := KC (fun j => (byteS s j : Int)) g9 w.heap.size w [(w.heap.size, 26, nums 2 (two 0 0))]) (.slice (some ⟨g9, 0, none⟩) 32 cap) rfl (by refine lands_value (w := w8) ?_ h8; go_simp <;> rfl) ?_
  intro w10 h10
  simp only [Act.put, List.setIfInBounds_toArray, List.set_cons_zero, List.set_cons_succ]
  clear h8
  refine wpList_nil ?_
  repeat (first | (with_reducible apply wp_seq_k; intro _ _) | with_reducible apply wp_block | with_reducible apply wp_skip | with_reducible apply wp_exit | (go_at_K; go_step) | with_reducible apply then_normal | with_reducible apply then_exit | with_reducible apply block_normal | with_reducible apply block_same | with_reducible exact block_far rfl ?_)
  with_reducible apply wp_region_lit
  refine wpList_val (R := KC (fun j => (byteS s j : Int)) g9 w.heap.size w [(w.heap.size, 26, nums 2 (two 0 0))]) (.slice (some ⟨g9, 0, none⟩) 32 cap) rfl (by refine lands_value (w := w10) ?_ h10; go_simp <;> rfl) ?_
  intro w11 h11
  simp only [Act.put, List.setIfInBounds_toArray, List.set_cons_zero, List.set_cons_succ]
  clear h10
  refine wpList_val (R := KC (fun j => (byteS s j : Int)) g9 w.heap.size w [(w.heap.size, 26, nums 2 (two 0 0))]) (.pointer (some ⟨g9, 31, none⟩)) rfl (by refine lands_value (w := w11) ?_ h11; go_simp) ?_
  intro w12 h12
  simp only [Act.put, List.setIfInBounds_toArray, List.set_cons_zero, List.set_cons_succ]
  clear h11
  refine wpList_val (R := KC (fun j => (byteS s j : Int)) g9 w.heap.size w [(w.heap.size, 26, nums 2 (two 0 0))]) (.int .u8 (byteS s 31 : Int)) rfl (by have c31 := h12.x.c 31 (by decide); have f31 := h12.x.fz 31 (by decide); refine lands_value (w := w12) ?_ h12; go_simp) ?_
  intro w13 h13
  simp only [Act.put, List.setIfInBounds_toArray, List.set_cons_zero, List.set_cons_succ]
  clear h12
  refine wpList_val (R := KC (fun j => (byteS s j : Int)) g9 w.heap.size w [(w.heap.size, 26, nums 2 (two 0 0))]) (.bool true) rfl (by refine lands_value (w := w13) ?_ h13; go_simp) ?_
  intro w14 h14
  simp only [Act.put, List.setIfInBounds_toArray, List.set_cons_zero, List.set_cons_succ]
  clear h13
  refine wpList_val (R := KC (fun j => (byteS s j : Int)) g9 w.heap.size w [(w.heap.size, 26, nums 2 (two 0 0))]) (.bool true) rfl (by refine lands_value (w := w14) ?_ h14; go_simp <;> rfl) ?_
  intro w15 h15
  simp only [Act.put, List.setIfInBounds_toArray, List.set_cons_zero, List.set_cons_succ]
  clear h14
  refine wpList_nil ?_
  repeat (first | (with_reducible apply wp_seq_k; intro _ _) | with_reducible apply wp_block | with_reducible apply wp_skip | with_reducible apply wp_exit | (go_at_K; go_step) | with_reducible apply then_normal | with_reducible apply then_exit | with_reducible apply block_normal | with_reducible apply block_same | with_reducible exact block_far rfl ?_)
  with_reducible apply wp_region_lit
  refine wpList_val (R := KC (fun j => (byteS s j : Int)) g9 w.heap.size w [(w.heap.size, 26, nums 2 (two 0 0))]) (.slice (some ⟨g9, 0, none⟩) 32 cap) rfl (by refine lands_value (w := w15) ?_ h15; go_simp <;> rfl) ?_
  intro w16 h16
  simp only [Act.put, List.setIfInBounds_toArray, List.set_cons_zero, List.set_cons_succ]
  clear h15
  refine wpList_val (R := KC (fun j => (byteS s j : Int)) g9 w.heap.size w [(w.heap.size, 26, nums 2 (two 0 0))]) (.slice (some ⟨g9, 0, none⟩) 32 cap) rfl (by refine lands_value (w := w16) ?_ h16; go_simp <;> rfl) ?_
  intro w17 h17
  simp only [Act.put, List.setIfInBounds_toArray, List.set_cons_zero, List.set_cons_succ]
  clear h16
  refine wpList_val (R := KC (fun j => (byteS s j : Int)) g9 w.heap.size w [(w.heap.size, 26, nums 2 (two 0 0))]) (.pointer (some ⟨g9, 31, none⟩)) rfl (by refine lands_value (w := w17) ?_ h17; go_simp) ?_
  intro w18 h18
  simp only [Act.put, List.setIfInBounds_toArray, List.set_cons_zero, List.set_cons_succ]
  clear h17
  refine wpList_val (R := KC (fun j => (byteS s j : Int)) g9 w.heap.size w [(w.heap.size, 26, nums 2 (two 0 0))]) (.int .u8 (byteS s 31 : Int)) rfl (by have c31 := h18.x.c 31 (by decide); have f31 := h18.x.fz 31 (by decide); refine lands_value (w := w18) ?_ h18; go_simp) ?_
  intro w19 h19
  simp only [Act.put, List.setIfInBounds_toArray, List.set_cons_zero, List.set_cons_succ]
  clear h18
  refine wpList_val (R := KC (fun j => (byteS s j : Int)) g9 w.heap.size w [(w.heap.size, 26, nums 2 (two 0 0))]) (.int .u8 ((byteS s 31 % 128 : Nat) : Int)) rfl (by refine lands_value (w := w19) ?_ h19; go_simp) ?_
  intro w20 h20
  simp only [Act.put, List.setIfInBounds_toArray, List.set_cons_zero, List.set_cons_succ]
  clear h19
  refine wpList_val (R := KC (fun j => (byteS s j : Int)) g9 w.heap.size w [(w.heap.size, 26, nums 2 (two 0 0))]) (.pointer (some ⟨g9, 31, none⟩)) rfl (by refine lands_value (w := w20) ?_ h20; go_simp) ?_
  intro w21 h21
  simp only [Act.put, List.setIfInBounds_toArray, List.set_cons_zero, List.set_cons_succ]
  clear h20
  have c31 := h21.x.c 31 (by decide)
  have f31 := h21.x.fz 31 (by decide)
  refine wpList_val (R := KC (fun j => if j = 31 then ((byteS s 31 % 128 : Nat) : Int) else (byteS s j : Int)) g9 w.heap.size w [(w.heap.size, 26, nums 2 (two 0 0))]) undef rfl (lands_skip (by go_simp) ⟨h21.k.cellfar hfar hge _, h21.x.put (by decide) _⟩) ?_
  intro w22 h22
  simp only [Act.put]
  clear c31 f31 h21
  refine wpList_nil ?_
  repeat (first | (with_reducible apply wp_seq_k; intro _ _) | with_reducible apply wp_block | with_reducible apply wp_skip | with_reducible apply wp_exit | (go_at_K; go_step) | with_reducible apply then_normal | with_reducible apply then_exit | with_reducible apply block_normal | with_reducible apply block_same | with_reducible exact block_far rfl ?_)
  with_reducible apply wp_region_lit
  refine wpList_val (R := KC (fun j => if j = 31 then ((byteS s 31 % 128 : Nat) : Int) else (byteS s j : Int)) g9 w.heap.size w [(w.heap.size, 26, nums 2 (two 0 0))]) (.slice (some ⟨g9, 0, none⟩) 32 cap) rfl (by refine lands_value (w := w22) ?_ h22; go_simp <;> rfl) ?_
  intro w23 h23
  simp only [Act.put, List.setIfInBounds_toArray, List.set_cons_zero, List.set_cons_succ]
  clear h22
  refine wpList_val (R := KC (fun j => if j = 31 then ((byteS s 31 % 128 : Nat) : Int) else (byteS s j : Int)) g9 w.heap.size w [(w.heap.size, 26, nums 2 (two 0 0))]) (.string (bytesV (yV s))) rfl (by exact lands_convert _ _ _ rfl rfl (bytes_end h23.x (yV s) (fun j hj => by rw [yV_byte s j hj]; by_cases h1 : j = 31 <;> simp only [h1, if_true, if_false]) cap) h23) ?_
  intro w24 h24
  simp only [Act.put, List.setIfInBounds_toArray, List.set_cons_zero, List.set_cons_succ]
  clear h23
  replace h24 := h24.k
  clear hfar hge
  refine wpList_val (R := KD w.heap.size w [(w.heap.size, 26, nums 2 (two 0 0))]) (.tuple #[.agg (r64 4 (F4 0)), .bool false]) rfl (by exact lands_calls (w := w24) ((rmake_is (bytesV (yV s)) 0 false w24 HM.out).mono fun _ _ ⟨he, hb⟩ => ⟨he, h24.below hb⟩) (by go_simp)) ?_
  intro w25 h25
  simp only [Act.put, List.setIfInBounds_toArray, List.set_cons_zero, List.set_cons_succ]
  clear h24
  refine wpList_val (R := KD w.heap.size w [(w.heap.size, 26, nums 2 (two 0 0))]) (.tuple #[.agg (r64 4 (F4 0)), .bool false]) rfl (by refine lands_value (w := w25) ?_ h25; go_simp <;> rfl) ?_
  intro w26 h26
  simp only [Act.put, List.setIfInBounds_toArray, List.set_cons_zero, List.set_cons_succ]
  clear h25
  refine wpList_val (R := KD w.heap.size w [(w.heap.size, 26, nums 2 (two 0 0))]) (.agg (r64 4 (F4 0))) rfl (by refine lands_value (w := w26) ?_ h26; go_simp <;> rfl) ?_
  intro w27 h27
  simp only [Act.put, List.setIfInBounds_toArray, List.set_cons_zero, List.set_cons_succ]
  clear h26
  refine wpList_val (R := KD w.heap.size w [(w.heap.size, 26, nums 2 (two 0 0))]) (.bool false) rfl (by refine lands_value (w := w27) ?_ h27; go_simp <;> rfl) ?_
  intro w28 h28
  simp only [Act.put, List.setIfInBounds_toArray, List.set_cons_zero, List.set_cons_succ]
  clear h27
  refine wpList_val (R := KD w.heap.size w [(w28.heap.size, 24, r64 4 (F4 0)), (w.heap.size, 26, nums 2 (two 0 0))]) (.pointer (some ⟨w28.heap.size, 0, none⟩)) rfl (lands_run2 (alloc_run _ _ rfl zero_fe _) (h28.add _ _)) ?_
  intro w29 h29
  simp only [Act.put, List.setIfInBounds_toArray, List.set_cons_zero, List.set_cons_succ]
  clear h28
  generalize w28.heap.size = g30 at h29 ⊢
  refine wpList_val (R := KD w.heap.size w [(g30, 24, r64 4 (F4 0)), (w.heap.size, 26, nums 2 (two 0 0))]) undef rfl (lands_store _ _ _ rfl g30 (r64 4 (F4 0)) rfl rfl _ _ (h29.blk _ m0) (by kernel_rfl) (by kernel_rfl) (row_one fun _ => rfl) (h29.put (k := 0) rfl _)) ?_
  intro w31 h31
  simp only [Act.put]
  clear h29
  refine wpList_val (R := KD w.heap.size w [(g30, 24, r64 4 (F4 0)), (w.heap.size, 26, nums 2 (two 0 0))]) (.bool false) rfl (by refine lands_value (w := w31) ?_ h31; go_simp <;> rfl) ?_
  intro w32 h32
  simp only [Act.put, List.setIfInBounds_toArray, List.set_cons_zero, List.set_cons_succ]
  clear h31
  refine wpList_nil ?_
  repeat (first | (with_reducible apply wp_seq_k; intro _ _) | with_reducible apply wp_block | with_reducible apply wp_skip | with_reducible apply wp_exit | (go_at_K; go_step) | with_reducible apply then_normal | with_reducible apply then_exit | with_reducible apply block_normal | with_reducible apply block_same | with_reducible exact block_far rfl ?_)
  with_reducible apply wp_region_lit
  refine wpList_val (R := KD w.heap.size w [(g30, 24, r64 4 (F4 0)), (w.heap.size, 26, nums 2 (two 0 0))]) (.bool false) rfl (by refine lands_value (w := w32) ?_ h32; go_simp <;> rfl) ?_
  intro w33 h33
  simp only [Act.put, List.setIfInBounds_toArray, List.set_cons_zero, List.set_cons_succ]
  clear h32
  refine wpList_val (R := KD w.heap.size w [(g30, 24, r64 4 (F4 0)), (w.heap.size, 26, nums 2 (two 0 0))]) (.bool true) rfl (by refine lands_value (w := w33) ?_ h33; go_simp <;> rfl) ?_
  intro w34 h34
  simp only [Act.put, List.setIfInBounds_toArray, List.set_cons_zero, List.set_cons_succ]
  clear h33
  refine wpList_nil ?_
  repeat (first | (with_reducible apply wp_seq_k; intro _ _) | with_reducible apply wp_block | with_reducible apply wp_skip | with_reducible apply wp_exit | (go_at_K; go_step) | with_reducible apply then_normal | with_reducible apply then_exit | with_reducible apply block_normal | with_reducible apply block_same | with_reducible exact block_far rfl ?_)
  refine wp_cond_true rfl ?_
  repeat (first | (with_reducible apply wp_seq_k; intro _ _) | with_reducible apply wp_block | with_reducible apply wp_skip | with_reducible apply wp_exit | (go_at_K; go_step) | with_reducible apply then_normal | with_reducible apply then_exit | with_reducible apply block_normal | with_reducible apply block_same | with_reducible exact block_far rfl ?_)
  with_reducible apply wp_region_lit
  refine wpList_val (R := KD w.heap.size w [(g30, 24, r64 4 (F4 0)), (w.heap.size, 26, nums 2 (two 0 0))]) (.agg (nums 2 (two 0 0))) rfl (by exact lands_built _ _ rfl _ rfl _ (by kernel_rfl) h34) ?_
  intro w35 h35
  simp only [Act.put, List.setIfInBounds_toArray, List.set_cons_zero, List.set_cons_succ]
  clear h34
  refine wpList_val (R := KD w.heap.size w [(g30, 24, r64 4 (F4 0)), (w.heap.size, 26, nums 2 (two 0 0))]) undef rfl (lands_store _ _ _ rfl w.heap.size (nums 2 (two 0 0)) rfl rfl _ _ (h35.blk _ m1) (by kernel_rfl) (by kernel_rfl) (row_one fun _ => rfl) (h35.put (k := 1) rfl _)) ?_
  intro w36 h36
  simp only [Act.put]
  clear h35
  refine wpList_val (R := KD w.heap.size w [(g30, 24, r64 4 (F4 0)), (w.heap.size, 26, nums 2 (two 0 0))]) (.bool false) rfl (by refine lands_value (w := w36) ?_ h36; go_simp <;> rfl) ?_
  intro w37 h37
  simp only [Act.put, List.setIfInBounds_toArray, List.set_cons_zero, List.set_cons_succ]
  clear h36
  refine wpList_nil ?_
  repeat (first | (with_reducible apply wp_seq_k; intro _ _) | with_reducible apply wp_block | with_reducible apply wp_skip | with_reducible apply wp_exit | (go_at_K; go_step) | with_reducible apply then_normal | with_reducible apply then_exit | with_reducible apply block_normal | with_reducible apply block_same | with_reducible exact block_far rfl ?_)
  with_reducible apply wp_ret
  repeat (first | with_reducible apply then_ret | with_reducible apply block_ret)
  exact bodyPost_ret (results_cell_row_slot rfl _ _ w.heap.size 26 (nums 2 (two 0 0)) (0, 0) _ _ rfl (h37.blk _ m1) Try.underlying26 rfl (by kernel_rfl) rfl) rfl ⟨rfl, h37.b⟩
set_option maxRecDepth 100000 in
set_option maxHeartbeats 1000000 in
theorem rdec_none_o (s : ByteArray) (hs : s.size = 32) (hodd : ¬ byteS s 31 < 128) (y : Nat) (hyM : y < M256) (hm : makeV (bytesV (yV s)) = (y, true)) (x : Nat) (hr : rV (subP (mulP y y) 1) (addP (mulP dP (mulP y y)) 1) = (x, false)) (w : World) :
    Calls Try.prog 27 #[.string s] w fun e w' => e = .returned (.tuple #[.agg (nums 2 (two 0 0)), .bool false]) ∧ Below w.heap.size w w' := by
  have hc : ((s.size : Int) != 32) = false := by rw [hs]; rfl
  have hb256 := byteS_lt s 31
  have HM := Lib.hid hm
  clear hm
  have hxM := rV_lt hr
  have hcmp : (128 : Int) ≤ byteS s 31 := by omega
  have htm : (byteS s 31 : Int).tmod 128 = ((byteS s 31 % 128 : Nat) : Int) := by rw [Int.tmod_eq_emod_of_nonneg (by omega)]; omega
  go_enter Try.func27, Try.ntmps27
  repeat (first | (with_reducible apply wp_seq_k; intro _ _) | with_reducible apply wp_block | with_reducible apply wp_skip | with_reducible apply wp_exit | (go_at_K; go_step) | with_reducible apply then_normal | with_reducible apply then_exit | with_reducible apply block_normal | with_reducible apply block_same | with_reducible exact block_far rfl ?_)
  have h1 := KD.begin w
  with_reducible apply wp_region_lit
  refine wpList_val (R := KD w.heap.size w [(w.heap.size, 26, nums 2 (two 0 0))]) (.pointer (some ⟨w.heap.size, 0, none⟩)) rfl (lands_run2 (alloc_run _ _ rfl zero_pt _) (h1.add _ _)) ?_
  intro w2 h2
  simp only [Act.put, List.setIfInBounds_toArray, List.set_cons_zero, List.set_cons_succ]
  clear h1
  refine wpList_val (R := KD w.heap.size w [(w.heap.size, 26, nums 2 (two 0 0))]) (.bool false) rfl (by refine lands_value (w := w2) ?_ h2; go_simp <;> rfl) ?_
  intro w3 h3
  simp only [Act.put, List.setIfInBounds_toArray, List.set_cons_zero, List.set_cons_succ]
  clear h2
  refine wpList_nil ?_
  repeat (first | (with_reducible apply wp_seq_k; intro _ _) | with_reducible apply wp_block | with_reducible apply wp_skip | with_reducible apply wp_exit | (go_at_K; go_step) | with_reducible apply then_normal | with_reducible apply then_exit | with_reducible apply block_normal | with_reducible apply block_same | with_reducible exact block_far rfl ?_)
  with_reducible apply wp_region_lit
  refine wpList_val (R := KD w.heap.size w [(w.heap.size, 26, nums 2 (two 0 0))]) (.string s) rfl (by refine lands_value (w := w3) ?_ h3; go_simp <;> rfl) ?_
  intro w4 h4
  simp only [Act.put, List.setIfInBounds_toArray, List.set_cons_zero, List.set_cons_succ]
  clear h3
  refine wpList_val (R := KD w.heap.size w [(w.heap.size, 26, nums 2 (two 0 0))]) (.int .i64 (s.size : Int)) rfl (by refine lands_value (w := w4) ?_ h4; go_simp) ?_
  intro w5 h5
  simp only [Act.put, List.setIfInBounds_toArray, List.set_cons_zero, List.set_cons_succ]
  clear h4
  refine wpList_val (R := KD w.heap.size w [(w.heap.size, 26, nums 2 (two 0 0))]) (.bool false) rfl (by refine lands_value (w := w5) ?_ h5; go_simp) ?_
  intro w6 h6
  simp only [Act.put, List.setIfInBounds_toArray, List.set_cons_zero, List.set_cons_succ]
  clear h5
  refine wpList_nil ?_
  repeat (first | (with_reducible apply wp_seq_k; intro _ _) | with_reducible apply wp_block | with_reducible apply wp_skip | with_reducible apply wp_exit | (go_at_K; go_step) | with_reducible apply then_normal | with_reducible apply then_exit | with_reducible apply block_normal | with_reducible apply block_same | with_reducible exact block_far rfl ?_)
  refine wp_cond_false rfl ?_
  repeat (first | (with_reducible apply wp_seq_k; intro _ _) | with_reducible apply wp_block | with_reducible apply wp_skip | with_reducible apply wp_exit | (go_at_K; go_step) | with_reducible apply then_normal | with_reducible apply then_exit | with_reducible apply block_normal | with_reducible apply block_same | with_reducible exact block_far rfl ?_)
  with_reducible apply wp_region_lit
  refine wpList_val (R := KD w.heap.size w [(w.heap.size, 26, nums 2 (two 0 0))]) (.string s) rfl (by refine lands_value (w := w6) ?_ h6; go_simp <;> rfl) ?_
  intro w7 h7
  simp only [Act.put, List.setIfInBounds_toArray, List.set_cons_zero, List.set_cons_succ]
  clear h6
  obtain ⟨cap, W1, hcv, hX, hB⟩ := bytes_start s w7 hs
  refine wpList_val (R := KC (fun j => (byteS s j : Int)) w7.heap.size w.heap.size w [(w.heap.size, 26, nums 2 (two 0 0))]) (.slice (some ⟨w7.heap.size, 0, none⟩) 32 cap) rfl (lands_convert _ _ _ rfl rfl hcv ⟨h7.below hB, hX⟩) ?_
  have hge := h7.lo
  have hfar := h7.lt
  intro w8 h8
  simp only [Act.put, List.setIfInBounds_toArray, List.set_cons_zero, List.set_cons_succ]
  clear hcv hX hB W1 h7
  generalize w7.heap.size = g9 at h8 hge hfar ⊢
  refine wpList_val (R := KC (fun j => (byteS s j : Int)) g9 w.heap.size w [(w.heap.size, 26, nums 2 (two 0 0))]) (.slice (some ⟨g9, 0, none⟩) 32 cap) rfl (by refine lands_value (w := w8) ?_ h8; go_simp <;> rfl) ?_
  intro w10 h10
  simp only [Act.put, List.setIfInBounds_toArray, List.set_cons_zero, List.set_cons_succ]
  clear h8
  refine wpList_nil ?_
  repeat (first | (with_reducible apply wp_seq_k; intro _ _) | with_reducible apply wp_block | with_reducible apply wp_skip | with_reducible apply wp_exit | (go_at_K; go_step) | with_reducible apply then_normal | with_reducible apply then_exit | with_reducible apply block_normal | with_reducible apply block_same | with_reducible exact block_far rfl ?_)
  with_reducible apply wp_region_lit
  refine wpList_val (R := KC (fun j => (byteS s j : Int)) g9 w.heap.size w [(w.heap.size, 26, nums 2 (two 0 0))]) (.slice (some ⟨g9, 0, none⟩) 32 cap) rfl (by refine lands_value (w := w10) ?_ h10; go_simp <;> rfl) ?_
  intro w11 h11
  simp only [Act.put, List.setIfInBounds_toArray, List.set_cons_zero, List.set_cons_succ]
  clear h10
  refine wpList_val (R := KC (fun j => (byteS s j : Int)) g9 w.heap.size w [(w.heap.size, 26, nums 2 (two 0 0))]) (.pointer (some ⟨g9, 31, none⟩)) rfl (by refine lands_value (w := w11) ?_ h11; go_simp) ?_
  intro w12 h12
  simp only [Act.put, List.setIfInBounds_toArray, List.set_cons_zero, List.set_cons_succ]
  clear h11
  refine wpList_val (R := KC (fun j => (byteS s j : Int)) g9 w.heap.size w [(w.heap.size, 26, nums 2 (two 0 0))]) (.int .u8 (byteS s 31 : Int)) rfl (by have c31 := h12.x.c 31 (by decide); have f31 := h12.x.fz 31 (by decide); refine lands_value (w := w12) ?_ h12; go_simp) ?_
  intro w13 h13
  simp only [Act.put, List.setIfInBounds_toArray, List.set_cons_zero, List.set_cons_succ]
  clear h12
  refine wpList_val (R := KC (fun j => (byteS s j : Int)) g9 w.heap.size w [(w.heap.size, 26, nums 2 (two 0 0))]) (.bool true) rfl (by refine lands_value (w := w13) ?_ h13; go_simp) ?_
  intro w14 h14
  simp only [Act.put, List.setIfInBounds_toArray, List.set_cons_zero, List.set_cons_succ]
  clear h13
  refine wpList_val (R := KC (fun j => (byteS s j : Int)) g9 w.heap.size w [(w.heap.size, 26, nums 2 (two 0 0))]) (.bool true) rfl (by refine lands_value (w := w14) ?_ h14; go_simp <;> rfl) ?_
  intro w15 h15
  simp only [Act.put, List.setIfInBounds_toArray, List.set_cons_zero, List.set_cons_succ]
  clear h14
  refine wpList_nil ?_
  repeat (first | (with_reducible apply wp_seq_k; intro _ _) | with_reducible apply wp_block | with_reducible apply wp_skip | with_reducible apply wp_exit | (go_at_K; go_step) | with_reducible apply then_normal | with_reducible apply then_exit | with_reducible apply block_normal | with_reducible apply block_same | with_reducible exact block_far rfl ?_)
  with_reducible apply wp_region_lit
  refine wpList_val (R := KC (fun j => (byteS s j : Int)) g9 w.heap.size w [(w.heap.size, 26, nums 2 (two 0 0))]) (.slice (some ⟨g9, 0, none⟩) 32 cap) rfl (by refine lands_value (w := w15) ?_ h15; go_simp <;> rfl) ?_
  intro w16 h16
  simp only [Act.put, List.setIfInBounds_toArray, List.set_cons_zero, List.set_cons_succ]
  clear h15
  refine wpList_val (R := KC (fun j => (byteS s j : Int)) g9 w.heap.size w [(w.heap.size, 26, nums 2 (two 0 0))]) (.slice (some ⟨g9, 0, none⟩) 32 cap) rfl (by refine lands_value (w := w16) ?_ h16; go_simp <;> rfl) ?_
  intro w17 h17
  simp only [Act.put, List.setIfInBounds_toArray, List.set_cons_zero, List.set_cons_succ]
  clear h16
  refine wpList_val (R := KC (fun j => (byteS s j : Int)) g9 w.heap.size w [(w.heap.size, 26, nums 2 (two 0 0))]) (.pointer (some ⟨g9, 31, none⟩)) rfl (by refine lands_value (w := w17) ?_ h17; go_simp) ?_
  intro w18 h18
  simp only [Act.put, List.setIfInBounds_toArray, List.set_cons_zero, List.set_cons_succ]
  clear h17
  refine wpList_val (R := KC (fun j => (byteS s j : Int)) g9 w.heap.size w [(w.heap.size, 26, nums 2 (two 0 0))]) (.int .u8 (byteS s 31 : Int)) rfl (by have c31 := h18.x.c 31 (by decide); have f31 := h18.x.fz 31 (by decide); refine lands_value (w := w18) ?_ h18; go_simp) ?_
  intro w19 h19
  simp only [Act.put, List.setIfInBounds_toArray, List.set_cons_zero, List.set_cons_succ]
  clear h18
  refine wpList_val (R := KC (fun j => (byteS s j : Int)) g9 w.heap.size w [(w.heap.size, 26, nums 2 (two 0 0))]) (.int .u8 ((byteS s 31 % 128 : Nat) : Int)) rfl (by refine lands_value (w := w19) ?_ h19; go_simp) ?_
  intro w20 h20
  simp only [Act.put, List.setIfInBounds_toArray, List.set_cons_zero, List.set_cons_succ]
  clear h19
  refine wpList_val (R := KC (fun j => (byteS s j : Int)) g9 w.heap.size w [(w.heap.size, 26, nums 2 (two 0 0))]) (.pointer (some ⟨g9, 31, none⟩)) rfl (by refine lands_value (w := w20) ?_ h20; go_simp) ?_
  intro w21 h21
  simp only [Act.put, List.setIfInBounds_toArray, List.set_cons_zero, List.set_cons_succ]
  clear h20
  have c31 := h21.x.c 31 (by decide)
  have f31 := h21.x.fz 31 (by decide)
  refine wpList_val (R := KC (fun j => if j = 31 then ((byteS s 31 % 128 : Nat) : Int) else (byteS s j : Int)) g9 w.heap.size w [(w.heap.size, 26, nums 2 (two 0 0))]) undef rfl (lands_skip (by go_simp) ⟨h21.k.cellfar hfar hge _, h21.x.put (by decide) _⟩) ?_
  intro w22 h22
  simp only [Act.put]
  clear c31 f31 h21
  refine wpList_nil ?_
  repeat (first | (with_reducible apply wp_seq_k; intro _ _) | with_reducible apply wp_block | with_reducible apply wp_skip | with_reducible apply wp_exit | (go_at_K; go_step) | with_reducible apply then_normal | with_reducible apply then_exit | with_reducible apply block_normal | with_reducible apply block_same | with_reducible exact block_far rfl ?_)
  with_reducible apply wp_region_lit
  refine wpList_val (R := KC (fun j => if j = 31 then ((byteS s 31 % 128 : Nat) : Int) else (byteS s j : Int)) g9 w.heap.size w [(w.heap.size, 26, nums 2 (two 0 0))]) (.slice (some ⟨g9, 0, none⟩) 32 cap) rfl (by refine lands_value (w := w22) ?_ h22; go_simp <;> rfl) ?_
  intro w23 h23
  simp only [Act.put, List.setIfInBounds_toArray, List.set_cons_zero, List.set_cons_succ]
  clear h22
  refine wpList_val (R := KC (fun j => if j = 31 then ((byteS s 31 % 128 : Nat) : Int) else (byteS s j : Int)) g9 w.heap.size w [(w.heap.size, 26, nums 2 (two 0 0))]) (.string (bytesV (yV s))) rfl (by exact lands_convert _ _ _ rfl rfl (bytes_end h23.x (yV s) (fun j hj => by rw [yV_byte s j hj]; by_cases h1 : j = 31 <;> simp only [h1, if_true, if_false]) cap) h23) ?_
  intro w24 h24
  simp only [Act.put, List.setIfInBounds_toArray, List.set_cons_zero, List.set_cons_succ]
  clear h23
  replace h24 := h24.k
  clear hfar hge
  refine wpList_val (R := KD w.heap.size w [(w.heap.size, 26, nums 2 (two 0 0))]) (.tuple #[.agg (r64 4 (F4 y)), .bool true]) rfl (by exact lands_calls (w := w24) ((rmake_is (bytesV (yV s)) y true w24 HM.out).mono fun _ _ ⟨he, hb⟩ => ⟨he, h24.below hb⟩) (by go_simp)) ?_
  intro w25 h25
  simp only [Act.put, List.setIfInBounds_toArray, List.set_cons_zero, List.set_cons_succ]
  clear h24
  refine wpList_val (R := KD w.heap.size w [(w.heap.size, 26, nums 2 (two 0 0))]) (.tuple #[.agg (r64 4 (F4 y)), .bool true]) rfl (by refine lands_value (w := w25) ?_ h25; go_simp <;> rfl) ?_
  intro w26 h26
  simp only [Act.put, List.setIfInBounds_toArray, List.set_cons_zero, List.set_cons_succ]
  clear h25
  refine wpList_val (R := KD w.heap.size w [(w.heap.size, 26, nums 2 (two 0 0))]) (.agg (r64 4 (F4 y))) rfl (by refine lands_value (w := w26) ?_ h26; go_simp <;> rfl) ?_
  intro w27 h27
  simp only [Act.put, List.setIfInBounds_toArray, List.set_cons_zero, List.set_cons_succ]
  clear h26
  refine wpList_val (R := KD w.heap.size w [(w.heap.size, 26, nums 2 (two 0 0))]) (.bool true) rfl (by refine lands_value (w := w27) ?_ h27; go_simp <;> rfl) ?_
  intro w28 h28
  simp only [Act.put, List.setIfInBounds_toArray, List.set_cons_zero, List.set_cons_succ]
  clear h27
  refine wpList_val (R := KD w.heap.size w [(w28.heap.size, 24, r64 4 (F4 0)), (w.heap.size, 26, nums 2 (two 0 0))]) (.pointer (some ⟨w28.heap.size, 0, none⟩)) rfl (lands_run2 (alloc_run _ _ rfl zero_fe _) (h28.add _ _)) ?_
  intro w29 h29
  simp only [Act.put, List.setIfInBounds_toArray, List.set_cons_zero, List.set_cons_succ]
  clear h28
  generalize w28.heap.size = g30 at h29 ⊢
  refine wpList_val (R := KD w.heap.size w [(g30, 24, r64 4 (F4 y)), (w.heap.size, 26, nums 2 (two 0 0))]) undef rfl (lands_store _ _ _ rfl g30 (r64 4 (F4 y)) rfl rfl _ _ (h29.blk _ m0) (by kernel_rfl) (by kernel_rfl) (row_one fun _ => rfl) (h29.put (k := 0) rfl _)) ?_
  intro w31 h31
  simp only [Act.put]
  clear h29
  refine wpList_val (R := KD w.heap.size w [(g30, 24, r64 4 (F4 y)), (w.heap.size, 26, nums 2 (two 0 0))]) (.bool true) rfl (by refine lands_value (w := w31) ?_ h31; go_simp <;> rfl) ?_
  intro w32 h32
  simp only [Act.put, List.setIfInBounds_toArray, List.set_cons_zero, List.set_cons_succ]
  clear h31
  refine wpList_nil ?_
  repeat (first | (with_reducible apply wp_seq_k; intro _ _) | with_reducible apply wp_block | with_reducible apply wp_skip | with_reducible apply wp_exit | (go_at_K; go_step) | with_reducible apply then_normal | with_reducible apply then_exit | with_reducible apply block_normal | with_reducible apply block_same | with_reducible exact block_far rfl ?_)
  with_reducible apply wp_region_lit
  refine wpList_val (R := KD w.heap.size w [(g30, 24, r64 4 (F4 y)), (w.heap.size, 26, nums 2 (two 0 0))]) (.bool true) rfl (by refine lands_value (w := w32) ?_ h32; go_simp <;> rfl) ?_
  intro w33 h33
  simp only [Act.put, List.setIfInBounds_toArray, List.set_cons_zero, List.set_cons_succ]
  clear h32
  refine wpList_val (R := KD w.heap.size w [(g30, 24, r64 4 (F4 y)), (w.heap.size, 26, nums 2 (two 0 0))]) (.bool false) rfl (by refine lands_value (w := w33) ?_ h33; go_simp <;> rfl) ?_
  intro w34 h34
  simp only [Act.put, List.setIfInBounds_toArray, List.set_cons_zero, List.set_cons_succ]
  clear h33
  refine wpList_nil ?_
  repeat (first | (with_reducible apply wp_seq_k; intro _ _) | with_reducible apply wp_block | with_reducible apply wp_skip | with_reducible apply wp_exit | (go_at_K; go_step) | with_reducible apply then_normal | with_reducible apply then_exit | with_reducible apply block_normal | with_reducible apply block_same | with_reducible exact block_far rfl ?_)
  refine wp_cond_false rfl ?_
  repeat (first | (with_reducible apply wp_seq_k; intro _ _) | with_reducible apply wp_block | with_reducible apply wp_skip | with_reducible apply wp_exit | (go_at_K; go_step) | with_reducible apply then_normal | with_reducible apply then_exit | with_reducible apply block_normal | with_reducible apply block_same | with_reducible exact block_far rfl ?_)
  with_reducible apply wp_region_lit
  refine wpList_val (R := KD w.heap.size w [(g30, 24, r64 4 (F4 y)), (w.heap.size, 26, nums 2 (two 0 0))]) (.agg (r64 4 (F4 y))) rfl (by exact lands_load _ _ rfl _ rfl _ _ _ (h34.blk _ m0) Try.underlying24 rfl (fe_size _) h34) ?_
  intro w35 h35
  simp only [Act.put, List.setIfInBounds_toArray, List.set_cons_zero, List.set_cons_succ]
  clear h34
  refine wpList_val (R := KD w.heap.size w [(g30, 24, r64 4 (F4 y)), (w.heap.size, 26, nums 2 (two 0 0))]) (.tuple #[.agg (r64 4 (F4 x)), .bool false]) rfl (by exact lands_calls (w := w35) ((rroot5_any y hyM x false hr w35).mono fun _ _ ⟨he, hb⟩ => ⟨he, h35.below hb⟩) (by go_simp)) ?_
  intro w36 h36
  simp only [Act.put, List.setIfInBounds_toArray, List.set_cons_zero, List.set_cons_succ]
  clear h35
  refine wpList_val (R := KD w.heap.size w [(g30, 24, r64 4 (F4 y)), (w.heap.size, 26, nums 2 (two 0 0))]) (.tuple #[.agg (r64 4 (F4 x)), .bool false]) rfl (by refine lands_value (w := w36) ?_ h36; go_simp <;> rfl) ?_
  intro w37 h37
  simp only [Act.put, List.setIfInBounds_toArray, List.set_cons_zero, List.set_cons_succ]
  clear h36
  refine wpList_val (R := KD w.heap.size w [(g30, 24, r64 4 (F4 y)), (w.heap.size, 26, nums 2 (two 0 0))]) (.agg (r64 4 (F4 x))) rfl (by refine lands_value (w := w37) ?_ h37; go_simp <;> rfl) ?_
  intro w38 h38
  simp only [Act.put, List.setIfInBounds_toArray, List.set_cons_zero, List.set_cons_succ]
  clear h37
  refine wpList_val (R := KD w.heap.size w [(g30, 24, r64 4 (F4 y)), (w.heap.size, 26, nums 2 (two 0 0))]) (.bool false) rfl (by refine lands_value (w := w38) ?_ h38; go_simp <;> rfl) ?_
  intro w39 h39
  simp only [Act.put, List.setIfInBounds_toArray, List.set_cons_zero, List.set_cons_succ]
  clear h38
  refine wpList_val (R := KD w.heap.size w [(w39.heap.size, 24, r64 4 (F4 0)), (g30, 24, r64 4 (F4 y)), (w.heap.size, 26, nums 2 (two 0 0))]) (.pointer (some ⟨w39.heap.size, 0, none⟩)) rfl (lands_run2 (alloc_run _ _ rfl zero_fe _) (h39.add _ _)) ?_
  intro w40 h40
  simp only [Act.put, List.setIfInBounds_toArray, List.set_cons_zero, List.set_cons_succ]
  clear h39
  generalize w39.heap.size = g41 at h40 ⊢
  refine wpList_val (R := KD w.heap.size w [(g41, 24, r64 4 (F4 x)), (g30, 24, r64 4 (F4 y)), (w.heap.size, 26, nums 2 (two 0 0))]) undef rfl (lands_store _ _ _ rfl g41 (r64 4 (F4 x)) rfl rfl _ _ (h40.blk _ m0) (by kernel_rfl) (by kernel_rfl) (row_one fun _ => rfl) (h40.put (k := 0) rfl _)) ?_
  intro w42 h42
  simp only [Act.put]
  clear h40
  refine wpList_val (R := KD w.heap.size w [(g41, 24, r64 4 (F4 x)), (g30, 24, r64 4 (F4 y)), (w.heap.size, 26, nums 2 (two 0 0))]) (.bool false) rfl (by refine lands_value (w := w42) ?_ h42; go_simp <;> rfl) ?_
  intro w43 h43
  simp only [Act.put, List.setIfInBounds_toArray, List.set_cons_zero, List.set_cons_succ]
  clear h42
  refine wpList_nil ?_
  repeat (first | (with_reducible apply wp_seq_k; intro _ _) | with_reducible apply wp_block | with_reducible apply wp_skip | with_reducible apply wp_exit | (go_at_K; go_step) | with_reducible apply then_normal | with_reducible apply then_exit | with_reducible apply block_normal | with_reducible apply block_same | with_reducible exact block_far rfl ?_)
  with_reducible apply wp_region_lit
  refine wpList_val (R := KD w.heap.size w [(g41, 24, r64 4 (F4 x)), (g30, 24, r64 4 (F4 y)), (w.heap.size, 26, nums 2 (two 0 0))]) (.bool false) rfl (by refine lands_value (w := w43) ?_ h43; go_simp <;> rfl) ?_
  intro w44 h44
  simp only [Act.put, List.setIfInBounds_toArray, List.set_cons_zero, List.set_cons_succ]
  clear h43
  refine wpList_val (R := KD w.heap.size w [(g41, 24, r64 4 (F4 x)), (g30, 24, r64 4 (F4 y)), (w.heap.size, 26, nums 2 (two 0 0))]) (.bool true) rfl (by refine lands_value (w := w44) ?_ h44; go_simp <;> rfl) ?_
  intro w45 h45
  simp only [Act.put, List.setIfInBounds_toArray, List.set_cons_zero, List.set_cons_succ]
  clear h44
  refine wpList_val (R := KD w.heap.size w [(g41, 24, r64 4 (F4 x)), (g30, 24, r64 4 (F4 y)), (w.heap.size, 26, nums 2 (two 0 0))]) (.bool true) rfl (by refine lands_value (w := w45) ?_ h45; go_simp <;> rfl) ?_
  intro w46 h46
  simp only [Act.put, List.setIfInBounds_toArray, List.set_cons_zero, List.set_cons_succ]
  clear h45
  refine wpList_skipG rfl ?_
  simp only [Act.put, List.setIfInBounds_toArray, List.set_cons_zero, List.set_cons_succ]
  refine wpList_skipG rfl ?_
  simp only [Act.put, List.setIfInBounds_toArray, List.set_cons_zero, List.set_cons_succ]
  refine wpList_skipG rfl ?_
  simp only [Act.put, List.setIfInBounds_toArray, List.set_cons_zero, List.set_cons_succ]
  refine wpList_skipG rfl ?_
  simp only [Act.put, List.setIfInBounds_toArray, List.set_cons_zero, List.set_cons_succ]
  refine wpList_skipG rfl ?_
  simp only [Act.put, List.setIfInBounds_toArray, List.set_cons_zero, List.set_cons_succ]
  refine wpList_skipG rfl ?_
  simp only [Act.put, List.setIfInBounds_toArray, List.set_cons_zero, List.set_cons_succ]
  refine wpList_val (R := KD w.heap.size w [(g41, 24, r64 4 (F4 x)), (g30, 24, r64 4 (F4 y)), (w.heap.size, 26, nums 2 (two 0 0))]) (.bool true) rfl (by refine lands_value (w := w46) ?_ h46; go_simp <;> rfl) ?_
  intro w47 h47
  simp only [Act.put, List.setIfInBounds_toArray, List.set_cons_zero, List.set_cons_succ]
  clear h46
  refine wpList_nil ?_
  repeat (first | (with_reducible apply wp_seq_k; intro _ _) | with_reducible apply wp_block | with_reducible apply wp_skip | with_reducible apply wp_exit | (go_at_K; go_step) | with_reducible apply then_normal | with_reducible apply then_exit | with_reducible apply block_normal | with_reducible apply block_same | with_reducible exact block_far rfl ?_)
  refine wp_cond_true rfl ?_
  repeat (first | (with_reducible apply wp_seq_k; intro _ _) | with_reducible apply wp_block | with_reducible apply wp_skip | with_reducible apply wp_exit | (go_at_K; go_step) | with_reducible apply then_normal | with_reducible apply then_exit | with_reducible apply block_normal | with_reducible apply block_same | with_reducible exact block_far rfl ?_)
  with_reducible apply wp_region_lit
  refine wpList_val (R := KD w.heap.size w [(g41, 24, r64 4 (F4 x)), (g30, 24, r64 4 (F4 y)), (w.heap.size, 26, nums 2 (two 0 0))]) (.agg (nums 2 (two 0 0))) rfl (by exact lands_built _ _ rfl _ rfl _ (by kernel_rfl) h47) ?_
  intro w48 h48
  simp only [Act.put, List.setIfInBounds_toArray, List.set_cons_zero, List.set_cons_succ]
  clear h47
  refine wpList_val (R := KD w.heap.size w [(g41, 24, r64 4 (F4 x)), (g30, 24, r64 4 (F4 y)), (w.heap.size, 26, nums 2 (two 0 0))]) undef rfl (lands_store _ _ _ rfl w.heap.size (nums 2 (two 0 0)) rfl rfl _ _ (h48.blk _ m2) (by kernel_rfl) (by kernel_rfl) (row_one fun _ => rfl) (h48.put (k := 2) rfl _)) ?_
  intro w49 h49
  simp only [Act.put]
  clear h48
  refine wpList_val (R := KD w.heap.size w [(g41, 24, r64 4 (F4 x)), (g30, 24, r64 4 (F4 y)), (w.heap.size, 26, nums 2 (two 0 0))]) (.bool false) rfl (by refine lands_value (w := w49) ?_ h49; go_simp <;> rfl) ?_
  intro w50 h50
  simp only [Act.put, List.setIfInBounds_toArray, List.set_cons_zero, List.set_cons_succ]
  clear h49
  refine wpList_nil ?_
  repeat (first | (with_reducible apply wp_seq_k; intro _ _) | with_reducible apply wp_block | with_reducible apply wp_skip | with_reducible apply wp_exit | (go_at_K; go_step) | with_reducible apply then_normal | with_reducible apply then_exit | with_reducible apply block_normal | with_reducible apply block_same | with_reducible exact block_far rfl ?_)
  with_reducible apply wp_ret
  repeat (first | with_reducible apply then_ret | with_reducible apply block_ret)
  exact bodyPost_ret (results_cell_row_slot rfl _ _ w.heap.size 26 (nums 2 (two 0 0)) (0, 0) _ _ rfl (h50.blk _ m2) Try.underlying26 rfl (by kernel_rfl) rfl) rfl ⟨rfl, h50.b⟩
set_option maxRecDepth 100000 in
set_option maxHeartbeats 1000000 in
theorem rdec_even (s : ByteArray) (hs : s.size = 32) (heven : byteS s 31 < 128) (y : Nat) (hyM : y < M256) (hm : makeV (bytesV (yV s)) = (y, true)) (x : Nat) (hr : rV (subP (mulP y y) 1) (addP (mulP dP (mulP y y)) 1) = (x, true)) (w : World) :
    Calls Try.prog 27 #[.string s] w fun e w' => e = .returned (.tuple #[.agg (nums 2 (two x y)), .bool true]) ∧ Below w.heap.size w w' := by
  have hc : ((s.size : Int) != 32) = false := by rw [hs]; rfl
  have hb256 := byteS_lt s 31
  have HM := Lib.hid hm
  clear hm
  have hxM := rV_lt hr
  have hcmp : ¬ (128 : Int) ≤ byteS s 31 := by omega
  have htm : (byteS s 31 : Int).tmod 128 = ((byteS s 31 % 128 : Nat) : Int) := by rw [Int.tmod_eq_emod_of_nonneg (by omega)]; omega
  go_enter Try.func27, Try.ntmps27
  repeat (first | (with_reducible apply wp_seq_k; intro _ _) | with_reducible apply wp_block | with_reducible apply wp_skip | with_reducible apply wp_exit | (go_at_K; go_step) | with_reducible apply then_normal | with_reducible apply then_exit | with_reducible apply block_normal | with_reducible apply block_same | with_reducible exact block_far rfl ?_)
  have h1 := KD.begin w
  with_reducible apply wp_region_lit
  refine wpList_val (R := KD w.heap.size w [(w.heap.size, 26, nums 2 (two 0 0))]) (.pointer (some ⟨w.heap.size, 0, none⟩)) rfl (lands_run2 (alloc_run _ _ rfl zero_pt _) (h1.add _ _)) ?_
  intro w2 h2
  simp only [Act.put, List.setIfInBounds_toArray, List.set_cons_zero, List.set_cons_succ]
  clear h1
  refine wpList_val (R := KD w.heap.size w [(w.heap.size, 26, nums 2 (two 0 0))]) (.bool false) rfl (by refine lands_value (w := w2) ?_ h2; go_simp <;> rfl) ?_
  intro w3 h3
  simp only [Act.put, List.setIfInBounds_toArray, List.set_cons_zero, List.set_cons_succ]
  clear h2
  refine wpList_nil ?_
  repeat (first | (with_reducible apply wp_seq_k; intro _ _) | with_reducible apply wp_block | with_reducible apply wp_skip | with_reducible apply wp_exit | (go_at_K; go_step) | with_reducible apply then_normal | with_reducible apply then_exit | with_reducible apply block_normal | with_reducible apply block_same | with_reducible exact block_far rfl ?_)
  with_reducible apply wp_region_lit
  refine wpList_val (R := KD w.heap.size w [(w.heap.size, 26, nums 2 (two 0 0))]) (.string s) rfl (by refine lands_value (w := w3) ?_ h3; go_simp <;> rfl) ?_
  intro w4 h4
  simp only [Act.put, List.setIfInBounds_toArray, List.set_cons_zero, List.set_cons_succ]
  clear h3
  refine wpList_val (R := KD w.heap.size w [(w.heap.size, 26, nums 2 (two 0 0))]) (.int .i64 (s.size : Int)) rfl (by refine lands_value (w := w4) ?_ h4; go_simp) ?_
  intro w5 h5
  simp only [Act.put, List.setIfInBounds_toArray, List.set_cons_zero, List.set_cons_succ]
  clear h4
  refine wpList_val (R := KD w.heap.size w [(w.heap.size, 26, nums 2 (two 0 0))]) (.bool false) rfl (by refine lands_value (w := w5) ?_ h5; go_simp) ?_
  intro w6 h6
  simp only [Act.put, List.setIfInBounds_toArray, List.set_cons_zero, List.set_cons_succ]
  clear h5
  refine wpList_nil ?_
  repeat (first | (with_reducible apply wp_seq_k; intro _ _) | with_reducible apply wp_block | with_reducible apply wp_skip | with_reducible apply wp_exit | (go_at_K; go_step) | with_reducible apply then_normal | with_reducible apply then_exit | with_reducible apply block_normal | with_reducible apply block_same | with_reducible exact block_far rfl ?_)
  refine wp_cond_false rfl ?_
  repeat (first | (with_reducible apply wp_seq_k; intro _ _) | with_reducible apply wp_block | with_reducible apply wp_skip | with_reducible apply wp_exit | (go_at_K; go_step) | with_reducible apply then_normal | with_reducible apply then_exit | with_reducible apply block_normal | with_reducible apply block_same | with_reducible exact block_far rfl ?_)
  with_reducible apply wp_region_lit
  refine wpList_val (R := KD w.heap.size w [(w.heap.size, 26, nums 2 (two 0 0))]) (.string s) rfl (by refine lands_value (w := w6) ?_ h6; go_simp <;> rfl) ?_
  intro w7 h7
  simp only [Act.put, List.setIfInBounds_toArray, List.set_cons_zero, List.set_cons_succ]
  clear h6
  obtain ⟨cap, W1, hcv, hX, hB⟩ := bytes_start s w7 hs
  refine wpList_val (R := KC (fun j => (byteS s j : Int)) w7.heap.size w.heap.size w [(w.heap.size, 26, nums 2 (two 0 0))]) (.slice (some ⟨w7.heap.size, 0, none⟩) 32 cap) rfl (lands_convert _ _ _ rfl rfl hcv ⟨h7.below hB, hX⟩) ?_
  have hge := h7.lo
  have hfar := h7.lt
  intro w8 h8
  simp only [Act.put, List.setIfInBounds_toArray, List.set_cons_zero, List.set_cons_succ]
  clear hcv hX hB W1 h7
  generalize w7.heap.size = g9 at h8 hge hfar ⊢
  refine wpList_val (R := KC (fun j => (byteS s j : Int)) g9 w.heap.size w [(w.heap.size, 26, nums 2 (two 0 0))]) (.slice (some ⟨g9, 0, none⟩) 32 cap) rfl (by refine lands_value (w := w8) ?_ h8; go_simp <;> rfl) ?_
  intro w10 h10
  simp only [Act.put, List.setIfInBounds_toArray, List.set_cons_zero, List.set_cons_succ]
  clear h8
  refine wpList_nil ?_
  repeat (first | (with_reducible apply wp_seq_k; intro _ _) | with_reducible apply wp_block | with_reducible apply wp_skip | with_reducible apply wp_exit | (go_at_K; go_step) | with_reducible apply then_normal | with_reducible apply then_exit | with_reducible apply block_normal | with_reducible apply block_same | with_reducible exact block_far rfl ?_)
  with_reducible apply wp_region_lit
  refine wpList_val (R := KC (fun j => (byteS s j : Int)) g9 w.heap.size w [(w.heap.size, 26, nums 2 (two 0 0))]) (.slice (some ⟨g9, 0, none⟩) 32 cap) rfl (by refine lands_value (w := w10) ?_ h10; go_simp <;> rfl) ?_
  intro w11 h11
  simp only [Act.put, List.setIfInBounds_toArray, List.set_cons_zero, List.set_cons_succ]
  clear h10
  refine wpList_val (R := KC (fun j => (byteS s j : Int)) g9 w.heap.size w [(w.heap.size, 26, nums 2 (two 0 0))]) (.pointer (some ⟨g9, 31, none⟩)) rfl (by refine lands_value (w := w11) ?_ h11; go_simp) ?_
  intro w12 h12
  simp only [Act.put, List.setIfInBounds_toArray, List.set_cons_zero, List.set_cons_succ]
  clear h11
  refine wpList_val (R := KC (fun j => (byteS s j : Int)) g9 w.heap.size w [(w.heap.size, 26, nums 2 (two 0 0))]) (.int .u8 (byteS s 31 : Int)) rfl (by have c31 := h12.x.c 31 (by decide); have f31 := h12.x.fz 31 (by decide); refine lands_value (w := w12) ?_ h12; go_simp) ?_
  intro w13 h13
  simp only [Act.put, List.setIfInBounds_toArray, List.set_cons_zero, List.set_cons_succ]
  clear h12
  refine wpList_val (R := KC (fun j => (byteS s j : Int)) g9 w.heap.size w [(w.heap.size, 26, nums 2 (two 0 0))]) (.bool false) rfl (by refine lands_value (w := w13) ?_ h13; go_simp) ?_
  intro w14 h14
  simp only [Act.put, List.setIfInBounds_toArray, List.set_cons_zero, List.set_cons_succ]
  clear h13
  refine wpList_val (R := KC (fun j => (byteS s j : Int)) g9 w.heap.size w [(w.heap.size, 26, nums 2 (two 0 0))]) (.bool false) rfl (by refine lands_value (w := w14) ?_ h14; go_simp <;> rfl) ?_
  intro w15 h15
  simp only [Act.put, List.setIfInBounds_toArray, List.set_cons_zero, List.set_cons_succ]
  clear h14
  refine wpList_nil ?_
  repeat (first | (with_reducible apply wp_seq_k; intro _ _) | with_reducible apply wp_block | with_reducible apply wp_skip | with_reducible apply wp_exit | (go_at_K; go_step) | with_reducible apply then_normal | with_reducible apply then_exit | with_reducible apply block_normal | with_reducible apply block_same | with_reducible exact block_far rfl ?_)
  with_reducible apply wp_region_lit
  refine wpList_val (R := KC (fun j => (byteS s j : Int)) g9 w.heap.size w [(w.heap.size, 26, nums 2 (two 0 0))]) (.slice (some ⟨g9, 0, none⟩) 32 cap) rfl (by refine lands_value (w := w15) ?_ h15; go_simp <;> rfl) ?_
  intro w16 h16
  simp only [Act.put, List.setIfInBounds_toArray, List.set_cons_zero, List.set_cons_succ]
  clear h15
  refine wpList_val (R := KC (fun j => (byteS s j : Int)) g9 w.heap.size w [(w.heap.size, 26, nums 2 (two 0 0))]) (.slice (some ⟨g9, 0, none⟩) 32 cap) rfl (by refine lands_value (w := w16) ?_ h16; go_simp <;> rfl) ?_
  intro w17 h17
  simp only [Act.put, List.setIfInBounds_toArray, List.set_cons_zero, List.set_cons_succ]
  clear h16
  refine wpList_val (R := KC (fun j => (byteS s j : Int)) g9 w.heap.size w [(w.heap.size, 26, nums 2 (two 0 0))]) (.pointer (some ⟨g9, 31, none⟩)) rfl (by refine lands_value (w := w17) ?_ h17; go_simp) ?_
  intro w18 h18
  simp only [Act.put, List.setIfInBounds_toArray, List.set_cons_zero, List.set_cons_succ]
  clear h17
  refine wpList_val (R := KC (fun j => (byteS s j : Int)) g9 w.heap.size w [(w.heap.size, 26, nums 2 (two 0 0))]) (.int .u8 (byteS s 31 : Int)) rfl (by have c31 := h18.x.c 31 (by decide); have f31 := h18.x.fz 31 (by decide); refine lands_value (w := w18) ?_ h18; go_simp) ?_
  intro w19 h19
  simp only [Act.put, List.setIfInBounds_toArray, List.set_cons_zero, List.set_cons_succ]
  clear h18
  refine wpList_val (R := KC (fun j => (byteS s j : Int)) g9 w.heap.size w [(w.heap.size, 26, nums 2 (two 0 0))]) (.int .u8 ((byteS s 31 % 128 : Nat) : Int)) rfl (by refine lands_value (w := w19) ?_ h19; go_simp) ?_
  intro w20 h20
  simp only [Act.put, List.setIfInBounds_toArray, List.set_cons_zero, List.set_cons_succ]
  clear h19
  refine wpList_val (R := KC (fun j => (byteS s j : Int)) g9 w.heap.size w [(w.heap.size, 26, nums 2 (two 0 0))]) (.pointer (some ⟨g9, 31, none⟩)) rfl (by refine lands_value (w := w20) ?_ h20; go_simp) ?_
  intro w21 h21
  simp only [Act.put, List.setIfInBounds_toArray, List.set_cons_zero, List.set_cons_succ]
  clear h20
  have c31 := h21.x.c 31 (by decide)
  have f31 := h21.x.fz 31 (by decide)
  refine wpList_val (R := KC (fun j => if j = 31 then ((byteS s 31 % 128 : Nat) : Int) else (byteS s j : Int)) g9 w.heap.size w [(w.heap.size, 26, nums 2 (two 0 0))]) undef rfl (lands_skip (by go_simp) ⟨h21.k.cellfar hfar hge _, h21.x.put (by decide) _⟩) ?_
  intro w22 h22
  simp only [Act.put]
  clear c31 f31 h21
  refine wpList_nil ?_
  repeat (first | (with_reducible apply wp_seq_k; intro _ _) | with_reducible apply wp_block | with_reducible apply wp_skip | with_reducible apply wp_exit | (go_at_K; go_step) | with_reducible apply then_normal | with_reducible apply then_exit | with_reducible apply block_normal | with_reducible apply block_same | with_reducible exact block_far rfl ?_)
  with_reducible apply wp_region_lit
  refine wpList_val (R := KC (fun j => if j = 31 then ((byteS s 31 % 128 : Nat) : Int) else (byteS s j : Int)) g9 w.heap.size w [(w.heap.size, 26, nums 2 (two 0 0))]) (.slice (some ⟨g9, 0, none⟩) 32 cap) rfl (by refine lands_value (w := w22) ?_ h22; go_simp <;> rfl) ?_
  intro w23 h23
  simp only [Act.put, List.setIfInBounds_toArray, List.set_cons_zero, List.set_cons_succ]
  clear h22
  refine wpList_val (R := KC (fun j => if j = 31 then ((byteS s 31 % 128 : Nat) : Int) else (byteS s j : Int)) g9 w.heap.size w [(w.heap.size, 26, nums 2 (two 0 0))]) (.string (bytesV (yV s))) rfl (by exact lands_convert _ _ _ rfl rfl (bytes_end h23.x (yV s) (fun j hj => by rw [yV_byte s j hj]; by_cases h1 : j = 31 <;> simp only [h1, if_true, if_false]) cap) h23) ?_
  intro w24 h24
  simp only [Act.put, List.setIfInBounds_toArray, List.set_cons_zero, List.set_cons_succ]
  clear h23
  replace h24 := h24.k
  clear hfar hge
  refine wpList_val (R := KD w.heap.size w [(w.heap.size, 26, nums 2 (two 0 0))]) (.tuple #[.agg (r64 4 (F4 y)), .bool true]) rfl (by exact lands_calls (w := w24) ((rmake_is (bytesV (yV s)) y true w24 HM.out).mono fun _ _ ⟨he, hb⟩ => ⟨he, h24.below hb⟩) (by go_simp)) ?_
  intro w25 h25
  simp only [Act.put, List.setIfInBounds_toArray, List.set_cons_zero, List.set_cons_succ]
  clear h24
  refine wpList_val (R := KD w.heap.size w [(w.heap.size, 26, nums 2 (two 0 0))]) (.tuple #[.agg (r64 4 (F4 y)), .bool true]) rfl (by refine lands_value (w := w25) ?_ h25; go_simp <;> rfl) ?_
  intro w26 h26
  simp only [Act.put, List.setIfInBounds_toArray, List.set_cons_zero, List.set_cons_succ]
  clear h25
  refine wpList_val (R := KD w.heap.size w [(w.heap.size, 26, nums 2 (two 0 0))]) (.agg (r64 4 (F4 y))) rfl (by refine lands_value (w := w26) ?_ h26; go_simp <;> rfl) ?_
  intro w27 h27
  simp only [Act.put, List.setIfInBounds_toArray, List.set_cons_zero, List.set_cons_succ]
  clear h26
  refine wpList_val (R := KD w.heap.size w [(w.heap.size, 26, nums 2 (two 0 0))]) (.bool true) rfl (by refine lands_value (w := w27) ?_ h27; go_simp <;> rfl) ?_
  intro w28 h28
  simp only [Act.put, List.setIfInBounds_toArray, List.set_cons_zero, List.set_cons_succ]
  clear h27
  refine wpList_val (R := KD w.heap.size w [(w28.heap.size, 24, r64 4 (F4 0)), (w.heap.size, 26, nums 2 (two 0 0))]) (.pointer (some ⟨w28.heap.size, 0, none⟩)) rfl (lands_run2 (alloc_run _ _ rfl zero_fe _) (h28.add _ _)) ?_
  intro w29 h29
  simp only [Act.put, List.setIfInBounds_toArray, List.set_cons_zero, List.set_cons_succ]
  clear h28
  generalize w28.heap.size = g30 at h29 ⊢
  refine wpList_val (R := KD w.heap.size w [(g30, 24, r64 4 (F4 y)), (w.heap.size, 26, nums 2 (two 0 0))]) undef rfl (lands_store _ _ _ rfl g30 (r64 4 (F4 y)) rfl rfl _ _ (h29.blk _ m0) (by kernel_rfl) (by kernel_rfl) (row_one fun _ => rfl) (h29.put (k := 0) rfl _)) ?_
  intro w31 h31
  simp only [Act.put]
  clear h29
  refine wpList_val (R := KD w.heap.size w [(g30, 24, r64 4 (F4 y)), (w.heap.size, 26, nums 2 (two 0 0))]) (.bool true) rfl (by refine lands_value (w := w31) ?_ h31; go_simp <;> rfl) ?_
  intro w32 h32
  simp only [Act.put, List.setIfInBounds_toArray, List.set_cons_zero, List.set_cons_succ]
  clear h31
  refine wpList_nil ?_
  repeat (first | (with_reducible apply wp_seq_k; intro _ _) | with_reducible apply wp_block | with_reducible apply wp_skip | with_reducible apply wp_exit | (go_at_K; go_step) | with_reducible apply then_normal | with_reducible apply then_exit | with_reducible apply block_normal | with_reducible apply block_same | with_reducible exact block_far rfl ?_)
  with_reducible apply wp_region_lit
  refine wpList_val (R := KD w.heap.size w [(g30, 24, r64 4 (F4 y)), (w.heap.size, 26, nums 2 (two 0 0))]) (.bool true) rfl (by refine lands_value (w := w32) ?_ h32; go_simp <;> rfl) ?_
  intro w33 h33
  simp only [Act.put, List.setIfInBounds_toArray, List.set_cons_zero, List.set_cons_succ]
  clear h32
  refine wpList_val (R := KD w.heap.size w [(g30, 24, r64 4 (F4 y)), (w.heap.size, 26, nums 2 (two 0 0))]) (.bool false) rfl (by refine lands_value (w := w33) ?_ h33; go_simp <;> rfl) ?_
  intro w34 h34
  simp only [Act.put, List.setIfInBounds_toArray, List.set_cons_zero, List.set_cons_succ]
  clear h33
  refine wpList_nil ?_
  repeat (first | (with_reducible apply wp_seq_k; intro _ _) | with_reducible apply wp_block | with_reducible apply wp_skip | with_reducible apply wp_exit | (go_at_K; go_step) | with_reducible apply then_normal | with_reducible apply then_exit | with_reducible apply block_normal | with_reducible apply block_same | with_reducible exact block_far rfl ?_)
  refine wp_cond_false rfl ?_
  repeat (first | (with_reducible apply wp_seq_k; intro _ _) | with_reducible apply wp_block | with_reducible apply wp_skip | with_reducible apply wp_exit | (go_at_K; go_step) | with_reducible apply then_normal | with_reducible apply then_exit | with_reducible apply block_normal | with_reducible apply block_same | with_reducible exact block_far rfl ?_)
  with_reducible apply wp_region_lit
  refine wpList_val (R := KD w.heap.size w [(g30, 24, r64 4 (F4 y)), (w.heap.size, 26, nums 2 (two 0 0))]) (.agg (r64 4 (F4 y))) rfl (by exact lands_load _ _ rfl _ rfl _ _ _ (h34.blk _ m0) Try.underlying24 rfl (fe_size _) h34) ?_
  intro w35 h35
  simp only [Act.put, List.setIfInBounds_toArray, List.set_cons_zero, List.set_cons_succ]
  clear h34
  refine wpList_val (R := KD w.heap.size w [(g30, 24, r64 4 (F4 y)), (w.heap.size, 26, nums 2 (two 0 0))]) (.tuple #[.agg (r64 4 (F4 x)), .bool true]) rfl (by exact lands_calls (w := w35) ((rroot5_any y hyM x true hr w35).mono fun _ _ ⟨he, hb⟩ => ⟨he, h35.below hb⟩) (by go_simp)) ?_
  intro w36 h36
  simp only [Act.put, List.setIfInBounds_toArray, List.set_cons_zero, List.set_cons_succ]
  clear h35
  refine wpList_val (R := KD w.heap.size w [(g30, 24, r64 4 (F4 y)), (w.heap.size, 26, nums 2 (two 0 0))]) (.tuple #[.agg (r64 4 (F4 x)), .bool true]) rfl (by refine lands_value (w := w36) ?_ h36; go_simp <;> rfl) ?_
  intro w37 h37
  simp only [Act.put, List.setIfInBounds_toArray, List.set_cons_zero, List.set_cons_succ]
  clear h36
  refine wpList_val (R := KD w.heap.size w [(g30, 24, r64 4 (F4 y)), (w.heap.size, 26, nums 2 (two 0 0))]) (.agg (r64 4 (F4 x))) rfl (by refine lands_value (w := w37) ?_ h37; go_simp <;> rfl) ?_
  intro w38 h38
  simp only [Act.put, List.setIfInBounds_toArray, List.set_cons_zero, List.set_cons_succ]
  clear h37
  refine wpList_val (R := KD w.heap.size w [(g30, 24, r64 4 (F4 y)), (w.heap.size, 26, nums 2 (two 0 0))]) (.bool true) rfl (by refine lands_value (w := w38) ?_ h38; go_simp <;> rfl) ?_
  intro w39 h39
  simp only [Act.put, List.setIfInBounds_toArray, List.set_cons_zero, List.set_cons_succ]
  clear h38
  refine wpList_val (R := KD w.heap.size w [(w39.heap.size, 24, r64 4 (F4 0)), (g30, 24, r64 4 (F4 y)), (w.heap.size, 26, nums 2 (two 0 0))]) (.pointer (some ⟨w39.heap.size, 0, none⟩)) rfl (lands_run2 (alloc_run _ _ rfl zero_fe _) (h39.add _ _)) ?_
  intro w40 h40
  simp only [Act.put, List.setIfInBounds_toArray, List.set_cons_zero, List.set_cons_succ]
  clear h39
  generalize w39.heap.size = g41 at h40 ⊢
  refine wpList_val (R := KD w.heap.size w [(g41, 24, r64 4 (F4 x)), (g30, 24, r64 4 (F4 y)), (w.heap.size, 26, nums 2 (two 0 0))]) undef rfl (lands_store _ _ _ rfl g41 (r64 4 (F4 x)) rfl rfl _ _ (h40.blk _ m0) (by kernel_rfl) (by kernel_rfl) (row_one fun _ => rfl) (h40.put (k := 0) rfl _)) ?_
  intro w42 h42
  simp only [Act.put]
  clear h40
  refine wpList_val (R := KD w.heap.size w [(g41, 24, r64 4 (F4 x)), (g30, 24, r64 4 (F4 y)), (w.heap.size, 26, nums 2 (two 0 0))]) (.bool true) rfl (by refine lands_value (w := w42) ?_ h42; go_simp <;> rfl) ?_
  intro w43 h43
  simp only [Act.put, List.setIfInBounds_toArray, List.set_cons_zero, List.set_cons_succ]
  clear h42
  refine wpList_nil ?_
  repeat (first | (with_reducible apply wp_seq_k; intro _ _) | with_reducible apply wp_block | with_reducible apply wp_skip | with_reducible apply wp_exit | (go_at_K; go_step) | with_reducible apply then_normal | with_reducible apply then_exit | with_reducible apply block_normal | with_reducible apply block_same | with_reducible exact block_far rfl ?_)
  with_reducible apply wp_region_lit
  refine wpList_val (R := KD w.heap.size w [(g41, 24, r64 4 (F4 x)), (g30, 24, r64 4 (F4 y)), (w.heap.size, 26, nums 2 (two 0 0))]) (.bool true) rfl (by refine lands_value (w := w43) ?_ h43; go_simp <;> rfl) ?_
  intro w44 h44
  simp only [Act.put, List.setIfInBounds_toArray, List.set_cons_zero, List.set_cons_succ]
  clear h43
  refine wpList_val (R := KD w.heap.size w [(g41, 24, r64 4 (F4 x)), (g30, 24, r64 4 (F4 y)), (w.heap.size, 26, nums 2 (two 0 0))]) (.bool false) rfl (by refine lands_value (w := w44) ?_ h44; go_simp <;> rfl) ?_
  intro w45 h45
  simp only [Act.put, List.setIfInBounds_toArray, List.set_cons_zero, List.set_cons_succ]
  clear h44
  refine wpList_val (R := KD w.heap.size w [(g41, 24, r64 4 (F4 x)), (g30, 24, r64 4 (F4 y)), (w.heap.size, 26, nums 2 (two 0 0))]) (.bool false) rfl (by refine lands_value (w := w45) ?_ h45; go_simp <;> rfl) ?_
  intro w46 h46
  simp only [Act.put, List.setIfInBounds_toArray, List.set_cons_zero, List.set_cons_succ]
  clear h45
  refine wpList_valG (R := KD w.heap.size w [(g41, 24, r64 4 (F4 x)), (g30, 24, r64 4 (F4 y)), (w.heap.size, 26, nums 2 (two 0 0))]) (.bool false) rfl (by refine lands_value (w := w46) ?_ h46; go_simp <;> rfl) ?_
  intro w47 h47
  simp only [Act.put, List.setIfInBounds_toArray, List.set_cons_zero, List.set_cons_succ]
  clear h46
  refine wpList_valG (R := KD w.heap.size w [(g41, 24, r64 4 (F4 x)), (g30, 24, r64 4 (F4 y)), (w.heap.size, 26, nums 2 (two 0 0))]) (.bool false) rfl (by refine lands_value (w := w47) ?_ h47; go_simp <;> rfl) ?_
  intro w48 h48
  simp only [Act.put, List.setIfInBounds_toArray, List.set_cons_zero, List.set_cons_succ]
  clear h47
  refine wpList_skipG rfl ?_
  simp only [Act.put, List.setIfInBounds_toArray, List.set_cons_zero, List.set_cons_succ]
  refine wpList_skipG rfl ?_
  simp only [Act.put, List.setIfInBounds_toArray, List.set_cons_zero, List.set_cons_succ]
  refine wpList_skipG rfl ?_
  simp only [Act.put, List.setIfInBounds_toArray, List.set_cons_zero, List.set_cons_succ]
  refine wpList_valG (R := KD w.heap.size w [(g41, 24, r64 4 (F4 x)), (g30, 24, r64 4 (F4 y)), (w.heap.size, 26, nums 2 (two 0 0))]) (.bool false) rfl (by refine lands_value (w := w48) ?_ h48; go_simp <;> rfl) ?_
  intro w49 h49
  simp only [Act.put, List.setIfInBounds_toArray, List.set_cons_zero, List.set_cons_succ]
  clear h48
  refine wpList_val (R := KD w.heap.size w [(g41, 24, r64 4 (F4 x)), (g30, 24, r64 4 (F4 y)), (w.heap.size, 26, nums 2 (two 0 0))]) (.bool false) rfl (by refine lands_value (w := w49) ?_ h49; go_simp <;> rfl) ?_
  intro w50 h50
  simp only [Act.put, List.setIfInBounds_toArray, List.set_cons_zero, List.set_cons_succ]
  clear h49
  refine wpList_nil ?_
  repeat (first | (with_reducible apply wp_seq_k; intro _ _) | with_reducible apply wp_block | with_reducible apply wp_skip | with_reducible apply wp_exit | (go_at_K; go_step) | with_reducible apply then_normal | with_reducible apply then_exit | with_reducible apply block_normal | with_reducible apply block_same | with_reducible exact block_far rfl ?_)
  refine wp_cond_false rfl ?_
  repeat (first | (with_reducible apply wp_seq_k; intro _ _) | with_reducible apply wp_block | with_reducible apply wp_skip | with_reducible apply wp_exit | (go_at_K; go_step) | with_reducible apply then_normal | with_reducible apply then_exit | with_reducible apply block_normal | with_reducible apply block_same | with_reducible exact block_far rfl ?_)
  with_reducible apply wp_region_lit
  refine wpList_val (R := KD w.heap.size w [(g41, 24, r64 4 (F4 x)), (g30, 24, r64 4 (F4 y)), (w.heap.size, 26, nums 2 (two 0 0))]) (.bool false) rfl (by refine lands_value (w := w50) ?_ h50; go_simp <;> rfl) ?_
  intro w51 h51
  simp only [Act.put, List.setIfInBounds_toArray, List.set_cons_zero, List.set_cons_succ]
  clear h50
  refine wpList_nil ?_
  repeat (first | (with_reducible apply wp_seq_k; intro _ _) | with_reducible apply wp_block | with_reducible apply wp_skip | with_reducible apply wp_exit | (go_at_K; go_step) | with_reducible apply then_normal | with_reducible apply then_exit | with_reducible apply block_normal | with_reducible apply block_same | with_reducible exact block_far rfl ?_)
  refine wp_cond_false rfl ?_
  repeat (first | (with_reducible apply wp_seq_k; intro _ _) | with_reducible apply wp_block | with_reducible apply wp_skip | with_reducible apply wp_exit | (go_at_K; go_step) | with_reducible apply then_normal | with_reducible apply then_exit | with_reducible apply block_normal | with_reducible apply block_same | with_reducible exact block_far rfl ?_)
  with_reducible apply wp_region_lit
  refine wpList_val (R := KD w.heap.size w [(g41, 24, r64 4 (F4 x)), (g30, 24, r64 4 (F4 y)), (w.heap.size, 26, nums 2 (two 0 0))]) (.agg (r64 4 (F4 x))) rfl (by exact lands_load _ _ rfl _ rfl _ _ _ (h51.blk _ m0) Try.underlying24 rfl (fe_size _) h51) ?_
  intro w52 h52
  simp only [Act.put, List.setIfInBounds_toArray, List.set_cons_zero, List.set_cons_succ]
  clear h51
  refine wpList_val (R := KD w.heap.size w [(g41, 24, r64 4 (F4 x)), (g30, 24, r64 4 (F4 y)), (w.heap.size, 26, nums 2 (two 0 0))]) (.agg (r64 4 (F4 y))) rfl (by exact lands_load _ _ rfl _ rfl _ _ _ (h52.blk _ m1) Try.underlying24 rfl (fe_size _) h52) ?_
  intro w53 h53
  simp only [Act.put, List.setIfInBounds_toArray, List.set_cons_zero, List.set_cons_succ]
  clear h52
  refine wpList_val (R := KD w.heap.size w [(g41, 24, r64 4 (F4 x)), (g30, 24, r64 4 (F4 y)), (w.heap.size, 26, nums 2 (two 0 0))]) (.agg (nums 2 (two x y))) rfl (by exact lands_built _ _ rfl _ rfl _ (by kernel_rfl) h53) ?_
  intro w54 h54
  simp only [Act.put, List.setIfInBounds_toArray, List.set_cons_zero, List.set_cons_succ]
  clear h53
  refine wpList_val (R := KD w.heap.size w [(g41, 24, r64 4 (F4 x)), (g30, 24, r64 4 (F4 y)), (w.heap.size, 26, nums 2 (two x y))]) undef rfl (lands_store _ _ _ rfl w.heap.size (nums 2 (two x y)) rfl rfl _ _ (h54.blk _ m2) (by kernel_rfl) (by kernel_rfl) (row_one fun _ => rfl) (h54.put (k := 2) rfl _)) ?_
  intro w55 h55
  simp only [Act.put]
  clear h54
  refine wpList_val (R := KD w.heap.size w [(g41, 24, r64 4 (F4 x)), (g30, 24, r64 4 (F4 y)), (w.heap.size, 26, nums 2 (two x y))]) (.bool true) rfl (by refine lands_value (w := w55) ?_ h55; go_simp <;> rfl) ?_
  intro w56 h56
  simp only [Act.put, List.setIfInBounds_toArray, List.set_cons_zero, List.set_cons_succ]
  clear h55
  refine wpList_nil ?_
  repeat (first | (with_reducible apply wp_seq_k; intro _ _) | with_reducible apply wp_block | with_reducible apply wp_skip | with_reducible apply wp_exit | (go_at_K; go_step) | with_reducible apply then_normal | with_reducible apply then_exit | with_reducible apply block_normal | with_reducible apply block_same | with_reducible exact block_far rfl ?_)
  with_reducible apply wp_ret
  repeat (first | with_reducible apply then_ret | with_reducible apply block_ret)
  exact bodyPost_ret (results_cell_row_slot rfl _ _ w.heap.size 26 (nums 2 (two x y)) (0, 0) _ _ rfl (h56.blk _ m2) Try.underlying26 rfl (by kernel_rfl) rfl) rfl ⟨rfl, h56.b⟩
set_option maxRecDepth 100000 in
set_option maxHeartbeats 1000000 in
theorem rdec_odd (s : ByteArray) (hs : s.size = 32) (hodd : ¬ byteS s 31 < 128) (y : Nat) (hyM : y < M256) (hm : makeV (bytesV (yV s)) = (y, true)) (x : Nat) (hr : rV (subP (mulP y y) 1) (addP (mulP dP (mulP y y)) 1) = (x, true)) (hxz : ¬ x = 0) (w : World) :
    Calls Try.prog 27 #[.string s] w fun e w' => e = .returned (.tuple #[.agg (nums 2 (two (negP x) y)), .bool true]) ∧ Below w.heap.size w w' := by
  have hc : ((s.size : Int) != 32) = false := by rw [hs]; rfl
  have hb256 := byteS_lt s 31
  have HM := Lib.hid hm
  clear hm
  have hxM := rV_lt hr
  have hcmp : (128 : Int) ≤ byteS s 31 := by omega
  have htm : (byteS s 31 : Int).tmod 128 = ((byteS s 31 % 128 : Nat) : Int) := by rw [Int.tmod_eq_emod_of_nonneg (by omega)]; omega
  go_enter Try.func27, Try.ntmps27
  repeat (first | (with_reducible apply wp_seq_k; intro _ _) | with_reducible apply wp_block | with_reducible apply wp_skip | with_reducible apply wp_exit | (go_at_K; go_step) | with_reducible apply then_normal | with_reducible apply then_exit | with_reducible apply block_normal | with_reducible apply block_same | with_reducible exact block_far rfl ?_)
  have h1 := KD.begin w
  with_reducible apply wp_region_lit
  refine wpList_val (R := KD w.heap.size w [(w.heap.size, 26, nums 2 (two 0 0))]) (.pointer (some ⟨w.heap.size, 0, none⟩)) rfl (lands_run2 (alloc_run _ _ rfl zero_pt _) (h1.add _ _)) ?_
  intro w2 h2
  simp only [Act.put, List.setIfInBounds_toArray, List.set_cons_zero, List.set_cons_succ]
  clear h1
  refine wpList_val (R := KD w.heap.size w [(w.heap.size, 26, nums 2 (two 0 0))]) (.bool false) rfl (by refine lands_value (w := w2) ?_ h2; go_simp <;> rfl) ?_
  intro w3 h3
  simp only [Act.put, List.setIfInBounds_toArray, List.set_cons_zero, List.set_cons_succ]
  clear h2
  refine wpList_nil ?_
  repeat (first | (with_reducible apply wp_seq_k; intro _ _) | with_reducible apply wp_block | with_reducible apply wp_skip | with_reducible apply wp_exit | (go_at_K; go_step) | with_reducible apply then_normal | with_reducible apply then_exit | with_reducible apply block_normal | with_reducible apply block_same | with_reducible exact block_far rfl ?_)
  with_reducible apply wp_region_lit
  refine wpList_val (R := KD w.heap.size w [(w.heap.size, 26, nums 2 (two 0 0))]) (.string s) rfl (by refine lands_value (w := w3) ?_ h3; go_simp <;> rfl) ?_
  intro w4 h4
  simp only [Act.put, List.setIfInBounds_toArray, List.set_cons_zero, List.set_cons_succ]
  clear h3
  refine wpList_val (R := KD w.heap.size w [(w.heap.size, 26, nums 2 (two 0 0))]) (.int .i64 (s.size : Int)) rfl (by refine lands_value (w := w4) ?_ h4; go_simp) ?_
  intro w5 h5
  simp only [Act.put, List.setIfInBounds_toArray, List.set_cons_zero, List.set_cons_succ]
  clear h4
  refine wpList_val (R := KD w.heap.size w [(w.heap.size, 26, nums 2 (two 0 0))]) (.bool false) rfl (by refine lands_value (w := w5) ?_ h5; go_simp) ?_
  intro w6 h6
  simp only [Act.put, List.setIfInBounds_toArray, List.set_cons_zero, List.set_cons_succ]
  clear h5
  refine wpList_nil ?_
  repeat (first | (with_reducible apply wp_seq_k; intro _ _) | with_reducible apply wp_block | with_reducible apply wp_skip | with_reducible apply wp_exit | (go_at_K; go_step) | with_reducible apply then_normal | with_reducible apply then_exit | with_reducible apply block_normal | with_reducible apply block_same | with_reducible exact block_far rfl ?_)
  refine wp_cond_false rfl ?_
  repeat (first | (with_reducible apply wp_seq_k; intro _ _) | with_reducible apply wp_block | with_reducible apply wp_skip | with_reducible apply wp_exit | (go_at_K; go_step) | with_reducible apply then_normal | with_reducible apply then_exit | with_reducible apply block_normal | with_reducible apply block_same | with_reducible exact block_far rfl ?_)
  with_reducible apply wp_region_lit
  refine wpList_val (R := KD w.heap.size w [(w.heap.size, 26, nums 2 (two 0 0))]) (.string s) rfl (by refine lands_value (w := w6) ?_ h6; go_simp <;> rfl) ?_
  intro w7 h7
  simp only [Act.put, List.setIfInBounds_toArray, List.set_cons_zero, List.set_cons_succ]
  clear h6
  obtain ⟨cap, W1, hcv, hX, hB⟩ := bytes_start s w7 hs
  refine wpList_val (R := KC (fun j => (byteS s j : Int)) w7.heap.size w.heap.size w [(w.heap.size, 26, nums 2 (two 0 0))]) (.slice (some ⟨w7.heap.size, 0, none⟩) 32 cap) rfl (lands_convert _ _ _ rfl rfl hcv ⟨h7.below hB, hX⟩) ?_
  have hge := h7.lo
  have hfar := h7.lt
  intro w8 h8
  simp only [Act.put, List.setIfInBounds_toArray, List.set_cons_zero, List.set_cons_succ]
  clear hcv hX hB W1 h7
  generalize w7.heap.size = g9 at h8 hge hfar ⊢
  refine wpList_val (R := KC (fun j => (byteS s j : Int)) g9 w.heap.size w [(w.heap.size, 26, nums 2 (two 0 0))]) (.slice (some ⟨g9, 0, none⟩) 32 cap) rfl (by refine lands_value (w := w8) ?_ h8; go_simp <;> rfl) ?_
  intro w10 h10
  simp only [Act.put, List.setIfInBounds_toArray, List.set_cons_zero, List.set_cons_succ]
  clear h8
  refine wpList_nil ?_
  repeat (first | (with_reducible apply wp_seq_k; intro _ _) | with_reducible apply wp_block | with_reducible apply wp_skip | with_reducible apply wp_exit | (go_at_K; go_step) | with_reducible apply then_normal | with_reducible apply then_exit | with_reducible apply block_normal | with_reducible apply block_same | with_reducible exact block_far rfl ?_)
  with_reducible apply wp_region_lit
  refine wpList_val (R := KC (fun j => (byteS s j : Int)) g9 w.heap.size w [(w.heap.size, 26, nums 2 (two 0 0))]) (.slice (some ⟨g9, 0, none⟩) 32 cap) rfl (by refine lands_value (w := w10) ?_ h10; go_simp <;> rfl) ?_
  intro w11 h11
  simp only [Act.put, List.setIfInBounds_toArray, List.set_cons_zero, List.set_cons_succ]
  clear h10
  refine wpList_val (R := KC (fun j => (byteS s j : Int)) g9 w.heap.size w [(w.heap.size, 26, nums 2 (two 0 0))]) (.pointer (some ⟨g9, 31, none⟩)) rfl (by refine lands_value (w := w11) ?_ h11; go_simp) ?_
  intro w12 h12
  simp only [Act.put, List.setIfInBounds_toArray, List.set_cons_zero, List.set_cons_succ]
  clear h11
  refine wpList_val (R := KC (fun j => (byteS s j : Int)) g9 w.heap.size w [(w.heap.size, 26, nums 2 (two 0 0))]) (.int .u8 (byteS s 31 : Int)) rfl (by have c31 := h12.x.c 31 (by decide); have f31 := h12.x.fz 31 (by decide); refine lands_value (w := w12) ?_ h12; go_simp) ?_
  intro w13 h13
  simp only [Act.put, List.setIfInBounds_toArray, List.set_cons_zero, List.set_cons_succ]
  clear h12
  refine wpList_val (R := KC (fun j => (byteS s j : Int)) g9 w.heap.size w [(w.heap.size, 26, nums 2 (two 0 0))]) (.bool true) rfl (by refine lands_value (w := w13) ?_ h13; go_simp) ?_
  intro w14 h14
  simp only [Act.put, List.setIfInBounds_toArray, List.set_cons_zero, List.set_cons_succ]
  clear h13
  refine wpList_val (R := KC (fun j => (byteS s j : Int)) g9 w.heap.size w [(w.heap.size, 26, nums 2 (two 0 0))]) (.bool true) rfl (by refine lands_value (w := w14) ?_ h14; go_simp <;> rfl) ?_
  intro w15 h15
  simp only [Act.put, List.setIfInBounds_toArray, List.set_cons_zero, List.set_cons_succ]
  clear h14
  refine wpList_nil ?_
  repeat (first | (with_reducible apply wp_seq_k; intro _ _) | with_reducible apply wp_block | with_reducible apply wp_skip | with_reducible apply wp_exit | (go_at_K; go_step) | with_reducible apply then_normal | with_reducible apply then_exit | with_reducible apply block_normal | with_reducible apply block_same | with_reducible exact block_far rfl ?_)
  with_reducible apply wp_region_lit
  refine wpList_val (R := KC (fun j => (byteS s j : Int)) g9 w.heap.size w [(w.heap.size, 26, nums 2 (two 0 0))]) (.slice (some ⟨g9, 0, none⟩) 32 cap) rfl (by refine lands_value (w := w15) ?_ h15; go_simp <;> rfl) ?_
  intro w16 h16
  simp only [Act.put, List.setIfInBounds_toArray, List.set_cons_zero, List.set_cons_succ]
  clear h15
  refine wpList_val (R := KC (fun j => (byteS s j : Int)) g9 w.heap.size w [(w.heap.size, 26, nums 2 (two 0 0))]) (.slice (some ⟨g9, 0, none⟩) 32 cap) rfl (by refine lands_value (w := w16) ?_ h16; go_simp <;> rfl) ?_
  intro w17 h17
  simp only [Act.put, List.setIfInBounds_toArray, List.set_cons_zero, List.set_cons_succ]
  clear h16
  refine wpList_val (R := KC (fun j => (byteS s j : Int)) g9 w.heap.size w [(w.heap.size, 26, nums 2 (two 0 0))]) (.pointer (some ⟨g9, 31, none⟩)) rfl (by refine lands_value (w := w17) ?_ h17; go_simp) ?_
  intro w18 h18
  simp only [Act.put, List.setIfInBounds_toArray, List.set_cons_zero, List.set_cons_succ]
  clear h17
  refine wpList_val (R := KC (fun j => (byteS s j : Int)) g9 w.heap.size w [(w.heap.size, 26, nums 2 (two 0 0))]) (.int .u8 (byteS s 31 : Int)) rfl (by have c31 := h18.x.c 31 (by decide); have f31 := h18.x.fz 31 (by decide); refine lands_value (w := w18) ?_ h18; go_simp) ?_
  intro w19 h19
  simp only [Act.put, List.setIfInBounds_toArray, List.set_cons_zero, List.set_cons_succ]
  clear h18
  refine wpList_val (R := KC (fun j => (byteS s j : Int)) g9 w.heap.size w [(w.heap.size, 26, nums 2 (two 0 0))]) (.int .u8 ((byteS s 31 % 128 : Nat) : Int)) rfl (by refine lands_value (w := w19) ?_ h19; go_simp) ?_
  intro w20 h20
  simp only [Act.put, List.setIfInBounds_toArray, List.set_cons_zero, List.set_cons_succ]
  clear h19
  refine wpList_val (R := KC (fun j => (byteS s j : Int)) g9 w.heap.size w [(w.heap.size, 26, nums 2 (two 0 0))]) (.pointer (some ⟨g9, 31, none⟩)) rfl (by refine lands_value (w := w20) ?_ h20; go_simp) ?_
  intro w21 h21
  simp only [Act.put, List.setIfInBounds_toArray, List.set_cons_zero, List.set_cons_succ]
  clear h20
  have c31 := h21.x.c 31 (by decide)
  have f31 := h21.x.fz 31 (by decide)
  refine wpList_val (R := KC (fun j => if j = 31 then ((byteS s 31 % 128 : Nat) : Int) else (byteS s j : Int)) g9 w.heap.size w [(w.heap.size, 26, nums 2 (two 0 0))]) undef rfl (lands_skip (by go_simp) ⟨h21.k.cellfar hfar hge _, h21.x.put (by decide) _⟩) ?_
  intro w22 h22
  simp only [Act.put]
  clear c31 f31 h21
  refine wpList_nil ?_
  repeat (first | (with_reducible apply wp_seq_k; intro _ _) | with_reducible apply wp_block | with_reducible apply wp_skip | with_reducible apply wp_exit | (go_at_K; go_step) | with_reducible apply then_normal | with_reducible apply then_exit | with_reducible apply block_normal | with_reducible apply block_same | with_reducible exact block_far rfl ?_)
  with_reducible apply wp_region_lit
  refine wpList_val (R := KC (fun j => if j = 31 then ((byteS s 31 % 128 : Nat) : Int) else (byteS s j : Int)) g9 w.heap.size w [(w.heap.size, 26, nums 2 (two 0 0))]) (.slice (some ⟨g9, 0, none⟩) 32 cap) rfl (by refine lands_value (w := w22) ?_ h22; go_simp <;> rfl) ?_
  intro w23 h23
  simp only [Act.put, List.setIfInBounds_toArray, List.set_cons_zero, List.set_cons_succ]
  clear h22
  refine wpList_val (R := KC (fun j => if j = 31 then ((byteS s 31 % 128 : Nat) : Int) else (byteS s j : Int)) g9 w.heap.size w [(w.heap.size, 26, nums 2 (two 0 0))]) (.string (bytesV (yV s))) rfl (by exact lands_convert _ _ _ rfl rfl (bytes_end h23.x (yV s) (fun j hj => by rw [yV_byte s j hj]; by_cases h1 : j = 31 <;> simp only [h1, if_true, if_false]) cap) h23) ?_
  intro w24 h24
  simp only [Act.put, List.setIfInBounds_toArray, List.set_cons_zero, List.set_cons_succ]
  clear h23
  replace h24 := h24.k
  clear hfar hge
  refine wpList_val (R := KD w.heap.size w [(w.heap.size, 26, nums 2 (two 0 0))]) (.tuple #[.agg (r64 4 (F4 y)), .bool true]) rfl (by exact lands_calls (w := w24) ((rmake_is (bytesV (yV s)) y true w24 HM.out).mono fun _ _ ⟨he, hb⟩ => ⟨he, h24.below hb⟩) (by go_simp)) ?_
  intro w25 h25
  simp only [Act.put, List.setIfInBounds_toArray, List.set_cons_zero, List.set_cons_succ]
  clear h24
  refine wpList_val (R := KD w.heap.size w [(w.heap.size, 26, nums 2 (two 0 0))]) (.tuple #[.agg (r64 4 (F4 y)), .bool true]) rfl (by refine lands_value (w := w25) ?_ h25; go_simp <;> rfl) ?_
  intro w26 h26
  simp only [Act.put, List.setIfInBounds_toArray, List.set_cons_zero, List.set_cons_succ]
  clear h25
  refine wpList_val (R := KD w.heap.size w [(w.heap.size, 26, nums 2 (two 0 0))]) (.agg (r64 4 (F4 y))) rfl (by refine lands_value (w := w26) ?_ h26; go_simp <;> rfl) ?_
  intro w27 h27
  simp only [Act.put, List.setIfInBounds_toArray, List.set_cons_zero, List.set_cons_succ]
  clear h26
  refine wpList_val (R := KD w.heap.size w [(w.heap.size, 26, nums 2 (two 0 0))]) (.bool true) rfl (by refine lands_value (w := w27) ?_ h27; go_simp <;> rfl) ?_
  intro w28 h28
  simp only [Act.put, List.setIfInBounds_toArray, List.set_cons_zero, List.set_cons_succ]
  clear h27
  refine wpList_val (R := KD w.heap.size w [(w28.heap.size, 24, r64 4 (F4 0)), (w.heap.size, 26, nums 2 (two 0 0))]) (.pointer (some ⟨w28.heap.size, 0, none⟩)) rfl (lands_run2 (alloc_run _ _ rfl zero_fe _) (h28.add _ _)) ?_
  intro w29 h29
  simp only [Act.put, List.setIfInBounds_toArray, List.set_cons_zero, List.set_cons_succ]
  clear h28
  generalize w28.heap.size = g30 at h29 ⊢
  refine wpList_val (R := KD w.heap.size w [(g30, 24, r64 4 (F4 y)), (w.heap.size, 26, nums 2 (two 0 0))]) undef rfl (lands_store _ _ _ rfl g30 (r64 4 (F4 y)) rfl rfl _ _ (h29.blk _ m0) (by kernel_rfl) (by kernel_rfl) (row_one fun _ => rfl) (h29.put (k := 0) rfl _)) ?_
  intro w31 h31
  simp only [Act.put]
  clear h29
  refine wpList_val (R := KD w.heap.size w [(g30, 24, r64 4 (F4 y)), (w.heap.size, 26, nums 2 (two 0 0))]) (.bool true) rfl (by refine lands_value (w := w31) ?_ h31; go_simp <;> rfl) ?_
  intro w32 h32
  simp only [Act.put, List.setIfInBounds_toArray, List.set_cons_zero, List.set_cons_succ]
  clear h31
  refine wpList_nil ?_
  repeat (first | (with_reducible apply wp_seq_k; intro _ _) | with_reducible apply wp_block | with_reducible apply wp_skip | with_reducible apply wp_exit | (go_at_K; go_step) | with_reducible apply then_normal | with_reducible apply then_exit | with_reducible apply block_normal | with_reducible apply block_same | with_reducible exact block_far rfl ?_)
  with_reducible apply wp_region_lit
  refine wpList_val (R := KD w.heap.size w [(g30, 24, r64 4 (F4 y)), (w.heap.size, 26, nums 2 (two 0 0))]) (.bool true) rfl (by refine lands_value (w := w32) ?_ h32; go_simp <;> rfl) ?_
  intro w33 h33
  simp only [Act.put, List.setIfInBounds_toArray, List.set_cons_zero, List.set_cons_succ]
  clear h32
  refine wpList_val (R := KD w.heap.size w [(g30, 24, r64 4 (F4 y)), (w.heap.size, 26, nums 2 (two 0 0))]) (.bool false) rfl (by refine lands_value (w := w33) ?_ h33; go_simp <;> rfl) ?_
  intro w34 h34
  simp only [Act.put, List.setIfInBounds_toArray, List.set_cons_zero, List.set_cons_succ]
  clear h33
  refine wpList_nil ?_
  repeat (first | (with_reducible apply wp_seq_k; intro _ _) | with_reducible apply wp_block | with_reducible apply wp_skip | with_reducible apply wp_exit | (go_at_K; go_step) | with_reducible apply then_normal | with_reducible apply then_exit | with_reducible apply block_normal | with_reducible apply block_same | with_reducible exact block_far rfl ?_)
  refine wp_cond_false rfl ?_
  repeat (first | (with_reducible apply wp_seq_k; intro _ _) | with_reducible apply wp_block | with_reducible apply wp_skip | with_reducible apply wp_exit | (go_at_K; go_step) | with_reducible apply then_normal | with_reducible apply then_exit | with_reducible apply block_normal | with_reducible apply block_same | with_reducible exact block_far rfl ?_)
  with_reducible apply wp_region_lit
  refine wpList_val (R := KD w.heap.size w [(g30, 24, r64 4 (F4 y)), (w.heap.size, 26, nums 2 (two 0 0))]) (.agg (r64 4 (F4 y))) rfl (by exact lands_load _ _ rfl _ rfl _ _ _ (h34.blk _ m0) Try.underlying24 rfl (fe_size _) h34) ?_
  intro w35 h35
  simp only [Act.put, List.setIfInBounds_toArray, List.set_cons_zero, List.set_cons_succ]
  clear h34
  refine wpList_val (R := KD w.heap.size w [(g30, 24, r64 4 (F4 y)), (w.heap.size, 26, nums 2 (two 0 0))]) (.tuple #[.agg (r64 4 (F4 x)), .bool true]) rfl (by exact lands_calls (w := w35) ((rroot5_any y hyM x true hr w35).mono fun _ _ ⟨he, hb⟩ => ⟨he, h35.below hb⟩) (by go_simp)) ?_
  intro w36 h36
  simp only [Act.put, List.setIfInBounds_toArray, List.set_cons_zero, List.set_cons_succ]
  clear h35
  refine wpList_val (R := KD w.heap.size w [(g30, 24, r64 4 (F4 y)), (w.heap.size, 26, nums 2 (two 0 0))]) (.tuple #[.agg (r64 4 (F4 x)), .bool true]) rfl (by refine lands_value (w := w36) ?_ h36; go_simp <;> rfl) ?_
  intro w37 h37
  simp only [Act.put, List.setIfInBounds_toArray, List.set_cons_zero, List.set_cons_succ]
  clear h36
  refine wpList_val (R := KD w.heap.size w [(g30, 24, r64 4 (F4 y)), (w.heap.size, 26, nums 2 (two 0 0))]) (.agg (r64 4 (F4 x))) rfl (by refine lands_value (w := w37) ?_ h37; go_simp <;> rfl) ?_
  intro w38 h38
  simp only [Act.put, List.setIfInBounds_toArray, List.set_cons_zero, List.set_cons_succ]
  clear h37
  refine wpList_val (R := KD w.heap.size w [(g30, 24, r64 4 (F4 y)), (w.heap.size, 26, nums 2 (two 0 0))]) (.bool true) rfl (by refine lands_value (w := w38) ?_ h38; go_simp <;> rfl) ?_
  intro w39 h39
  simp only [Act.put, List.setIfInBounds_toArray, List.set_cons_zero, List.set_cons_succ]
  clear h38
  refine wpList_val (R := KD w.heap.size w [(w39.heap.size, 24, r64 4 (F4 0)), (g30, 24, r64 4 (F4 y)), (w.heap.size, 26, nums 2 (two 0 0))]) (.pointer (some ⟨w39.heap.size, 0, none⟩)) rfl (lands_run2 (alloc_run _ _ rfl zero_fe _) (h39.add _ _)) ?_
  intro w40 h40
  simp only [Act.put, List.setIfInBounds_toArray, List.set_cons_zero, List.set_cons_succ]
  clear h39
  generalize w39.heap.size = g41 at h40 ⊢
  refine wpList_val (R := KD w.heap.size w [(g41, 24, r64 4 (F4 x)), (g30, 24, r64 4 (F4 y)), (w.heap.size, 26, nums 2 (two 0 0))]) undef rfl (lands_store _ _ _ rfl g41 (r64 4 (F4 x)) rfl rfl _ _ (h40.blk _ m0) (by kernel_rfl) (by kernel_rfl) (row_one fun _ => rfl) (h40.put (k := 0) rfl _)) ?_
  intro w42 h42
  simp only [Act.put]
  clear h40
  refine wpList_val (R := KD w.heap.size w [(g41, 24, r64 4 (F4 x)), (g30, 24, r64 4 (F4 y)), (w.heap.size, 26, nums 2 (two 0 0))]) (.bool true) rfl (by refine lands_value (w := w42) ?_ h42; go_simp <;> rfl) ?_
  intro w43 h43
  simp only [Act.put, List.setIfInBounds_toArray, List.set_cons_zero, List.set_cons_succ]
  clear h42
  refine wpList_nil ?_
  repeat (first | (with_reducible apply wp_seq_k; intro _ _) | with_reducible apply wp_block | with_reducible apply wp_skip | with_reducible apply wp_exit | (go_at_K; go_step) | with_reducible apply then_normal | with_reducible apply then_exit | with_reducible apply block_normal | with_reducible apply block_same | with_reducible exact block_far rfl ?_)
  with_reducible apply wp_region_lit
  refine wpList_val (R := KD w.heap.size w [(g41, 24, r64 4 (F4 x)), (g30, 24, r64 4 (F4 y)), (w.heap.size, 26, nums 2 (two 0 0))]) (.bool true) rfl (by refine lands_value (w := w43) ?_ h43; go_simp <;> rfl) ?_
  intro w44 h44
  simp only [Act.put, List.setIfInBounds_toArray, List.set_cons_zero, List.set_cons_succ]
  clear h43
  refine wpList_val (R := KD w.heap.size w [(g41, 24, r64 4 (F4 x)), (g30, 24, r64 4 (F4 y)), (w.heap.size, 26, nums 2 (two 0 0))]) (.bool false) rfl (by refine lands_value (w := w44) ?_ h44; go_simp <;> rfl) ?_
  intro w45 h45
  simp only [Act.put, List.setIfInBounds_toArray, List.set_cons_zero, List.set_cons_succ]
  clear h44
  refine wpList_val (R := KD w.heap.size w [(g41, 24, r64 4 (F4 x)), (g30, 24, r64 4 (F4 y)), (w.heap.size, 26, nums 2 (two 0 0))]) (.bool false) rfl (by refine lands_value (w := w45) ?_ h45; go_simp <;> rfl) ?_
  intro w46 h46
  simp only [Act.put, List.setIfInBounds_toArray, List.set_cons_zero, List.set_cons_succ]
  clear h45
  refine wpList_valG (R := KD w.heap.size w [(g41, 24, r64 4 (F4 x)), (g30, 24, r64 4 (F4 y)), (w.heap.size, 26, nums 2 (two 0 0))]) (.bool true) rfl (by refine lands_value (w := w46) ?_ h46; go_simp <;> rfl) ?_
  intro w47 h47
  simp only [Act.put, List.setIfInBounds_toArray, List.set_cons_zero, List.set_cons_succ]
  clear h46
  refine wpList_valG (R := KD w.heap.size w [(g41, 24, r64 4 (F4 x)), (g30, 24, r64 4 (F4 y)), (w.heap.size, 26, nums 2 (two 0 0))]) (.bool true) rfl (by refine lands_value (w := w47) ?_ h47; go_simp <;> rfl) ?_
  intro w48 h48
  simp only [Act.put, List.setIfInBounds_toArray, List.set_cons_zero, List.set_cons_succ]
  clear h47
  refine wpList_valG (R := KD w.heap.size w [(g41, 24, r64 4 (F4 x)), (g30, 24, r64 4 (F4 y)), (w.heap.size, 26, nums 2 (two 0 0))]) (.agg (r64 4 (F4 x))) rfl (by exact lands_load _ _ rfl _ rfl _ _ _ (h48.blk _ m0) Try.underlying24 rfl (fe_size _) h48) ?_
  intro w49 h49
  simp only [Act.put, List.setIfInBounds_toArray, List.set_cons_zero, List.set_cons_succ]
  clear h48
  refine wpList_valG (R := KD w.heap.size w [(g41, 24, r64 4 (F4 x)), (g30, 24, r64 4 (F4 y)), (w.heap.size, 26, nums 2 (two 0 0))]) (.agg (r64 4 (F4 0))) rfl (by exact lands_built _ _ rfl _ rfl _ (by kernel_rfl) h49) ?_
  intro w50 h50
  simp only [Act.put, List.setIfInBounds_toArray, List.set_cons_zero, List.set_cons_succ]
  clear h49
  refine wpList_valG (R := KD w.heap.size w [(g41, 24, r64 4 (F4 x)), (g30, 24, r64 4 (F4 y)), (w.heap.size, 26, nums 2 (two 0 0))]) (.bool false) rfl (by exact lands_eql _ _ rfl x 0 rfl rfl hxM (by decide) false (decide_eq_false (hxz)) h50) ?_
  intro w51 h51
  simp only [Act.put, List.setIfInBounds_toArray, List.set_cons_zero, List.set_cons_succ]
  clear h50
  refine wpList_valG (R := KD w.heap.size w [(g41, 24, r64 4 (F4 x)), (g30, 24, r64 4 (F4 y)), (w.heap.size, 26, nums 2 (two 0 0))]) (.bool false) rfl (by refine lands_value (w := w51) ?_ h51; go_simp <;> rfl) ?_
  intro w52 h52
  simp only [Act.put, List.setIfInBounds_toArray, List.set_cons_zero, List.set_cons_succ]
  clear h51
  refine wpList_val (R := KD w.heap.size w [(g41, 24, r64 4 (F4 x)), (g30, 24, r64 4 (F4 y)), (w.heap.size, 26, nums 2 (two 0 0))]) (.bool false) rfl (by refine lands_value (w := w52) ?_ h52; go_simp <;> rfl) ?_
  intro w53 h53
  simp only [Act.put, List.setIfInBounds_toArray, List.set_cons_zero, List.set_cons_succ]
  clear h52
  refine wpList_nil ?_
  repeat (first | (with_reducible apply wp_seq_k; intro _ _) | with_reducible apply wp_block | with_reducible apply wp_skip | with_reducible apply wp_exit | (go_at_K; go_step) | with_reducible apply then_normal | with_reducible apply then_exit | with_reducible apply block_normal | with_reducible apply block_same | with_reducible exact block_far rfl ?_)
  refine wp_cond_false rfl ?_
  repeat (first | (with_reducible apply wp_seq_k; intro _ _) | with_reducible apply wp_block | with_reducible apply wp_skip | with_reducible apply wp_exit | (go_at_K; go_step) | with_reducible apply then_normal | with_reducible apply then_exit | with_reducible apply block_normal | with_reducible apply block_same | with_reducible exact block_far rfl ?_)
  with_reducible apply wp_region_lit
  refine wpList_val (R := KD w.heap.size w [(g41, 24, r64 4 (F4 x)), (g30, 24, r64 4 (F4 y)), (w.heap.size, 26, nums 2 (two 0 0))]) (.bool true) rfl (by refine lands_value (w := w53) ?_ h53; go_simp <;> rfl) ?_
  intro w54 h54
  simp only [Act.put, List.setIfInBounds_toArray, List.set_cons_zero, List.set_cons_succ]
  clear h53
  refine wpList_nil ?_
  repeat (first | (with_reducible apply wp_seq_k; intro _ _) | with_reducible apply wp_block | with_reducible apply wp_skip | with_reducible apply wp_exit | (go_at_K; go_step) | with_reducible apply then_normal | with_reducible apply then_exit | with_reducible apply block_normal | with_reducible apply block_same | with_reducible exact block_far rfl ?_)
  refine wp_cond_true rfl ?_
  repeat (first | (with_reducible apply wp_seq_k; intro _ _) | with_reducible apply wp_block | with_reducible apply wp_skip | with_reducible apply wp_exit | (go_at_K; go_step) | with_reducible apply then_normal | with_reducible apply then_exit | with_reducible apply block_normal | with_reducible apply block_same | with_reducible exact block_far rfl ?_)
  with_reducible apply wp_region_lit
  refine wpList_val (R := KD w.heap.size w [(g41, 24, r64 4 (F4 x)), (g30, 24, r64 4 (F4 y)), (w.heap.size, 26, nums 2 (two 0 0))]) (.agg (r64 4 (F4 x))) rfl (by exact lands_load _ _ rfl _ rfl _ _ _ (h54.blk _ m0) Try.underlying24 rfl (fe_size _) h54) ?_
  intro w55 h55
  simp only [Act.put, List.setIfInBounds_toArray, List.set_cons_zero, List.set_cons_succ]
  clear h54
  refine wpList_val (R := KD w.heap.size w [(g41, 24, r64 4 (F4 x)), (g30, 24, r64 4 (F4 y)), (w.heap.size, 26, nums 2 (two 0 0))]) (.agg (r64 4 (F4 (negP x)))) rfl (by exact lands_calls (w := w55) ((rnegP x w55 hxM).mono fun _ _ ⟨he, hb⟩ => ⟨he, h55.below hb⟩) (by go_simp)) ?_
  intro w56 h56
  simp only [Act.put, List.setIfInBounds_toArray, List.set_cons_zero, List.set_cons_succ]
  clear h55
  refine wpList_val (R := KD w.heap.size w [(g41, 24, r64 4 (F4 (negP x))), (g30, 24, r64 4 (F4 y)), (w.heap.size, 26, nums 2 (two 0 0))]) undef rfl (lands_store _ _ _ rfl g41 (r64 4 (F4 (negP x))) rfl rfl _ _ (h56.blk _ m0) (by kernel_rfl) (by kernel_rfl) (row_one fun _ => rfl) (h56.put (k := 0) rfl _)) ?_
  intro w57 h57
  simp only [Act.put]
  clear h56
  refine wpList_nil ?_
  repeat (first | (with_reducible apply wp_seq_k; intro _ _) | with_reducible apply wp_block | with_reducible apply wp_skip | with_reducible apply wp_exit | (go_at_K; go_step) | with_reducible apply then_normal | with_reducible apply then_exit | with_reducible apply block_normal | with_reducible apply block_same | with_reducible exact block_far rfl ?_)
  with_reducible apply wp_region_lit
  refine wpList_val (R := KD w.heap.size w [(g41, 24, r64 4 (F4 (negP x))), (g30, 24, r64 4 (F4 y)), (w.heap.size, 26, nums 2 (two 0 0))]) (.agg (r64 4 (F4 (negP x)))) rfl (by exact lands_load _ _ rfl _ rfl _ _ _ (h57.blk _ m0) Try.underlying24 rfl (fe_size _) h57) ?_
  intro w58 h58
  simp only [Act.put, List.setIfInBounds_toArray, List.set_cons_zero, List.set_cons_succ]
  clear h57
  refine wpList_val (R := KD w.heap.size w [(g41, 24, r64 4 (F4 (negP x))), (g30, 24, r64 4 (F4 y)), (w.heap.size, 26, nums 2 (two 0 0))]) (.agg (r64 4 (F4 y))) rfl (by exact lands_load _ _ rfl _ rfl _ _ _ (h58.blk _ m1) Try.underlying24 rfl (fe_size _) h58) ?_
  intro w59 h59
  simp only [Act.put, List.setIfInBounds_toArray, List.set_cons_zero, List.set_cons_succ]
  clear h58
  refine wpList_val (R := KD w.heap.size w [(g41, 24, r64 4 (F4 (negP x))), (g30, 24, r64 4 (F4 y)), (w.heap.size, 26, nums 2 (two 0 0))]) (.agg (nums 2 (two (negP x) y))) rfl (by exact lands_built _ _ rfl _ rfl _ (by kernel_rfl) h59) ?_
  intro w60 h60
  simp only [Act.put, List.setIfInBounds_toArray, List.set_cons_zero, List.set_cons_succ]
  clear h59
  refine wpList_val (R := KD w.heap.size w [(g41, 24, r64 4 (F4 (negP x))), (g30, 24, r64 4 (F4 y)), (w.heap.size, 26, nums 2 (two (negP x) y))]) undef rfl (lands_store _ _ _ rfl w.heap.size (nums 2 (two (negP x) y)) rfl rfl _ _ (h60.blk _ m2) (by kernel_rfl) (by kernel_rfl) (row_one fun _ => rfl) (h60.put (k := 2) rfl _)) ?_
  intro w61 h61
  simp only [Act.put]
  clear h60
  refine wpList_val (R := KD w.heap.size w [(g41, 24, r64 4 (F4 (negP x))), (g30, 24, r64 4 (F4 y)), (w.heap.size, 26, nums 2 (two (negP x) y))]) (.bool true) rfl (by refine lands_value (w := w61) ?_ h61; go_simp <;> rfl) ?_
  intro w62 h62
  simp only [Act.put, List.setIfInBounds_toArray, List.set_cons_zero, List.set_cons_succ]
  clear h61
  refine wpList_nil ?_
  repeat (first | (with_reducible apply wp_seq_k; intro _ _) | with_reducible apply wp_block | with_reducible apply wp_skip | with_reducible apply wp_exit | (go_at_K; go_step) | with_reducible apply then_normal | with_reducible apply then_exit | with_reducible apply block_normal | with_reducible apply block_same | with_reducible exact block_far rfl ?_)
  with_reducible apply wp_ret
  repeat (first | with_reducible apply then_ret | with_reducible apply block_ret)
  exact bodyPost_ret (results_cell_row_slot rfl _ _ w.heap.size 26 (nums 2 (two (negP x) y)) (0, 0) _ _ rfl (h62.blk _ m2) Try.underlying26 rfl (by kernel_rfl) rfl) rfl ⟨rfl, h62.b⟩
set_option maxRecDepth 100000 in
set_option maxHeartbeats 1000000 in
theorem rdec_same (s : ByteArray) (hs : s.size = 32) (hodd : ¬ byteS s 31 < 128) (y : Nat) (hyM : y < M256) (hm : makeV (bytesV (yV s)) = (y, true)) (x : Nat) (hr : rV (subP (mulP y y) 1) (addP (mulP dP (mulP y y)) 1) = (x, true)) (hxz : x = 0) (w : World) :
    Calls Try.prog 27 #[.string s] w fun e w' => e = .returned (.tuple #[.agg (nums 2 (two 0 0)), .bool false]) ∧ Below w.heap.size w w' := by
  have hc : ((s.size : Int) != 32) = false := by rw [hs]; rfl
  have hb256 := byteS_lt s 31
  have HM := Lib.hid hm
  clear hm
  have hxM := rV_lt hr
  have hcmp : (128 : Int) ≤ byteS s 31 := by omega
  have htm : (byteS s 31 : Int).tmod 128 = ((byteS s 31 % 128 : Nat) : Int) := by rw [Int.tmod_eq_emod_of_nonneg (by omega)]; omega
  go_enter Try.func27, Try.ntmps27
  repeat (first | (with_reducible apply wp_seq_k; intro _ _) | with_reducible apply wp_block | with_reducible apply wp_skip | with_reducible apply wp_exit | (go_at_K; go_step) | with_reducible apply then_normal | with_reducible apply then_exit | with_reducible apply block_normal | with_reducible apply block_same | with_reducible exact block_far rfl ?_)
  have h1 := KD.begin w
  with_reducible apply wp_region_lit
  refine wpList_val (R := KD w.heap.size w [(w.heap.size, 26, nums 2 (two 0 0))]) (.pointer (some ⟨w.heap.size, 0, none⟩)) rfl (lands_run2 (alloc_run _ _ rfl zero_pt _) (h1.add _ _)) ?_
  intro w2 h2
  simp only [Act.put, List.setIfInBounds_toArray, List.set_cons_zero, List.set_cons_succ]
  clear h1
  refine wpList_val (R := KD w.heap.size w [(w.heap.size, 26, nums 2 (two 0 0))]) (.bool false) rfl (by refine lands_value (w := w2) ?_ h2; go_simp <;> rfl) ?_
  intro w3 h3
  simp only [Act.put, List.setIfInBounds_toArray, List.set_cons_zero, List.set_cons_succ]
  clear h2
  refine wpList_nil ?_
  repeat (first | (with_reducible apply wp_seq_k; intro _ _) | with_reducible apply wp_block | with_reducible apply wp_skip | with_reducible apply wp_exit | (go_at_K; go_step) | with_reducible apply then_normal | with_reducible apply then_exit | with_reducible apply block_normal | with_reducible apply block_same | with_reducible exact block_far rfl ?_)
  with_reducible apply wp_region_lit
  refine wpList_val (R := KD w.heap.size w [(w.heap.size, 26, nums 2 (two 0 0))]) (.string s) rfl (by refine lands_value (w := w3) ?_ h3; go_simp <;> rfl) ?_
  intro w4 h4
  simp only [Act.put, List.setIfInBounds_toArray, List.set_cons_zero, List.set_cons_succ]
  clear h3
  refine wpList_val (R := KD w.heap.size w [(w.heap.size, 26, nums 2 (two 0 0))]) (.int .i64 (s.size : Int)) rfl (by refine lands_value (w := w4) ?_ h4; go_simp) ?_
  intro w5 h5
  simp only [Act.put, List.setIfInBounds_toArray, List.set_cons_zero, List.set_cons_succ]
  clear h4
  refine wpList_val (R := KD w.heap.size w [(w.heap.size, 26, nums 2 (two 0 0))]) (.bool false) rfl (by refine lands_value (w := w5) ?_ h5; go_simp) ?_
  intro w6 h6
  simp only [Act.put, List.setIfInBounds_toArray, List.set_cons_zero, List.set_cons_succ]
  clear h5
  refine wpList_nil ?_
  repeat (first | (with_reducible apply wp_seq_k; intro _ _) | with_reducible apply wp_block | with_reducible apply wp_skip | with_reducible apply wp_exit | (go_at_K; go_step) | with_reducible apply then_normal | with_reducible apply then_exit | with_reducible apply block_normal | with_reducible apply block_same | with_reducible exact block_far rfl ?_)
  refine wp_cond_false rfl ?_
  repeat (first | (with_reducible apply wp_seq_k; intro _ _) | with_reducible apply wp_block | with_reducible apply wp_skip | with_reducible apply wp_exit | (go_at_K; go_step) | with_reducible apply then_normal | with_reducible apply then_exit | with_reducible apply block_normal | with_reducible apply block_same | with_reducible exact block_far rfl ?_)
  with_reducible apply wp_region_lit
  refine wpList_val (R := KD w.heap.size w [(w.heap.size, 26, nums 2 (two 0 0))]) (.string s) rfl (by refine lands_value (w := w6) ?_ h6; go_simp <;> rfl) ?_
  intro w7 h7
  simp only [Act.put, List.setIfInBounds_toArray, List.set_cons_zero, List.set_cons_succ]
  clear h6
  obtain ⟨cap, W1, hcv, hX, hB⟩ := bytes_start s w7 hs
  refine wpList_val (R := KC (fun j => (byteS s j : Int)) w7.heap.size w.heap.size w [(w.heap.size, 26, nums 2 (two 0 0))]) (.slice (some ⟨w7.heap.size, 0, none⟩) 32 cap) rfl (lands_convert _ _ _ rfl rfl hcv ⟨h7.below hB, hX⟩) ?_
  have hge := h7.lo
  have hfar := h7.lt
  intro w8 h8
  simp only [Act.put, List.setIfInBounds_toArray, List.set_cons_zero, List.set_cons_succ]
  clear hcv hX hB W1 h7
  generalize w7.heap.size = g9 at h8 hge hfar ⊢
  refine wpList_val (R := KC (fun j => (byteS s j : Int)) g9 w.heap.size w [(w.heap.size, 26, nums 2 (two 0 0))]) (.slice (some ⟨g9, 0, none⟩) 32 cap) rfl (by refine lands_value (w := w8) ?_ h8; go_simp <;> rfl) ?_
  intro w10 h10
  simp only [Act.put, List.setIfInBounds_toArray, List.set_cons_zero, List.set_cons_succ]
  clear h8
  refine wpList_nil ?_
  repeat (first | (with_reducible apply wp_seq_k; intro _ _) | with_reducible apply wp_block | with_reducible apply wp_skip | with_reducible apply wp_exit | (go_at_K; go_step) | with_reducible apply then_normal | with_reducible apply then_exit | with_reducible apply block_normal | with_reducible apply block_same | with_reducible exact block_far rfl ?_)
  with_reducible apply wp_region_lit
  refine wpList_val (R := KC (fun j => (byteS s j : Int)) g9 w.heap.size w [(w.heap.size, 26, nums 2 (two 0 0))]) (.slice (some ⟨g9, 0, none⟩) 32 cap) rfl (by refine lands_value (w := w10) ?_ h10; go_simp <;> rfl) ?_
  intro w11 h11
  simp only [Act.put, List.setIfInBounds_toArray, List.set_cons_zero, List.set_cons_succ]
  clear h10
  refine wpList_val (R := KC (fun j => (byteS s j : Int)) g9 w.heap.size w [(w.heap.size, 26, nums 2 (two 0 0))]) (.pointer (some ⟨g9, 31, none⟩)) rfl (by refine lands_value (w := w11) ?_ h11; go_simp) ?_
  intro w12 h12
  simp only [Act.put, List.setIfInBounds_toArray, List.set_cons_zero, List.set_cons_succ]
  clear h11
  refine wpList_val (R := KC (fun j => (byteS s j : Int)) g9 w.heap.size w [(w.heap.size, 26, nums 2 (two 0 0))]) (.int .u8 (byteS s 31 : Int)) rfl (by have c31 := h12.x.c 31 (by decide); have f31 := h12.x.fz 31 (by decide); refine lands_value (w := w12) ?_ h12; go_simp) ?_
  intro w13 h13
  simp only [Act.put, List.setIfInBounds_toArray, List.set_cons_zero, List.set_cons_succ]
  clear h12
  refine wpList_val (R := KC (fun j => (byteS s j : Int)) g9 w.heap.size w [(w.heap.size, 26, nums 2 (two 0 0))]) (.bool true) rfl (by refine lands_value (w := w13) ?_ h13; go_simp) ?_
  intro w14 h14
  simp only [Act.put, List.setIfInBounds_toArray, List.set_cons_zero, List.set_cons_succ]
  clear h13
  refine wpList_val (R := KC (fun j => (byteS s j : Int)) g9 w.heap.size w [(w.heap.size, 26, nums 2 (two 0 0))]) (.bool true) rfl (by refine lands_value (w := w14) ?_ h14; go_simp <;> rfl) ?_
  intro w15 h15
  simp only [Act.put, List.setIfInBounds_toArray, List.set_cons_zero, List.set_cons_succ]
  clear h14
  refine wpList_nil ?_
  repeat (first | (with_reducible apply wp_seq_k; intro _ _) | with_reducible apply wp_block | with_reducible apply wp_skip | with_reducible apply wp_exit | (go_at_K; go_step) | with_reducible apply then_normal | with_reducible apply then_exit | with_reducible apply block_normal | with_reducible apply block_same | with_reducible exact block_far rfl ?_)
  with_reducible apply wp_region_lit
  refine wpList_val (R := KC (fun j => (byteS s j : Int)) g9 w.heap.size w [(w.heap.size, 26, nums 2 (two 0 0))]) (.slice (some ⟨g9, 0, none⟩) 32 cap) rfl (by refine lands_value (w := w15) ?_ h15; go_simp <;> rfl) ?_
  intro w16 h16
  simp only [Act.put, List.setIfInBounds_toArray, List.set_cons_zero, List.set_cons_succ]
  clear h15
  refine wpList_val (R := KC (fun j => (byteS s j : Int)) g9 w.heap.size w [(w.heap.size, 26, nums 2 (two 0 0))]) (.slice (some ⟨g9, 0, none⟩) 32 cap) rfl (by refine lands_value (w := w16) ?_ h16; go_simp <;> rfl) ?_
  intro w17 h17
  simp only [Act.put, List.setIfInBounds_toArray, List.set_cons_zero, List.set_cons_succ]
  clear h16
  refine wpList_val (R := KC (fun j => (byteS s j : Int)) g9 w.heap.size w [(w.heap.size, 26, nums 2 (two 0 0))]) (.pointer (some ⟨g9, 31, none⟩)) rfl (by refine lands_value (w := w17) ?_ h17; go_simp) ?_
  intro w18 h18
  simp only [Act.put, List.setIfInBounds_toArray, List.set_cons_zero, List.set_cons_succ]
  clear h17
  refine wpList_val (R := KC (fun j => (byteS s j : Int)) g9 w.heap.size w [(w.heap.size, 26, nums 2 (two 0 0))]) (.int .u8 (byteS s 31 : Int)) rfl (by have c31 := h18.x.c 31 (by decide); have f31 := h18.x.fz 31 (by decide); refine lands_value (w := w18) ?_ h18; go_simp) ?_
  intro w19 h19
  simp only [Act.put, List.setIfInBounds_toArray, List.set_cons_zero, List.set_cons_succ]
  clear h18
  refine wpList_val (R := KC (fun j => (byteS s j : Int)) g9 w.heap.size w [(w.heap.size, 26, nums 2 (two 0 0))]) (.int .u8 ((byteS s 31 % 128 : Nat) : Int)) rfl (by refine lands_value (w := w19) ?_ h19; go_simp) ?_
  intro w20 h20
  simp only [Act.put, List.setIfInBounds_toArray, List.set_cons_zero, List.set_cons_succ]
  clear h19
  refine wpList_val (R := KC (fun j => (byteS s j : Int)) g9 w.heap.size w [(w.heap.size, 26, nums 2 (two 0 0))]) (.pointer (some ⟨g9, 31, none⟩)) rfl (by refine lands_value (w := w20) ?_ h20; go_simp) ?_
  intro w21 h21
  simp only [Act.put, List.setIfInBounds_toArray, List.set_cons_zero, List.set_cons_succ]
  clear h20
  have c31 := h21.x.c 31 (by decide)
  have f31 := h21.x.fz 31 (by decide)
  refine wpList_val (R := KC (fun j => if j = 31 then ((byteS s 31 % 128 : Nat) : Int) else (byteS s j : Int)) g9 w.heap.size w [(w.heap.size, 26, nums 2 (two 0 0))]) undef rfl (lands_skip (by go_simp) ⟨h21.k.cellfar hfar hge _, h21.x.put (by decide) _⟩) ?_
  intro w22 h22
  simp only [Act.put]
  clear c31 f31 h21
  refine wpList_nil ?_
  repeat (first | (with_reducible apply wp_seq_k; intro _ _) | with_reducible apply wp_block | with_reducible apply wp_skip | with_reducible apply wp_exit | (go_at_K; go_step) | with_reducible apply then_normal | with_reducible apply then_exit | with_reducible apply block_normal | with_reducible apply block_same | with_reducible exact block_far rfl ?_)
  with_reducible apply wp_region_lit
  refine wpList_val (R := KC (fun j => if j = 31 then ((byteS s 31 % 128 : Nat) : Int) else (byteS s j : Int)) g9 w.heap.size w [(w.heap.size, 26, nums 2 (two 0 0))]) (.slice (some ⟨g9, 0, none⟩) 32 cap) rfl (by refine lands_value (w := w22) ?_ h22; go_simp <;> rfl) ?_
  intro w23 h23
  simp only [Act.put, List.setIfInBounds_toArray, List.set_cons_zero, List.set_cons_succ]
  clear h22
  refine wpList_val (R := KC (fun j => if j = 31 then ((byteS s 31 % 128 : Nat) : Int) else (byteS s j : Int)) g9 w.heap.size w [(w.heap.size, 26, nums 2 (two 0 0))]) (.string (bytesV (yV s))) rfl (by exact lands_convert _ _ _ rfl rfl (bytes_end h23.x (yV s) (fun j hj => by rw [yV_byte s j hj]; by_cases h1 : j = 31 <;> simp only [h1, if_true, if_false]) cap) h23) ?_
  intro w24 h24
  simp only [Act.put, List.setIfInBounds_toArray, List.set_cons_zero, List.set_cons_succ]
  clear h23
  replace h24 := h24.k
  clear hfar hge
  refine wpList_val (R := KD w.heap.size w [(w.heap.size, 26, nums 2 (two 0 0))]) (.tuple #[.agg (r64 4 (F4 y)), .bool true]) rfl (by exact lands_calls (w := w24) ((rmake_is (bytesV (yV s)) y true w24 HM.out).mono fun _ _ ⟨he, hb⟩ => ⟨he, h24.below hb⟩) (by go_simp)) ?_
  intro w25 h25
  simp only [Act.put, List.setIfInBounds_toArray, List.set_cons_zero, List.set_cons_succ]
  clear h24
  refine wpList_val (R := KD w.heap.size w [(w.heap.size, 26, nums 2 (two 0 0))]) (.tuple #[.agg (r64 4 (F4 y)), .bool true]) rfl (by refine lands_value (w := w25) ?_ h25; go_simp <;> rfl) ?_
  intro w26 h26
  simp only [Act.put, List.setIfInBounds_toArray, List.set_cons_zero, List.set_cons_succ]
  clear h25
  refine wpList_val (R := KD w.heap.size w [(w.heap.size, 26, nums 2 (two 0 0))]) (.agg (r64 4 (F4 y))) rfl (by refine lands_value (w := w26) ?_ h26; go_simp <;> rfl) ?_
  intro w27 h27
  simp only [Act.put, List.setIfInBounds_toArray, List.set_cons_zero, List.set_cons_succ]
  clear h26
  refine wpList_val (R := KD w.heap.size w [(w.heap.size, 26, nums 2 (two 0 0))]) (.bool true) rfl (by refine lands_value (w := w27) ?_ h27; go_simp <;> rfl) ?_
  intro w28 h28
  simp only [Act.put, List.setIfInBounds_toArray, List.set_cons_zero, List.set_cons_succ]
  clear h27
  refine wpList_val (R := KD w.heap.size w [(w28.heap.size, 24, r64 4 (F4 0)), (w.heap.size, 26, nums 2 (two 0 0))]) (.pointer (some ⟨w28.heap.size, 0, none⟩)) rfl (lands_run2 (alloc_run _ _ rfl zero_fe _) (h28.add _ _)) ?_
  intro w29 h29
  simp only [Act.put, List.setIfInBounds_toArray, List.set_cons_zero, List.set_cons_succ]
  clear h28
  generalize w28.heap.size = g30 at h29 ⊢
  refine wpList_val (R := KD w.heap.size w [(g30, 24, r64 4 (F4 y)), (w.heap.size, 26, nums 2 (two 0 0))]) undef rfl (lands_store _ _ _ rfl g30 (r64 4 (F4 y)) rfl rfl _ _ (h29.blk _ m0) (by kernel_rfl) (by kernel_rfl) (row_one fun _ => rfl) (h29.put (k := 0) rfl _)) ?_
  intro w31 h31
  simp only [Act.put]
  clear h29
  refine wpList_val (R := KD w.heap.size w [(g30, 24, r64 4 (F4 y)), (w.heap.size, 26, nums 2 (two 0 0))]) (.bool true) rfl (by refine lands_value (w := w31) ?_ h31; go_simp <;> rfl) ?_
  intro w32 h32
  simp only [Act.put, List.setIfInBounds_toArray, List.set_cons_zero, List.set_cons_succ]
  clear h31
  refine wpList_nil ?_
  repeat (first | (with_reducible apply wp_seq_k; intro _ _) | with_reducible apply wp_block | with_reducible apply wp_skip | with_reducible apply wp_exit | (go_at_K; go_step) | with_reducible apply then_normal | with_reducible apply then_exit | with_reducible apply block_normal | with_reducible apply block_same | with_reducible exact block_far rfl ?_)
  with_reducible apply wp_region_lit
  refine wpList_val (R := KD w.heap.size w [(g30, 24, r64 4 (F4 y)), (w.heap.size, 26, nums 2 (two 0 0))]) (.bool true) rfl (by refine lands_value (w := w32) ?_ h32; go_simp <;> rfl) ?_
  intro w33 h33
  simp only [Act.put, List.setIfInBounds_toArray, List.set_cons_zero, List.set_cons_succ]
  clear h32
  refine wpList_val (R := KD w.heap.size w [(g30, 24, r64 4 (F4 y)), (w.heap.size, 26, nums 2 (two 0 0))]) (.bool false) rfl (by refine lands_value (w := w33) ?_ h33; go_simp <;> rfl) ?_
  intro w34 h34
  simp only [Act.put, List.setIfInBounds_toArray, List.set_cons_zero, List.set_cons_succ]
  clear h33
  refine wpList_nil ?_
  repeat (first | (with_reducible apply wp_seq_k; intro _ _) | with_reducible apply wp_block | with_reducible apply wp_skip | with_reducible apply wp_exit | (go_at_K; go_step) | with_reducible apply then_normal | with_reducible apply then_exit | with_reducible apply block_normal | with_reducible apply block_same | with_reducible exact block_far rfl ?_)
  refine wp_cond_false rfl ?_
  repeat (first | (with_reducible apply wp_seq_k; intro _ _) | with_reducible apply wp_block | with_reducible apply wp_skip | with_reducible apply wp_exit | (go_at_K; go_step) | with_reducible apply then_normal | with_reducible apply then_exit | with_reducible apply block_normal | with_reducible apply block_same | with_reducible exact block_far rfl ?_)
  with_reducible apply wp_region_lit
  refine wpList_val (R := KD w.heap.size w [(g30, 24, r64 4 (F4 y)), (w.heap.size, 26, nums 2 (two 0 0))]) (.agg (r64 4 (F4 y))) rfl (by exact lands_load _ _ rfl _ rfl _ _ _ (h34.blk _ m0) Try.underlying24 rfl (fe_size _) h34) ?_
  intro w35 h35
  simp only [Act.put, List.setIfInBounds_toArray, List.set_cons_zero, List.set_cons_succ]
  clear h34
  refine wpList_val (R := KD w.heap.size w [(g30, 24, r64 4 (F4 y)), (w.heap.size, 26, nums 2 (two 0 0))]) (.tuple #[.agg (r64 4 (F4 x)), .bool true]) rfl (by exact lands_calls (w := w35) ((rroot5_any y hyM x true hr w35).mono fun _ _ ⟨he, hb⟩ => ⟨he, h35.below hb⟩) (by go_simp)) ?_
  intro w36 h36
  simp only [Act.put, List.setIfInBounds_toArray, List.set_cons_zero, List.set_cons_succ]
  clear h35
  refine wpList_val (R := KD w.heap.size w [(g30, 24, r64 4 (F4 y)), (w.heap.size, 26, nums 2 (two 0 0))]) (.tuple #[.agg (r64 4 (F4 x)), .bool true]) rfl (by refine lands_value (w := w36) ?_ h36; go_simp <;> rfl) ?_
  intro w37 h37
  simp only [Act.put, List.setIfInBounds_toArray, List.set_cons_zero, List.set_cons_succ]
  clear h36
  refine wpList_val (R := KD w.heap.size w [(g30, 24, r64 4 (F4 y)), (w.heap.size, 26, nums 2 (two 0 0))]) (.agg (r64 4 (F4 x))) rfl (by refine lands_value (w := w37) ?_ h37; go_simp <;> rfl) ?_
  intro w38 h38
  simp only [Act.put, List.setIfInBounds_toArray, List.set_cons_zero, List.set_cons_succ]
  clear h37
  refine wpList_val (R := KD w.heap.size w [(g30, 24, r64 4 (F4 y)), (w.heap.size, 26, nums 2 (two 0 0))]) (.bool true) rfl (by refine lands_value (w := w38) ?_ h38; go_simp <;> rfl) ?_
  intro w39 h39
  simp only [Act.put, List.setIfInBounds_toArray, List.set_cons_zero, List.set_cons_succ]
  clear h38
  refine wpList_val (R := KD w.heap.size w [(w39.heap.size, 24, r64 4 (F4 0)), (g30, 24, r64 4 (F4 y)), (w.heap.size, 26, nums 2 (two 0 0))]) (.pointer (some ⟨w39.heap.size, 0, none⟩)) rfl (lands_run2 (alloc_run _ _ rfl zero_fe _) (h39.add _ _)) ?_
  intro w40 h40
  simp only [Act.put, List.setIfInBounds_toArray, List.set_cons_zero, List.set_cons_succ]
  clear h39
  generalize w39.heap.size = g41 at h40 ⊢
  refine wpList_val (R := KD w.heap.size w [(g41, 24, r64 4 (F4 x)), (g30, 24, r64 4 (F4 y)), (w.heap.size, 26, nums 2 (two 0 0))]) undef rfl (lands_store _ _ _ rfl g41 (r64 4 (F4 x)) rfl rfl _ _ (h40.blk _ m0) (by kernel_rfl) (by kernel_rfl) (row_one fun _ => rfl) (h40.put (k := 0) rfl _)) ?_
  intro w42 h42
  simp only [Act.put]
  clear h40
  refine wpList_val (R := KD w.heap.size w [(g41, 24, r64 4 (F4 x)), (g30, 24, r64 4 (F4 y)), (w.heap.size, 26, nums 2 (two 0 0))]) (.bool true) rfl (by refine lands_value (w := w42) ?_ h42; go_simp <;> rfl) ?_
  intro w43 h43
  simp only [Act.put, List.setIfInBounds_toArray, List.set_cons_zero, List.set_cons_succ]
  clear h42
  refine wpList_nil ?_
  repeat (first | (with_reducible apply wp_seq_k; intro _ _) | with_reducible apply wp_block | with_reducible apply wp_skip | with_reducible apply wp_exit | (go_at_K; go_step) | with_reducible apply then_normal | with_reducible apply then_exit | with_reducible apply block_normal | with_reducible apply block_same | with_reducible exact block_far rfl ?_)
  with_reducible apply wp_region_lit
  refine wpList_val (R := KD w.heap.size w [(g41, 24, r64 4 (F4 x)), (g30, 24, r64 4 (F4 y)), (w.heap.size, 26, nums 2 (two 0 0))]) (.bool true) rfl (by refine lands_value (w := w43) ?_ h43; go_simp <;> rfl) ?_
  intro w44 h44
  simp only [Act.put, List.setIfInBounds_toArray, List.set_cons_zero, List.set_cons_succ]
  clear h43
  refine wpList_val (R := KD w.heap.size w [(g41, 24, r64 4 (F4 x)), (g30, 24, r64 4 (F4 y)), (w.heap.size, 26, nums 2 (two 0 0))]) (.bool false) rfl (by refine lands_value (w := w44) ?_ h44; go_simp <;> rfl) ?_
  intro w45 h45
  simp only [Act.put, List.setIfInBounds_toArray, List.set_cons_zero, List.set_cons_succ]
  clear h44
  refine wpList_val (R := KD w.heap.size w [(g41, 24, r64 4 (F4 x)), (g30, 24, r64 4 (F4 y)), (w.heap.size, 26, nums 2 (two 0 0))]) (.bool false) rfl (by refine lands_value (w := w45) ?_ h45; go_simp <;> rfl) ?_
  intro w46 h46
  simp only [Act.put, List.setIfInBounds_toArray, List.set_cons_zero, List.set_cons_succ]
  clear h45
  refine wpList_valG (R := KD w.heap.size w [(g41, 24, r64 4 (F4 x)), (g30, 24, r64 4 (F4 y)), (w.heap.size, 26, nums 2 (two 0 0))]) (.bool true) rfl (by refine lands_value (w := w46) ?_ h46; go_simp <;> rfl) ?_
  intro w47 h47
  simp only [Act.put, List.setIfInBounds_toArray, List.set_cons_zero, List.set_cons_succ]
  clear h46
  refine wpList_valG (R := KD w.heap.size w [(g41, 24, r64 4 (F4 x)), (g30, 24, r64 4 (F4 y)), (w.heap.size, 26, nums 2 (two 0 0))]) (.bool true) rfl (by refine lands_value (w := w47) ?_ h47; go_simp <;> rfl) ?_
  intro w48 h48
  simp only [Act.put, List.setIfInBounds_toArray, List.set_cons_zero, List.set_cons_succ]
  clear h47
  refine wpList_valG (R := KD w.heap.size w [(g41, 24, r64 4 (F4 x)), (g30, 24, r64 4 (F4 y)), (w.heap.size, 26, nums 2 (two 0 0))]) (.agg (r64 4 (F4 x))) rfl (by exact lands_load _ _ rfl _ rfl _ _ _ (h48.blk _ m0) Try.underlying24 rfl (fe_size _) h48) ?_
  intro w49 h49
  simp only [Act.put, List.setIfInBounds_toArray, List.set_cons_zero, List.set_cons_succ]
  clear h48
  refine wpList_valG (R := KD w.heap.size w [(g41, 24, r64 4 (F4 x)), (g30, 24, r64 4 (F4 y)), (w.heap.size, 26, nums 2 (two 0 0))]) (.agg (r64 4 (F4 0))) rfl (by exact lands_built _ _ rfl _ rfl _ (by kernel_rfl) h49) ?_
  intro w50 h50
  simp only [Act.put, List.setIfInBounds_toArray, List.set_cons_zero, List.set_cons_succ]
  clear h49
  refine wpList_valG (R := KD w.heap.size w [(g41, 24, r64 4 (F4 x)), (g30, 24, r64 4 (F4 y)), (w.heap.size, 26, nums 2 (two 0 0))]) (.bool true) rfl (by exact lands_eql _ _ rfl x 0 rfl rfl hxM (by decide) true (decide_eq_true (hxz)) h50) ?_
  intro w51 h51
  simp only [Act.put, List.setIfInBounds_toArray, List.set_cons_zero, List.set_cons_succ]
  clear h50
  refine wpList_valG (R := KD w.heap.size w [(g41, 24, r64 4 (F4 x)), (g30, 24, r64 4 (F4 y)), (w.heap.size, 26, nums 2 (two 0 0))]) (.bool true) rfl (by refine lands_value (w := w51) ?_ h51; go_simp <;> rfl) ?_
  intro w52 h52
  simp only [Act.put, List.setIfInBounds_toArray, List.set_cons_zero, List.set_cons_succ]
  clear h51
  refine wpList_val (R := KD w.heap.size w [(g41, 24, r64 4 (F4 x)), (g30, 24, r64 4 (F4 y)), (w.heap.size, 26, nums 2 (two 0 0))]) (.bool true) rfl (by refine lands_value (w := w52) ?_ h52; go_simp <;> rfl) ?_
  intro w53 h53
  simp only [Act.put, List.setIfInBounds_toArray, List.set_cons_zero, List.set_cons_succ]
  clear h52
  refine wpList_nil ?_
  repeat (first | (with_reducible apply wp_seq_k; intro _ _) | with_reducible apply wp_block | with_reducible apply wp_skip | with_reducible apply wp_exit | (go_at_K; go_step) | with_reducible apply then_normal | with_reducible apply then_exit | with_reducible apply block_normal | with_reducible apply block_same | with_reducible exact block_far rfl ?_)
  refine wp_cond_true rfl ?_
  repeat (first | (with_reducible apply wp_seq_k; intro _ _) | with_reducible apply wp_block | with_reducible apply wp_skip | with_reducible apply wp_exit | (go_at_K; go_step) | with_reducible apply then_normal | with_reducible apply then_exit | with_reducible apply block_normal | with_reducible apply block_same | with_reducible exact block_far rfl ?_)
  with_reducible apply wp_region_lit
  refine wpList_val (R := KD w.heap.size w [(g41, 24, r64 4 (F4 x)), (g30, 24, r64 4 (F4 y)), (w.heap.size, 26, nums 2 (two 0 0))]) (.agg (nums 2 (two 0 0))) rfl (by exact lands_built _ _ rfl _ rfl _ (by kernel_rfl) h53) ?_
  intro w54 h54
  simp only [Act.put, List.setIfInBounds_toArray, List.set_cons_zero, List.set_cons_succ]
  clear h53
  refine wpList_val (R := KD w.heap.size w [(g41, 24, r64 4 (F4 x)), (g30, 24, r64 4 (F4 y)), (w.heap.size, 26, nums 2 (two 0 0))]) undef rfl (lands_store _ _ _ rfl w.heap.size (nums 2 (two 0 0)) rfl rfl _ _ (h54.blk _ m2) (by kernel_rfl) (by kernel_rfl) (row_one fun _ => rfl) (h54.put (k := 2) rfl _)) ?_
  intro w55 h55
  simp only [Act.put]
  clear h54
  refine wpList_val (R := KD w.heap.size w [(g41, 24, r64 4 (F4 x)), (g30, 24, r64 4 (F4 y)), (w.heap.size, 26, nums 2 (two 0 0))]) (.bool false) rfl (by refine lands_value (w := w55) ?_ h55; go_simp <;> rfl) ?_
  intro w56 h56
  simp only [Act.put, List.setIfInBounds_toArray, List.set_cons_zero, List.set_cons_succ]
  clear h55
  refine wpList_nil ?_
  repeat (first | (with_reducible apply wp_seq_k; intro _ _) | with_reducible apply wp_block | with_reducible apply wp_skip | with_reducible apply wp_exit | (go_at_K; go_step) | with_reducible apply then_normal | with_reducible apply then_exit | with_reducible apply block_normal | with_reducible apply block_same | with_reducible exact block_far rfl ?_)
  with_reducible apply wp_ret
  repeat (first | with_reducible apply then_ret | with_reducible apply block_ret)
  exact bodyPost_ret (results_cell_row_slot rfl _ _ w.heap.size 26 (nums 2 (two 0 0)) (0, 0) _ _ rfl (h56.blk _ m2) Try.underlying26 rfl (by kernel_rfl) rfl) rfl ⟨rfl, h56.b⟩
set_option maxRecDepth 100000 in
set_option maxHeartbeats 400000 in
theorem rdec_size (s : ByteArray) (hs : ¬ s.size = 32) (w : World) :
    Calls Try.prog 27 #[.string s] w fun e w' => e = .returned (.tuple #[.agg (nums 2 (two 0 0)), .bool false]) ∧ Below w.heap.size w w' := by
  have hc : ((s.size : Int) != 32) = true := by rw [bne_iff_ne]; omega
  go_enter Try.func27, Try.ntmps27
  repeat (first | (with_reducible apply wp_seq_k; intro _ _) | with_reducible apply wp_block | with_reducible apply wp_skip | with_reducible apply wp_exit | (go_at_K; go_step) | with_reducible apply then_normal | with_reducible apply then_exit | with_reducible apply block_normal | with_reducible apply block_same | with_reducible exact block_far rfl ?_)
  have h1 := KD.begin w
  with_reducible apply wp_region_lit
  refine wpList_val (R := KD w.heap.size w [(w.heap.size, 26, nums 2 (two 0 0))]) (.pointer (some ⟨w.heap.size, 0, none⟩)) rfl (lands_run2 (alloc_run _ _ rfl zero_pt _) (h1.add _ _)) ?_
  intro w2 h2
  simp only [Act.put, List.setIfInBounds_toArray, List.set_cons_zero, List.set_cons_succ]
  clear h1
  refine wpList_val (R := KD w.heap.size w [(w.heap.size, 26, nums 2 (two 0 0))]) (.bool false) rfl (by refine lands_value (w := w2) ?_ h2; go_simp <;> rfl) ?_
  intro w3 h3
  simp only [Act.put, List.setIfInBounds_toArray, List.set_cons_zero, List.set_cons_succ]
  clear h2
  refine wpList_nil ?_
  repeat (first | (with_reducible apply wp_seq_k; intro _ _) | with_reducible apply wp_block | with_reducible apply wp_skip | with_reducible apply wp_exit | (go_at_K; go_step) | with_reducible apply then_normal | with_reducible apply then_exit | with_reducible apply block_normal | with_reducible apply block_same | with_reducible exact block_far rfl ?_)
  with_reducible apply wp_region_lit
  refine wpList_val (R := KD w.heap.size w [(w.heap.size, 26, nums 2 (two 0 0))]) (.string s) rfl (by refine lands_value (w := w3) ?_ h3; go_simp <;> rfl) ?_
  intro w4 h4
  simp only [Act.put, List.setIfInBounds_toArray, List.set_cons_zero, List.set_cons_succ]
  clear h3
  refine wpList_val (R := KD w.heap.size w [(w.heap.size, 26, nums 2 (two 0 0))]) (.int .i64 (s.size : Int)) rfl (by refine lands_value (w := w4) ?_ h4; go_simp) ?_
  intro w5 h5
  simp only [Act.put, List.setIfInBounds_toArray, List.set_cons_zero, List.set_cons_succ]
  clear h4
  refine wpList_val (R := KD w.heap.size w [(w.heap.size, 26, nums 2 (two 0 0))]) (.bool true) rfl (by refine lands_value (w := w5) ?_ h5; go_simp) ?_
  intro w6 h6
  simp only [Act.put, List.setIfInBounds_toArray, List.set_cons_zero, List.set_cons_succ]
  clear h5
  refine wpList_nil ?_
  repeat (first | (with_reducible apply wp_seq_k; intro _ _) | with_reducible apply wp_block | with_reducible apply wp_skip | with_reducible apply wp_exit | (go_at_K; go_step) | with_reducible apply then_normal | with_reducible apply then_exit | with_reducible apply block_normal | with_reducible apply block_same | with_reducible exact block_far rfl ?_)
  refine wp_cond_true rfl ?_
  repeat (first | (with_reducible apply wp_seq_k; intro _ _) | with_reducible apply wp_block | with_reducible apply wp_skip | with_reducible apply wp_exit | (go_at_K; go_step) | with_reducible apply then_normal | with_reducible apply then_exit | with_reducible apply block_normal | with_reducible apply block_same | with_reducible exact block_far rfl ?_)
  with_reducible apply wp_region_lit
  refine wpList_val (R := KD w.heap.size w [(w.heap.size, 26, nums 2 (two 0 0))]) (.agg (nums 2 (two 0 0))) rfl (by exact lands_built _ _ rfl _ rfl _ (by kernel_rfl) h6) ?_
  intro w7 h7
  simp only [Act.put, List.setIfInBounds_toArray, List.set_cons_zero, List.set_cons_succ]
  clear h6
  refine wpList_val (R := KD w.heap.size w [(w.heap.size, 26, nums 2 (two 0 0))]) undef rfl (lands_store _ _ _ rfl w.heap.size (nums 2 (two 0 0)) rfl rfl _ _ (h7.blk _ m0) (by kernel_rfl) (by kernel_rfl) (row_one fun _ => rfl) (h7.put (k := 0) rfl _)) ?_
  intro w8 h8
  simp only [Act.put]
  clear h7
  refine wpList_val (R := KD w.heap.size w [(w.heap.size, 26, nums 2 (two 0 0))]) (.bool false) rfl (by refine lands_value (w := w8) ?_ h8; go_simp <;> rfl) ?_
  intro w9 h9
  simp only [Act.put, List.setIfInBounds_toArray, List.set_cons_zero, List.set_cons_succ]
  clear h8
  refine wpList_nil ?_
  repeat (first | (with_reducible apply wp_seq_k; intro _ _) | with_reducible apply wp_block | with_reducible apply wp_skip | with_reducible apply wp_exit | (go_at_K; go_step) | with_reducible apply then_normal | with_reducible apply then_exit | with_reducible apply block_normal | with_reducible apply block_same | with_reducible exact block_far rfl ?_)
  with_reducible apply wp_ret
  repeat (first | with_reducible apply then_ret | with_reducible apply block_ret)
  exact bodyPost_ret (results_cell_row_slot rfl _ _ w.heap.size 26 (nums 2 (two 0 0)) (0, 0) _ _ rfl (h9.blk _ m0) Try.underlying26 rfl (by kernel_rfl) rfl) rfl ⟨rfl, h9.b⟩
theorem rdec_any (s : ByteArray) (w : World) :
    Calls Try.prog 27 #[.string s] w fun e w' => e = .returned (.tuple #[.agg (nums 2 (two (decV s).1.x (decV s).1.y)), .bool (decV s).2]) ∧ Below w.heap.size w w' := by
  by_cases hs : s.size = 32
  · by_cases hm : yV s % pP = yV s
    · cases hr : rV (subP (mulP (yV s) (yV s)) 1) (addP (mulP dP (mulP (yV s) (yV s))) 1) with
      | mk x b =>
        cases b with
        | false =>
          rw [decV_none hr]
          by_cases hb : byteS s 31 < 128
          · exact rdec_none_e s hs hb (yV s) (yV_M s) (make_yes hm) x hr w
          · exact rdec_none_o s hs hb (yV s) (yV_M s) (make_yes hm) x hr w
        | true =>
          by_cases hb : byteS s 31 < 128
          · rw [decV_even hs hm hr hb]; exact rdec_even s hs hb (yV s) (yV_M s) (make_yes hm) x hr w
          · by_cases hx : x = 0
            · rw [decV_same hs hm hr hb hx]; exact rdec_same s hs hb (yV s) (yV_M s) (make_yes hm) x hr hx w
            · rw [decV_odd hs hm hr hb hx]; exact rdec_odd s hs hb (yV s) (yV_M s) (make_yes hm) x hr hx w
    · rw [decV_make hm]
      by_cases hb : byteS s 31 < 128
      · exact rdec_make_e s hs hb (make_not hm) w
      · exact rdec_make_o s hs hb (make_not hm) w
  · rw [decV_size hs]; exact rdec_size s hs w
end Go.Proofs.Ytehcigidjghddaa
