/- The reference of layer 5: Decode. (written by mkQ5.py) -/
import Derived.Test.YtggalphgnloneaaGreatQx
namespace Go.Proofs.YtggalphgnloneaaGreat
open Go.RowKit
set_option maxRecDepth 100000 in
set_option maxHeartbeats 1000000 in
theorem rdec_make_e (s : ByteArray) (hs : s.size = 32) (heven : byteS s 31 < 128) (hm : makeV (bytesV (yV s)) = (0, false)) (w : World) :
    Calls Tryz.prog 31 #[.string s] w fun e w' => e = .returned (.tuple #[.agg (nums 2 (two 0 0)), .bool false]) ∧ Below w.heap.size w w' := by
  have hc : ((s.size : Int) != 32) = false := by rw [hs]; rfl
  have hb256 := byteS_lt s 31
  have HM := Lib.hid hm
  clear hm
  have hcmp : ¬ (128 : Int) ≤ byteS s 31 := by omega
  have htm : (byteS s 31 : Int).tmod 128 = ((byteS s 31 % 128 : Nat) : Int) := by rw [Int.tmod_eq_emod_of_nonneg (by omega)]; omega
  go_enter Tryz.func31, Tryz.ntmps31
  with_reducible (apply wp_seq_k; intro _ _)
  have h1 := KD.begin w
  with_reducible apply wp_region_lit
  refine wA h1 (alloc_run _ _ rfl zero_pt _) fun w2 h2 => ?_
  simp only [pu]
  clear h1
  refine wV (.bool false) ?_
  simp only [pu]
  refine wpList_nil ?_
  with_reducible (apply tn; go_at_K; go_step; apply wp_seq_k; intro _ _; apply wp_seq_k; intro _ _)
  with_reducible apply wp_region_lit
  refine wV (.string s) ?_
  simp only [pu]
  refine wV (.int .i64 (s.size : Int)) ?_
  simp only [pu]
  refine wV (.bool false) ?_
  simp only [pu]
  refine wpList_nil ?_
  with_reducible (apply tn; go_at_K; go_step)
  refine wp_cond_false rfl ?_
  with_reducible (apply wp_skip; apply tn; go_at_K; go_step; apply wp_seq_k; intro _ _)
  with_reducible apply wp_region_lit
  refine wV (.string s) ?_
  simp only [pu]
  obtain ⟨cap, W1, hcv, hX, hB⟩ := bytes_start s w2 hs
  refine wpList_val (R := KC (fun j => (byteS s j : Int)) w2.heap.size w.heap.size w [(w.heap.size, 42, nums 2 (two 0 0))]) (.slice (some ⟨w2.heap.size, 0, none⟩) 32 cap) rfl (lands_convert _ _ _ rfl rfl hcv ⟨h2.below hB, hX⟩) ?_
  have hge := h2.lo
  have hfar := h2.lt
  intro w3 h3
  simp only [pu]
  clear hcv hX hB W1 h2
  generalize w2.heap.size = g4 at h3 hge hfar ⊢
  refine wpList_val (.slice (some ⟨g4, 0, none⟩) 32 cap) rfl (by refine lands_value (w := w3) ?_ h3; go_simp <;> rfl) ?_
  intro w5 h5
  simp only [pu]
  clear h3
  refine wpList_nil ?_
  with_reducible (apply tn; go_at_K; go_step; apply wp_seq_k; intro _ _)
  with_reducible apply wp_region_lit
  refine wpList_val (.slice (some ⟨g4, 0, none⟩) 32 cap) rfl (by refine lands_value (w := w5) ?_ h5; go_simp <;> rfl) ?_
  intro w6 h6
  simp only [pu]
  clear h5
  refine wpList_val (.pointer (some ⟨g4, 31, none⟩)) rfl (by refine lands_value (w := w6) ?_ h6; go_simp) ?_
  intro w7 h7
  simp only [pu]
  clear h6
  refine wpList_val (.int .u8 (byteS s 31 : Int)) rfl (by have c31 := h7.x.c 31 (by decide); have f31 := h7.x.fz 31 (by decide); refine lands_value (w := w7) ?_ h7; go_simp) ?_
  intro w8 h8
  simp only [pu]
  clear h7
  refine wpList_val (.bool false) rfl (by refine lands_value (w := w8) ?_ h8; go_simp) ?_
  intro w9 h9
  simp only [pu]
  clear h8
  refine wpList_val (.bool false) rfl (by refine lands_value (w := w9) ?_ h9; go_simp <;> rfl) ?_
  intro w10 h10
  simp only [pu]
  clear h9
  refine wpList_nil ?_
  with_reducible (apply tn; go_at_K; go_step; apply wp_seq_k; intro _ _)
  with_reducible apply wp_region_lit
  refine wpList_val (.slice (some ⟨g4, 0, none⟩) 32 cap) rfl (by refine lands_value (w := w10) ?_ h10; go_simp <;> rfl) ?_
  intro w11 h11
  simp only [pu]
  clear h10
  refine wpList_val (.slice (some ⟨g4, 0, none⟩) 32 cap) rfl (by refine lands_value (w := w11) ?_ h11; go_simp <;> rfl) ?_
  intro w12 h12
  simp only [pu]
  clear h11
  refine wpList_val (.pointer (some ⟨g4, 31, none⟩)) rfl (by refine lands_value (w := w12) ?_ h12; go_simp) ?_
  intro w13 h13
  simp only [pu]
  clear h12
  refine wpList_val (.int .u8 (byteS s 31 : Int)) rfl (by have c31 := h13.x.c 31 (by decide); have f31 := h13.x.fz 31 (by decide); refine lands_value (w := w13) ?_ h13; go_simp) ?_
  intro w14 h14
  simp only [pu]
  clear h13
  refine wpList_val (.int .u8 ((byteS s 31 % 128 : Nat) : Int)) rfl (by refine lands_value (w := w14) ?_ h14; go_simp) ?_
  intro w15 h15
  simp only [pu]
  clear h14
  refine wpList_val (.pointer (some ⟨g4, 31, none⟩)) rfl (by refine lands_value (w := w15) ?_ h15; go_simp) ?_
  intro w16 h16
  simp only [pu]
  clear h15
  have c31 := h16.x.c 31 (by decide)
  have f31 := h16.x.fz 31 (by decide)
  refine wpList_val (R := KC (fun j => if j = 31 then ((byteS s 31 % 128 : Nat) : Int) else (byteS s j : Int)) g4 w.heap.size w [(w.heap.size, 42, nums 2 (two 0 0))]) undef rfl (lands_skip (by go_simp) ⟨h16.k.cellfar hfar hge _, h16.x.put (by decide) _⟩) ?_
  intro w17 h17
  simp only [Act.put]
  clear c31 f31 h16
  refine wpList_nil ?_
  with_reducible (apply tn; go_at_K; go_step; apply wp_seq_k; intro _ _)
  with_reducible apply wp_region_lit
  refine wpList_val (.slice (some ⟨g4, 0, none⟩) 32 cap) rfl (by refine lands_value (w := w17) ?_ h17; go_simp <;> rfl) ?_
  intro w18 h18
  simp only [pu]
  clear h17
  refine wpList_val (.string (bytesV (yV s))) rfl (by exact lands_convert _ _ _ rfl rfl (bytes_end h18.x (yV s) (fun j hj => by rw [yV_byte s j hj]; by_cases h1 : j = 31 <;> simp only [h1, if_true, if_false]) cap) h18) ?_
  intro w19 h19
  simp only [pu]
  clear h18
  replace h19 := h19.k
  clear hfar hge
  refine wC h19 (rmake_is (bytesV (yV s)) 0 false w19 HM.out) fun w20 h20 => ?_
  simp only [pu]
  clear h19
  refine wV (.tuple #[.agg (r64 4 (F4 0)), .bool false]) ?_
  simp only [pu]
  refine wV (.agg (r64 4 (F4 0))) ?_
  simp only [pu]
  refine wV (.bool false) ?_
  simp only [pu]
  refine wA h20 (alloc_run _ _ rfl zero_fe _) fun w21 h21 => ?_
  simp only [pu]
  clear h20
  generalize w20.heap.size = g22 at h21 ⊢
  refine wpList_val (R := KD w.heap.size w [(g22, 40, r64 4 (F4 0)), (w.heap.size, 42, nums 2 (two 0 0))]) undef rfl (lands_store _ _ _ rfl g22 (r64 4 (F4 0)) rfl rfl _ _ (h21.blk _ m0) (by kernel_rfl) (by kernel_rfl) (row_one fun _ => rfl) (h21.put (k := 0) rfl _)) ?_
  intro w23 h23
  simp only [pu]
  clear h21
  refine wV (.bool false) ?_
  simp only [pu]
  refine wpList_nil ?_
  with_reducible (apply tn; go_at_K; go_step; apply wp_seq_k; intro _ _; apply wp_seq_k; intro _ _)
  with_reducible apply wp_region_lit
  refine wV (.bool false) ?_
  simp only [pu]
  refine wV (.bool true) ?_
  simp only [pu]
  refine wpList_nil ?_
  with_reducible (apply tn; go_at_K; go_step)
  refine wp_cond_true rfl ?_
  with_reducible (apply wp_seq_k; intro _ _)
  with_reducible apply wp_region_lit
  refine wL (.agg (nums 2 (two 0 0))) (by exact lands_built _ _ rfl _ rfl _ (by kernel_rfl) rfl) ?_
  simp only [pu]
  refine wpList_val (R := KD w.heap.size w [(g22, 40, r64 4 (F4 0)), (w.heap.size, 42, nums 2 (two 0 0))]) undef rfl (lands_store _ _ _ rfl w.heap.size (nums 2 (two 0 0)) rfl rfl _ _ (h23.blk _ m1) (by kernel_rfl) (by kernel_rfl) (row_one fun _ => rfl) (h23.put (k := 1) rfl _)) ?_
  intro w24 h24
  simp only [pu]
  clear h23
  refine wV (.bool false) ?_
  simp only [pu]
  refine wpList_nil ?_
  with_reducible (apply tn; go_at_K; go_step)
  with_reducible apply wp_ret
  repeat (first | with_reducible apply then_ret | with_reducible apply block_ret)
  exact bodyPost_ret (results_cell_row_slot rfl _ _ w.heap.size 42 (nums 2 (two 0 0)) (0, 0) _ _ rfl (h24.blk _ m1) Tryz.underlying42 rfl (by kernel_rfl) rfl) rfl ⟨rfl, h24.b⟩
set_option maxRecDepth 100000 in
set_option maxHeartbeats 1000000 in
theorem rdec_none_e (s : ByteArray) (hs : s.size = 32) (heven : byteS s 31 < 128) (y : Nat) (hyM : y < M256) (hm : makeV (bytesV (yV s)) = (y, true)) (x : Nat) (hr : rV (subP (mulP y y) 1) (addP (mulP dP (mulP y y)) 1) = (x, false)) (w : World) :
    Calls Tryz.prog 31 #[.string s] w fun e w' => e = .returned (.tuple #[.agg (nums 2 (two 0 0)), .bool false]) ∧ Below w.heap.size w w' := by
  have hc : ((s.size : Int) != 32) = false := by rw [hs]; rfl
  have hb256 := byteS_lt s 31
  have HM := Lib.hid hm
  clear hm
  have hxM := rV_lt hr
  have hcmp : ¬ (128 : Int) ≤ byteS s 31 := by omega
  have htm : (byteS s 31 : Int).tmod 128 = ((byteS s 31 % 128 : Nat) : Int) := by rw [Int.tmod_eq_emod_of_nonneg (by omega)]; omega
  go_enter Tryz.func31, Tryz.ntmps31
  with_reducible (apply wp_seq_k; intro _ _)
  have h1 := KD.begin w
  with_reducible apply wp_region_lit
  refine wA h1 (alloc_run _ _ rfl zero_pt _) fun w2 h2 => ?_
  simp only [pu]
  clear h1
  refine wV (.bool false) ?_
  simp only [pu]
  refine wpList_nil ?_
  with_reducible (apply tn; go_at_K; go_step; apply wp_seq_k; intro _ _; apply wp_seq_k; intro _ _)
  with_reducible apply wp_region_lit
  refine wV (.string s) ?_
  simp only [pu]
  refine wV (.int .i64 (s.size : Int)) ?_
  simp only [pu]
  refine wV (.bool false) ?_
  simp only [pu]
  refine wpList_nil ?_
  with_reducible (apply tn; go_at_K; go_step)
  refine wp_cond_false rfl ?_
  with_reducible (apply wp_skip; apply tn; go_at_K; go_step; apply wp_seq_k; intro _ _)
  with_reducible apply wp_region_lit
  refine wV (.string s) ?_
  simp only [pu]
  obtain ⟨cap, W1, hcv, hX, hB⟩ := bytes_start s w2 hs
  refine wpList_val (R := KC (fun j => (byteS s j : Int)) w2.heap.size w.heap.size w [(w.heap.size, 42, nums 2 (two 0 0))]) (.slice (some ⟨w2.heap.size, 0, none⟩) 32 cap) rfl (lands_convert _ _ _ rfl rfl hcv ⟨h2.below hB, hX⟩) ?_
  have hge := h2.lo
  have hfar := h2.lt
  intro w3 h3
  simp only [pu]
  clear hcv hX hB W1 h2
  generalize w2.heap.size = g4 at h3 hge hfar ⊢
  refine wpList_val (.slice (some ⟨g4, 0, none⟩) 32 cap) rfl (by refine lands_value (w := w3) ?_ h3; go_simp <;> rfl) ?_
  intro w5 h5
  simp only [pu]
  clear h3
  refine wpList_nil ?_
  with_reducible (apply tn; go_at_K; go_step; apply wp_seq_k; intro _ _)
  with_reducible apply wp_region_lit
  refine wpList_val (.slice (some ⟨g4, 0, none⟩) 32 cap) rfl (by refine lands_value (w := w5) ?_ h5; go_simp <;> rfl) ?_
  intro w6 h6
  simp only [pu]
  clear h5
  refine wpList_val (.pointer (some ⟨g4, 31, none⟩)) rfl (by refine lands_value (w := w6) ?_ h6; go_simp) ?_
  intro w7 h7
  simp only [pu]
  clear h6
  refine wpList_val (.int .u8 (byteS s 31 : Int)) rfl (by have c31 := h7.x.c 31 (by decide); have f31 := h7.x.fz 31 (by decide); refine lands_value (w := w7) ?_ h7; go_simp) ?_
  intro w8 h8
  simp only [pu]
  clear h7
  refine wpList_val (.bool false) rfl (by refine lands_value (w := w8) ?_ h8; go_simp) ?_
  intro w9 h9
  simp only [pu]
  clear h8
  refine wpList_val (.bool false) rfl (by refine lands_value (w := w9) ?_ h9; go_simp <;> rfl) ?_
  intro w10 h10
  simp only [pu]
  clear h9
  refine wpList_nil ?_
  with_reducible (apply tn; go_at_K; go_step; apply wp_seq_k; intro _ _)
  with_reducible apply wp_region_lit
  refine wpList_val (.slice (some ⟨g4, 0, none⟩) 32 cap) rfl (by refine lands_value (w := w10) ?_ h10; go_simp <;> rfl) ?_
  intro w11 h11
  simp only [pu]
  clear h10
  refine wpList_val (.slice (some ⟨g4, 0, none⟩) 32 cap) rfl (by refine lands_value (w := w11) ?_ h11; go_simp <;> rfl) ?_
  intro w12 h12
  simp only [pu]
  clear h11
  refine wpList_val (.pointer (some ⟨g4, 31, none⟩)) rfl (by refine lands_value (w := w12) ?_ h12; go_simp) ?_
  intro w13 h13
  simp only [pu]
  clear h12
  refine wpList_val (.int .u8 (byteS s 31 : Int)) rfl (by have c31 := h13.x.c 31 (by decide); have f31 := h13.x.fz 31 (by decide); refine lands_value (w := w13) ?_ h13; go_simp) ?_
  intro w14 h14
  simp only [pu]
  clear h13
  refine wpList_val (.int .u8 ((byteS s 31 % 128 : Nat) : Int)) rfl (by refine lands_value (w := w14) ?_ h14; go_simp) ?_
  intro w15 h15
  simp only [pu]
  clear h14
  refine wpList_val (.pointer (some ⟨g4, 31, none⟩)) rfl (by refine lands_value (w := w15) ?_ h15; go_simp) ?_
  intro w16 h16
  simp only [pu]
  clear h15
  have c31 := h16.x.c 31 (by decide)
  have f31 := h16.x.fz 31 (by decide)
  refine wpList_val (R := KC (fun j => if j = 31 then ((byteS s 31 % 128 : Nat) : Int) else (byteS s j : Int)) g4 w.heap.size w [(w.heap.size, 42, nums 2 (two 0 0))]) undef rfl (lands_skip (by go_simp) ⟨h16.k.cellfar hfar hge _, h16.x.put (by decide) _⟩) ?_
  intro w17 h17
  simp only [Act.put]
  clear c31 f31 h16
  refine wpList_nil ?_
  with_reducible (apply tn; go_at_K; go_step; apply wp_seq_k; intro _ _)
  with_reducible apply wp_region_lit
  refine wpList_val (.slice (some ⟨g4, 0, none⟩) 32 cap) rfl (by refine lands_value (w := w17) ?_ h17; go_simp <;> rfl) ?_
  intro w18 h18
  simp only [pu]
  clear h17
  refine wpList_val (.string (bytesV (yV s))) rfl (by exact lands_convert _ _ _ rfl rfl (bytes_end h18.x (yV s) (fun j hj => by rw [yV_byte s j hj]; by_cases h1 : j = 31 <;> simp only [h1, if_true, if_false]) cap) h18) ?_
  intro w19 h19
  simp only [pu]
  clear h18
  replace h19 := h19.k
  clear hfar hge
  refine wC h19 (rmake_is (bytesV (yV s)) y true w19 HM.out) fun w20 h20 => ?_
  simp only [pu]
  clear h19
  refine wV (.tuple #[.agg (r64 4 (F4 y)), .bool true]) ?_
  simp only [pu]
  refine wV (.agg (r64 4 (F4 y))) ?_
  simp only [pu]
  refine wV (.bool true) ?_
  simp only [pu]
  refine wA h20 (alloc_run _ _ rfl zero_fe _) fun w21 h21 => ?_
  simp only [pu]
  clear h20
  generalize w20.heap.size = g22 at h21 ⊢
  refine wpList_val (R := KD w.heap.size w [(g22, 40, r64 4 (F4 y)), (w.heap.size, 42, nums 2 (two 0 0))]) undef rfl (lands_store _ _ _ rfl g22 (r64 4 (F4 y)) rfl rfl _ _ (h21.blk _ m0) (by kernel_rfl) (by kernel_rfl) (row_one fun _ => rfl) (h21.put (k := 0) rfl _)) ?_
  intro w23 h23
  simp only [pu]
  clear h21
  refine wV (.bool true) ?_
  simp only [pu]
  refine wpList_nil ?_
  with_reducible (apply tn; go_at_K; go_step; apply wp_seq_k; intro _ _; apply wp_seq_k; intro _ _)
  with_reducible apply wp_region_lit
  refine wV (.bool true) ?_
  simp only [pu]
  refine wV (.bool false) ?_
  simp only [pu]
  refine wpList_nil ?_
  with_reducible (apply tn; go_at_K; go_step)
  refine wp_cond_false rfl ?_
  with_reducible (apply wp_skip; apply tn; go_at_K; go_step; apply wp_seq_k; intro _ _)
  with_reducible apply wp_region_lit
  refine wL (.agg (r64 4 (F4 y))) (by exact lands_load _ _ rfl _ rfl _ _ _ (h23.blk _ m0) Tryz.underlying40 rfl (fe_size _) rfl) ?_
  simp only [pu]
  refine wC h23 (rroot5_any y hyM x false hr w23) fun w24 h24 => ?_
  simp only [pu]
  clear h23
  refine wV (.tuple #[.agg (r64 4 (F4 x)), .bool false]) ?_
  simp only [pu]
  refine wV (.agg (r64 4 (F4 x))) ?_
  simp only [pu]
  refine wV (.bool false) ?_
  simp only [pu]
  refine wA h24 (alloc_run _ _ rfl zero_fe _) fun w25 h25 => ?_
  simp only [pu]
  clear h24
  generalize w24.heap.size = g26 at h25 ⊢
  refine wpList_val (R := KD w.heap.size w [(g26, 40, r64 4 (F4 x)), (g22, 40, r64 4 (F4 y)), (w.heap.size, 42, nums 2 (two 0 0))]) undef rfl (lands_store _ _ _ rfl g26 (r64 4 (F4 x)) rfl rfl _ _ (h25.blk _ m0) (by kernel_rfl) (by kernel_rfl) (row_one fun _ => rfl) (h25.put (k := 0) rfl _)) ?_
  intro w27 h27
  simp only [pu]
  clear h25
  refine wV (.bool false) ?_
  simp only [pu]
  refine wpList_nil ?_
  with_reducible (apply tn; go_at_K; go_step; apply wp_seq_k; intro _ _; apply wp_seq_k; intro _ _)
  with_reducible apply wp_region_lit
  refine wV (.bool false) ?_
  simp only [pu]
  refine wV (.bool true) ?_
  simp only [pu]
  refine wV (.bool true) ?_
  simp only [pu]
  refine wpList_skipG rfl ?_
  simp only [pu]
  refine wpList_skipG rfl ?_
  simp only [pu]
  refine wpList_skipG rfl ?_
  simp only [pu]
  refine wpList_skipG rfl ?_
  simp only [pu]
  refine wpList_skipG rfl ?_
  simp only [pu]
  refine wpList_skipG rfl ?_
  simp only [pu]
  refine wV (.bool true) ?_
  simp only [pu]
  refine wpList_nil ?_
  with_reducible (apply tn; go_at_K; go_step)
  refine wp_cond_true rfl ?_
  with_reducible (apply wp_seq_k; intro _ _)
  with_reducible apply wp_region_lit
  refine wL (.agg (nums 2 (two 0 0))) (by exact lands_built _ _ rfl _ rfl _ (by kernel_rfl) rfl) ?_
  simp only [pu]
  refine wpList_val (R := KD w.heap.size w [(g26, 40, r64 4 (F4 x)), (g22, 40, r64 4 (F4 y)), (w.heap.size, 42, nums 2 (two 0 0))]) undef rfl (lands_store _ _ _ rfl w.heap.size (nums 2 (two 0 0)) rfl rfl _ _ (h27.blk _ m2) (by kernel_rfl) (by kernel_rfl) (row_one fun _ => rfl) (h27.put (k := 2) rfl _)) ?_
  intro w28 h28
  simp only [pu]
  clear h27
  refine wV (.bool false) ?_
  simp only [pu]
  refine wpList_nil ?_
  with_reducible (apply tn; go_at_K; go_step)
  with_reducible apply wp_ret
  repeat (first | with_reducible apply then_ret | with_reducible apply block_ret)
  exact bodyPost_ret (results_cell_row_slot rfl _ _ w.heap.size 42 (nums 2 (two 0 0)) (0, 0) _ _ rfl (h28.blk _ m2) Tryz.underlying42 rfl (by kernel_rfl) rfl) rfl ⟨rfl, h28.b⟩
set_option maxRecDepth 100000 in
set_option maxHeartbeats 1000000 in
theorem rdec_make_o (s : ByteArray) (hs : s.size = 32) (hodd : ¬ byteS s 31 < 128) (hm : makeV (bytesV (yV s)) = (0, false)) (w : World) :
    Calls Tryz.prog 31 #[.string s] w fun e w' => e = .returned (.tuple #[.agg (nums 2 (two 0 0)), .bool false]) ∧ Below w.heap.size w w' := by
  have hc : ((s.size : Int) != 32) = false := by rw [hs]; rfl
  have hb256 := byteS_lt s 31
  have HM := Lib.hid hm
  clear hm
  have hcmp : (128 : Int) ≤ byteS s 31 := by omega
  have htm : (byteS s 31 : Int).tmod 128 = ((byteS s 31 % 128 : Nat) : Int) := by rw [Int.tmod_eq_emod_of_nonneg (by omega)]; omega
  go_enter Tryz.func31, Tryz.ntmps31
  with_reducible (apply wp_seq_k; intro _ _)
  have h1 := KD.begin w
  with_reducible apply wp_region_lit
  refine wA h1 (alloc_run _ _ rfl zero_pt _) fun w2 h2 => ?_
  simp only [pu]
  clear h1
  refine wV (.bool false) ?_
  simp only [pu]
  refine wpList_nil ?_
  with_reducible (apply tn; go_at_K; go_step; apply wp_seq_k; intro _ _; apply wp_seq_k; intro _ _)
  with_reducible apply wp_region_lit
  refine wV (.string s) ?_
  simp only [pu]
  refine wV (.int .i64 (s.size : Int)) ?_
  simp only [pu]
  refine wV (.bool false) ?_
  simp only [pu]
  refine wpList_nil ?_
  with_reducible (apply tn; go_at_K; go_step)
  refine wp_cond_false rfl ?_
  with_reducible (apply wp_skip; apply tn; go_at_K; go_step; apply wp_seq_k; intro _ _)
  with_reducible apply wp_region_lit
  refine wV (.string s) ?_
  simp only [pu]
  obtain ⟨cap, W1, hcv, hX, hB⟩ := bytes_start s w2 hs
  refine wpList_val (R := KC (fun j => (byteS s j : Int)) w2.heap.size w.heap.size w [(w.heap.size, 42, nums 2 (two 0 0))]) (.slice (some ⟨w2.heap.size, 0, none⟩) 32 cap) rfl (lands_convert _ _ _ rfl rfl hcv ⟨h2.below hB, hX⟩) ?_
  have hge := h2.lo
  have hfar := h2.lt
  intro w3 h3
  simp only [pu]
  clear hcv hX hB W1 h2
  generalize w2.heap.size = g4 at h3 hge hfar ⊢
  refine wpList_val (.slice (some ⟨g4, 0, none⟩) 32 cap) rfl (by refine lands_value (w := w3) ?_ h3; go_simp <;> rfl) ?_
  intro w5 h5
  simp only [pu]
  clear h3
  refine wpList_nil ?_
  with_reducible (apply tn; go_at_K; go_step; apply wp_seq_k; intro _ _)
  with_reducible apply wp_region_lit
  refine wpList_val (.slice (some ⟨g4, 0, none⟩) 32 cap) rfl (by refine lands_value (w := w5) ?_ h5; go_simp <;> rfl) ?_
  intro w6 h6
  simp only [pu]
  clear h5
  refine wpList_val (.pointer (some ⟨g4, 31, none⟩)) rfl (by refine lands_value (w := w6) ?_ h6; go_simp) ?_
  intro w7 h7
  simp only [pu]
  clear h6
  refine wpList_val (.int .u8 (byteS s 31 : Int)) rfl (by have c31 := h7.x.c 31 (by decide); have f31 := h7.x.fz 31 (by decide); refine lands_value (w := w7) ?_ h7; go_simp) ?_
  intro w8 h8
  simp only [pu]
  clear h7
  refine wpList_val (.bool true) rfl (by refine lands_value (w := w8) ?_ h8; go_simp) ?_
  intro w9 h9
  simp only [pu]
  clear h8
  refine wpList_val (.bool true) rfl (by refine lands_value (w := w9) ?_ h9; go_simp <;> rfl) ?_
  intro w10 h10
  simp only [pu]
  clear h9
  refine wpList_nil ?_
  with_reducible (apply tn; go_at_K; go_step; apply wp_seq_k; intro _ _)
  with_reducible apply wp_region_lit
  refine wpList_val (.slice (some ⟨g4, 0, none⟩) 32 cap) rfl (by refine lands_value (w := w10) ?_ h10; go_simp <;> rfl) ?_
  intro w11 h11
  simp only [pu]
  clear h10
  refine wpList_val (.slice (some ⟨g4, 0, none⟩) 32 cap) rfl (by refine lands_value (w := w11) ?_ h11; go_simp <;> rfl) ?_
  intro w12 h12
  simp only [pu]
  clear h11
  refine wpList_val (.pointer (some ⟨g4, 31, none⟩)) rfl (by refine lands_value (w := w12) ?_ h12; go_simp) ?_
  intro w13 h13
  simp only [pu]
  clear h12
  refine wpList_val (.int .u8 (byteS s 31 : Int)) rfl (by have c31 := h13.x.c 31 (by decide); have f31 := h13.x.fz 31 (by decide); refine lands_value (w := w13) ?_ h13; go_simp) ?_
  intro w14 h14
  simp only [pu]
  clear h13
  refine wpList_val (.int .u8 ((byteS s 31 % 128 : Nat) : Int)) rfl (by refine lands_value (w := w14) ?_ h14; go_simp) ?_
  intro w15 h15
  simp only [pu]
  clear h14
  refine wpList_val (.pointer (some ⟨g4, 31, none⟩)) rfl (by refine lands_value (w := w15) ?_ h15; go_simp) ?_
  intro w16 h16
  simp only [pu]
  clear h15
  have c31 := h16.x.c 31 (by decide)
  have f31 := h16.x.fz 31 (by decide)
  refine wpList_val (R := KC (fun j => if j = 31 then ((byteS s 31 % 128 : Nat) : Int) else (byteS s j : Int)) g4 w.heap.size w [(w.heap.size, 42, nums 2 (two 0 0))]) undef rfl (lands_skip (by go_simp) ⟨h16.k.cellfar hfar hge _, h16.x.put (by decide) _⟩) ?_
  intro w17 h17
  simp only [Act.put]
  clear c31 f31 h16
  refine wpList_nil ?_
  with_reducible (apply tn; go_at_K; go_step; apply wp_seq_k; intro _ _)
  with_reducible apply wp_region_lit
  refine wpList_val (.slice (some ⟨g4, 0, none⟩) 32 cap) rfl (by refine lands_value (w := w17) ?_ h17; go_simp <;> rfl) ?_
  intro w18 h18
  simp only [pu]
  clear h17
  refine wpList_val (.string (bytesV (yV s))) rfl (by exact lands_convert _ _ _ rfl rfl (bytes_end h18.x (yV s) (fun j hj => by rw [yV_byte s j hj]; by_cases h1 : j = 31 <;> simp only [h1, if_true, if_false]) cap) h18) ?_
  intro w19 h19
  simp only [pu]
  clear h18
  replace h19 := h19.k
  clear hfar hge
  refine wC h19 (rmake_is (bytesV (yV s)) 0 false w19 HM.out) fun w20 h20 => ?_
  simp only [pu]
  clear h19
  refine wV (.tuple #[.agg (r64 4 (F4 0)), .bool false]) ?_
  simp only [pu]
  refine wV (.agg (r64 4 (F4 0))) ?_
  simp only [pu]
  refine wV (.bool false) ?_
  simp only [pu]
  refine wA h20 (alloc_run _ _ rfl zero_fe _) fun w21 h21 => ?_
  simp only [pu]
  clear h20
  generalize w20.heap.size = g22 at h21 ⊢
  refine wpList_val (R := KD w.heap.size w [(g22, 40, r64 4 (F4 0)), (w.heap.size, 42, nums 2 (two 0 0))]) undef rfl (lands_store _ _ _ rfl g22 (r64 4 (F4 0)) rfl rfl _ _ (h21.blk _ m0) (by kernel_rfl) (by kernel_rfl) (row_one fun _ => rfl) (h21.put (k := 0) rfl _)) ?_
  intro w23 h23
  simp only [pu]
  clear h21
  refine wV (.bool false) ?_
  simp only [pu]
  refine wpList_nil ?_
  with_reducible (apply tn; go_at_K; go_step; apply wp_seq_k; intro _ _; apply wp_seq_k; intro _ _)
  with_reducible apply wp_region_lit
  refine wV (.bool false) ?_
  simp only [pu]
  refine wV (.bool true) ?_
  simp only [pu]
  refine wpList_nil ?_
  with_reducible (apply tn; go_at_K; go_step)
  refine wp_cond_true rfl ?_
  with_reducible (apply wp_seq_k; intro _ _)
  with_reducible apply wp_region_lit
  refine wL (.agg (nums 2 (two 0 0))) (by exact lands_built _ _ rfl _ rfl _ (by kernel_rfl) rfl) ?_
  simp only [pu]
  refine wpList_val (R := KD w.heap.size w [(g22, 40, r64 4 (F4 0)), (w.heap.size, 42, nums 2 (two 0 0))]) undef rfl (lands_store _ _ _ rfl w.heap.size (nums 2 (two 0 0)) rfl rfl _ _ (h23.blk _ m1) (by kernel_rfl) (by kernel_rfl) (row_one fun _ => rfl) (h23.put (k := 1) rfl _)) ?_
  intro w24 h24
  simp only [pu]
  clear h23
  refine wV (.bool false) ?_
  simp only [pu]
  refine wpList_nil ?_
  with_reducible (apply tn; go_at_K; go_step)
  with_reducible apply wp_ret
  repeat (first | with_reducible apply then_ret | with_reducible apply block_ret)
  exact bodyPost_ret (results_cell_row_slot rfl _ _ w.heap.size 42 (nums 2 (two 0 0)) (0, 0) _ _ rfl (h24.blk _ m1) Tryz.underlying42 rfl (by kernel_rfl) rfl) rfl ⟨rfl, h24.b⟩
set_option maxRecDepth 100000 in
set_option maxHeartbeats 1000000 in
theorem rdec_none_o (s : ByteArray) (hs : s.size = 32) (hodd : ¬ byteS s 31 < 128) (y : Nat) (hyM : y < M256) (hm : makeV (bytesV (yV s)) = (y, true)) (x : Nat) (hr : rV (subP (mulP y y) 1) (addP (mulP dP (mulP y y)) 1) = (x, false)) (w : World) :
    Calls Tryz.prog 31 #[.string s] w fun e w' => e = .returned (.tuple #[.agg (nums 2 (two 0 0)), .bool false]) ∧ Below w.heap.size w w' := by
  have hc : ((s.size : Int) != 32) = false := by rw [hs]; rfl
  have hb256 := byteS_lt s 31
  have HM := Lib.hid hm
  clear hm
  have hxM := rV_lt hr
  have hcmp : (128 : Int) ≤ byteS s 31 := by omega
  have htm : (byteS s 31 : Int).tmod 128 = ((byteS s 31 % 128 : Nat) : Int) := by rw [Int.tmod_eq_emod_of_nonneg (by omega)]; omega
  go_enter Tryz.func31, Tryz.ntmps31
  with_reducible (apply wp_seq_k; intro _ _)
  have h1 := KD.begin w
  with_reducible apply wp_region_lit
  refine wA h1 (alloc_run _ _ rfl zero_pt _) fun w2 h2 => ?_
  simp only [pu]
  clear h1
  refine wV (.bool false) ?_
  simp only [pu]
  refine wpList_nil ?_
  with_reducible (apply tn; go_at_K; go_step; apply wp_seq_k; intro _ _; apply wp_seq_k; intro _ _)
  with_reducible apply wp_region_lit
  refine wV (.string s) ?_
  simp only [pu]
  refine wV (.int .i64 (s.size : Int)) ?_
  simp only [pu]
  refine wV (.bool false) ?_
  simp only [pu]
  refine wpList_nil ?_
  with_reducible (apply tn; go_at_K; go_step)
  refine wp_cond_false rfl ?_
  with_reducible (apply wp_skip; apply tn; go_at_K; go_step; apply wp_seq_k; intro _ _)
  with_reducible apply wp_region_lit
  refine wV (.string s) ?_
  simp only [pu]
  obtain ⟨cap, W1, hcv, hX, hB⟩ := bytes_start s w2 hs
  refine wpList_val (R := KC (fun j => (byteS s j : Int)) w2.heap.size w.heap.size w [(w.heap.size, 42, nums 2 (two 0 0))]) (.slice (some ⟨w2.heap.size, 0, none⟩) 32 cap) rfl (lands_convert _ _ _ rfl rfl hcv ⟨h2.below hB, hX⟩) ?_
  have hge := h2.lo
  have hfar := h2.lt
  intro w3 h3
  simp only [pu]
  clear hcv hX hB W1 h2
  generalize w2.heap.size = g4 at h3 hge hfar ⊢
  refine wpList_val (.slice (some ⟨g4, 0, none⟩) 32 cap) rfl (by refine lands_value (w := w3) ?_ h3; go_simp <;> rfl) ?_
  intro w5 h5
  simp only [pu]
  clear h3
  refine wpList_nil ?_
  with_reducible (apply tn; go_at_K; go_step; apply wp_seq_k; intro _ _)
  with_reducible apply wp_region_lit
  refine wpList_val (.slice (some ⟨g4, 0, none⟩) 32 cap) rfl (by refine lands_value (w := w5) ?_ h5; go_simp <;> rfl) ?_
  intro w6 h6
  simp only [pu]
  clear h5
  refine wpList_val (.pointer (some ⟨g4, 31, none⟩)) rfl (by refine lands_value (w := w6) ?_ h6; go_simp) ?_
  intro w7 h7
  simp only [pu]
  clear h6
  refine wpList_val (.int .u8 (byteS s 31 : Int)) rfl (by have c31 := h7.x.c 31 (by decide); have f31 := h7.x.fz 31 (by decide); refine lands_value (w := w7) ?_ h7; go_simp) ?_
  intro w8 h8
  simp only [pu]
  clear h7
  refine wpList_val (.bool true) rfl (by refine lands_value (w := w8) ?_ h8; go_simp) ?_
  intro w9 h9
  simp only [pu]
  clear h8
  refine wpList_val (.bool true) rfl (by refine lands_value (w := w9) ?_ h9; go_simp <;> rfl) ?_
  intro w10 h10
  simp only [pu]
  clear h9
  refine wpList_nil ?_
  with_reducible (apply tn; go_at_K; go_step; apply wp_seq_k; intro _ _)
  with_reducible apply wp_region_lit
  refine wpList_val (.slice (some ⟨g4, 0, none⟩) 32 cap) rfl (by refine lands_value (w := w10) ?_ h10; go_simp <;> rfl) ?_
  intro w11 h11
  simp only [pu]
  clear h10
  refine wpList_val (.slice (some ⟨g4, 0, none⟩) 32 cap) rfl (by refine lands_value (w := w11) ?_ h11; go_simp <;> rfl) ?_
  intro w12 h12
  simp only [pu]
  clear h11
  refine wpList_val (.pointer (some ⟨g4, 31, none⟩)) rfl (by refine lands_value (w := w12) ?_ h12; go_simp) ?_
  intro w13 h13
  simp only [pu]
  clear h12
  refine wpList_val (.int .u8 (byteS s 31 : Int)) rfl (by have c31 := h13.x.c 31 (by decide); have f31 := h13.x.fz 31 (by decide); refine lands_value (w := w13) ?_ h13; go_simp) ?_
  intro w14 h14
  simp only [pu]
  clear h13
  refine wpList_val (.int .u8 ((byteS s 31 % 128 : Nat) : Int)) rfl (by refine lands_value (w := w14) ?_ h14; go_simp) ?_
  intro w15 h15
  simp only [pu]
  clear h14
  refine wpList_val (.pointer (some ⟨g4, 31, none⟩)) rfl (by refine lands_value (w := w15) ?_ h15; go_simp) ?_
  intro w16 h16
  simp only [pu]
  clear h15
  have c31 := h16.x.c 31 (by decide)
  have f31 := h16.x.fz 31 (by decide)
  refine wpList_val (R := KC (fun j => if j = 31 then ((byteS s 31 % 128 : Nat) : Int) else (byteS s j : Int)) g4 w.heap.size w [(w.heap.size, 42, nums 2 (two 0 0))]) undef rfl (lands_skip (by go_simp) ⟨h16.k.cellfar hfar hge _, h16.x.put (by decide) _⟩) ?_
  intro w17 h17
  simp only [Act.put]
  clear c31 f31 h16
  refine wpList_nil ?_
  with_reducible (apply tn; go_at_K; go_step; apply wp_seq_k; intro _ _)
  with_reducible apply wp_region_lit
  refine wpList_val (.slice (some ⟨g4, 0, none⟩) 32 cap) rfl (by refine lands_value (w := w17) ?_ h17; go_simp <;> rfl) ?_
  intro w18 h18
  simp only [pu]
  clear h17
  refine wpList_val (.string (bytesV (yV s))) rfl (by exact lands_convert _ _ _ rfl rfl (bytes_end h18.x (yV s) (fun j hj => by rw [yV_byte s j hj]; by_cases h1 : j = 31 <;> simp only [h1, if_true, if_false]) cap) h18) ?_
  intro w19 h19
  simp only [pu]
  clear h18
  replace h19 := h19.k
  clear hfar hge
  refine wC h19 (rmake_is (bytesV (yV s)) y true w19 HM.out) fun w20 h20 => ?_
  simp only [pu]
  clear h19
  refine wV (.tuple #[.agg (r64 4 (F4 y)), .bool true]) ?_
  simp only [pu]
  refine wV (.agg (r64 4 (F4 y))) ?_
  simp only [pu]
  refine wV (.bool true) ?_
  simp only [pu]
  refine wA h20 (alloc_run _ _ rfl zero_fe _) fun w21 h21 => ?_
  simp only [pu]
  clear h20
  generalize w20.heap.size = g22 at h21 ⊢
  refine wpList_val (R := KD w.heap.size w [(g22, 40, r64 4 (F4 y)), (w.heap.size, 42, nums 2 (two 0 0))]) undef rfl (lands_store _ _ _ rfl g22 (r64 4 (F4 y)) rfl rfl _ _ (h21.blk _ m0) (by kernel_rfl) (by kernel_rfl) (row_one fun _ => rfl) (h21.put (k := 0) rfl _)) ?_
  intro w23 h23
  simp only [pu]
  clear h21
  refine wV (.bool true) ?_
  simp only [pu]
  refine wpList_nil ?_
  with_reducible (apply tn; go_at_K; go_step; apply wp_seq_k; intro _ _; apply wp_seq_k; intro _ _)
  with_reducible apply wp_region_lit
  refine wV (.bool true) ?_
  simp only [pu]
  refine wV (.bool false) ?_
  simp only [pu]
  refine wpList_nil ?_
  with_reducible (apply tn; go_at_K; go_step)
  refine wp_cond_false rfl ?_
  with_reducible (apply wp_skip; apply tn; go_at_K; go_step; apply wp_seq_k; intro _ _)
  with_reducible apply wp_region_lit
  refine wL (.agg (r64 4 (F4 y))) (by exact lands_load _ _ rfl _ rfl _ _ _ (h23.blk _ m0) Tryz.underlying40 rfl (fe_size _) rfl) ?_
  simp only [pu]
  refine wC h23 (rroot5_any y hyM x false hr w23) fun w24 h24 => ?_
  simp only [pu]
  clear h23
  refine wV (.tuple #[.agg (r64 4 (F4 x)), .bool false]) ?_
  simp only [pu]
  refine wV (.agg (r64 4 (F4 x))) ?_
  simp only [pu]
  refine wV (.bool false) ?_
  simp only [pu]
  refine wA h24 (alloc_run _ _ rfl zero_fe _) fun w25 h25 => ?_
  simp only [pu]
  clear h24
  generalize w24.heap.size = g26 at h25 ⊢
  refine wpList_val (R := KD w.heap.size w [(g26, 40, r64 4 (F4 x)), (g22, 40, r64 4 (F4 y)), (w.heap.size, 42, nums 2 (two 0 0))]) undef rfl (lands_store _ _ _ rfl g26 (r64 4 (F4 x)) rfl rfl _ _ (h25.blk _ m0) (by kernel_rfl) (by kernel_rfl) (row_one fun _ => rfl) (h25.put (k := 0) rfl _)) ?_
  intro w27 h27
  simp only [pu]
  clear h25
  refine wV (.bool false) ?_
  simp only [pu]
  refine wpList_nil ?_
  with_reducible (apply tn; go_at_K; go_step; apply wp_seq_k; intro _ _; apply wp_seq_k; intro _ _)
  with_reducible apply wp_region_lit
  refine wV (.bool false) ?_
  simp only [pu]
  refine wV (.bool true) ?_
  simp only [pu]
  refine wV (.bool true) ?_
  simp only [pu]
  refine wpList_skipG rfl ?_
  simp only [pu]
  refine wpList_skipG rfl ?_
  simp only [pu]
  refine wpList_skipG rfl ?_
  simp only [pu]
  refine wpList_skipG rfl ?_
  simp only [pu]
  refine wpList_skipG rfl ?_
  simp only [pu]
  refine wpList_skipG rfl ?_
  simp only [pu]
  refine wV (.bool true) ?_
  simp only [pu]
  refine wpList_nil ?_
  with_reducible (apply tn; go_at_K; go_step)
  refine wp_cond_true rfl ?_
  with_reducible (apply wp_seq_k; intro _ _)
  with_reducible apply wp_region_lit
  refine wL (.agg (nums 2 (two 0 0))) (by exact lands_built _ _ rfl _ rfl _ (by kernel_rfl) rfl) ?_
  simp only [pu]
  refine wpList_val (R := KD w.heap.size w [(g26, 40, r64 4 (F4 x)), (g22, 40, r64 4 (F4 y)), (w.heap.size, 42, nums 2 (two 0 0))]) undef rfl (lands_store _ _ _ rfl w.heap.size (nums 2 (two 0 0)) rfl rfl _ _ (h27.blk _ m2) (by kernel_rfl) (by kernel_rfl) (row_one fun _ => rfl) (h27.put (k := 2) rfl _)) ?_
  intro w28 h28
  simp only [pu]
  clear h27
  refine wV (.bool false) ?_
  simp only [pu]
  refine wpList_nil ?_
  with_reducible (apply tn; go_at_K; go_step)
  with_reducible apply wp_ret
  repeat (first | with_reducible apply then_ret | with_reducible apply block_ret)
  exact bodyPost_ret (results_cell_row_slot rfl _ _ w.heap.size 42 (nums 2 (two 0 0)) (0, 0) _ _ rfl (h28.blk _ m2) Tryz.underlying42 rfl (by kernel_rfl) rfl) rfl ⟨rfl, h28.b⟩
set_option maxRecDepth 100000 in
set_option maxHeartbeats 1000000 in
theorem rdec_even (s : ByteArray) (hs : s.size = 32) (heven : byteS s 31 < 128) (y : Nat) (hyM : y < M256) (hm : makeV (bytesV (yV s)) = (y, true)) (x : Nat) (hr : rV (subP (mulP y y) 1) (addP (mulP dP (mulP y y)) 1) = (x, true)) (w : World) :
    Calls Tryz.prog 31 #[.string s] w fun e w' => e = .returned (.tuple #[.agg (nums 2 (two x y)), .bool true]) ∧ Below w.heap.size w w' := by
  have hc : ((s.size : Int) != 32) = false := by rw [hs]; rfl
  have hb256 := byteS_lt s 31
  have HM := Lib.hid hm
  clear hm
  have hxM := rV_lt hr
  have hcmp : ¬ (128 : Int) ≤ byteS s 31 := by omega
  have htm : (byteS s 31 : Int).tmod 128 = ((byteS s 31 % 128 : Nat) : Int) := by rw [Int.tmod_eq_emod_of_nonneg (by omega)]; omega
  go_enter Tryz.func31, Tryz.ntmps31
  with_reducible (apply wp_seq_k; intro _ _)
  have h1 := KD.begin w
  with_reducible apply wp_region_lit
  refine wA h1 (alloc_run _ _ rfl zero_pt _) fun w2 h2 => ?_
  simp only [pu]
  clear h1
  refine wV (.bool false) ?_
  simp only [pu]
  refine wpList_nil ?_
  with_reducible (apply tn; go_at_K; go_step; apply wp_seq_k; intro _ _; apply wp_seq_k; intro _ _)
  with_reducible apply wp_region_lit
  refine wV (.string s) ?_
  simp only [pu]
  refine wV (.int .i64 (s.size : Int)) ?_
  simp only [pu]
  refine wV (.bool false) ?_
  simp only [pu]
  refine wpList_nil ?_
  with_reducible (apply tn; go_at_K; go_step)
  refine wp_cond_false rfl ?_
  with_reducible (apply wp_skip; apply tn; go_at_K; go_step; apply wp_seq_k; intro _ _)
  with_reducible apply wp_region_lit
  refine wV (.string s) ?_
  simp only [pu]
  obtain ⟨cap, W1, hcv, hX, hB⟩ := bytes_start s w2 hs
  refine wpList_val (R := KC (fun j => (byteS s j : Int)) w2.heap.size w.heap.size w [(w.heap.size, 42, nums 2 (two 0 0))]) (.slice (some ⟨w2.heap.size, 0, none⟩) 32 cap) rfl (lands_convert _ _ _ rfl rfl hcv ⟨h2.below hB, hX⟩) ?_
  have hge := h2.lo
  have hfar := h2.lt
  intro w3 h3
  simp only [pu]
  clear hcv hX hB W1 h2
  generalize w2.heap.size = g4 at h3 hge hfar ⊢
  refine wpList_val (.slice (some ⟨g4, 0, none⟩) 32 cap) rfl (by refine lands_value (w := w3) ?_ h3; go_simp <;> rfl) ?_
  intro w5 h5
  simp only [pu]
  clear h3
  refine wpList_nil ?_
  with_reducible (apply tn; go_at_K; go_step; apply wp_seq_k; intro _ _)
  with_reducible apply wp_region_lit
  refine wpList_val (.slice (some ⟨g4, 0, none⟩) 32 cap) rfl (by refine lands_value (w := w5) ?_ h5; go_simp <;> rfl) ?_
  intro w6 h6
  simp only [pu]
  clear h5
  refine wpList_val (.pointer (some ⟨g4, 31, none⟩)) rfl (by refine lands_value (w := w6) ?_ h6; go_simp) ?_
  intro w7 h7
  simp only [pu]
  clear h6
  refine wpList_val (.int .u8 (byteS s 31 : Int)) rfl (by have c31 := h7.x.c 31 (by decide); have f31 := h7.x.fz 31 (by decide); refine lands_value (w := w7) ?_ h7; go_simp) ?_
  intro w8 h8
  simp only [pu]
  clear h7
  refine wpList_val (.bool false) rfl (by refine lands_value (w := w8) ?_ h8; go_simp) ?_
  intro w9 h9
  simp only [pu]
  clear h8
  refine wpList_val (.bool false) rfl (by refine lands_value (w := w9) ?_ h9; go_simp <;> rfl) ?_
  intro w10 h10
  simp only [pu]
  clear h9
  refine wpList_nil ?_
  with_reducible (apply tn; go_at_K; go_step; apply wp_seq_k; intro _ _)
  with_reducible apply wp_region_lit
  refine wpList_val (.slice (some ⟨g4, 0, none⟩) 32 cap) rfl (by refine lands_value (w := w10) ?_ h10; go_simp <;> rfl) ?_
  intro w11 h11
  simp only [pu]
  clear h10
  refine wpList_val (.slice (some ⟨g4, 0, none⟩) 32 cap) rfl (by refine lands_value (w := w11) ?_ h11; go_simp <;> rfl) ?_
  intro w12 h12
  simp only [pu]
  clear h11
  refine wpList_val (.pointer (some ⟨g4, 31, none⟩)) rfl (by refine lands_value (w := w12) ?_ h12; go_simp) ?_
  intro w13 h13
  simp only [pu]
  clear h12
  refine wpList_val (.int .u8 (byteS s 31 : Int)) rfl (by have c31 := h13.x.c 31 (by decide); have f31 := h13.x.fz 31 (by decide); refine lands_value (w := w13) ?_ h13; go_simp) ?_
  intro w14 h14
  simp only [pu]
  clear h13
  refine wpList_val (.int .u8 ((byteS s 31 % 128 : Nat) : Int)) rfl (by refine lands_value (w := w14) ?_ h14; go_simp) ?_
  intro w15 h15
  simp only [pu]
  clear h14
  refine wpList_val (.pointer (some ⟨g4, 31, none⟩)) rfl (by refine lands_value (w := w15) ?_ h15; go_simp) ?_
  intro w16 h16
  simp only [pu]
  clear h15
  have c31 := h16.x.c 31 (by decide)
  have f31 := h16.x.fz 31 (by decide)
  refine wpList_val (R := KC (fun j => if j = 31 then ((byteS s 31 % 128 : Nat) : Int) else (byteS s j : Int)) g4 w.heap.size w [(w.heap.size, 42, nums 2 (two 0 0))]) undef rfl (lands_skip (by go_simp) ⟨h16.k.cellfar hfar hge _, h16.x.put (by decide) _⟩) ?_
  intro w17 h17
  simp only [Act.put]
  clear c31 f31 h16
  refine wpList_nil ?_
  with_reducible (apply tn; go_at_K; go_step; apply wp_seq_k; intro _ _)
  with_reducible apply wp_region_lit
  refine wpList_val (.slice (some ⟨g4, 0, none⟩) 32 cap) rfl (by refine lands_value (w := w17) ?_ h17; go_simp <;> rfl) ?_
  intro w18 h18
  simp only [pu]
  clear h17
  refine wpList_val (.string (bytesV (yV s))) rfl (by exact lands_convert _ _ _ rfl rfl (bytes_end h18.x (yV s) (fun j hj => by rw [yV_byte s j hj]; by_cases h1 : j = 31 <;> simp only [h1, if_true, if_false]) cap) h18) ?_
  intro w19 h19
  simp only [pu]
  clear h18
  replace h19 := h19.k
  clear hfar hge
  refine wC h19 (rmake_is (bytesV (yV s)) y true w19 HM.out) fun w20 h20 => ?_
  simp only [pu]
  clear h19
  refine wV (.tuple #[.agg (r64 4 (F4 y)), .bool true]) ?_
  simp only [pu]
  refine wV (.agg (r64 4 (F4 y))) ?_
  simp only [pu]
  refine wV (.bool true) ?_
  simp only [pu]
  refine wA h20 (alloc_run _ _ rfl zero_fe _) fun w21 h21 => ?_
  simp only [pu]
  clear h20
  generalize w20.heap.size = g22 at h21 ⊢
  refine wpList_val (R := KD w.heap.size w [(g22, 40, r64 4 (F4 y)), (w.heap.size, 42, nums 2 (two 0 0))]) undef rfl (lands_store _ _ _ rfl g22 (r64 4 (F4 y)) rfl rfl _ _ (h21.blk _ m0) (by kernel_rfl) (by kernel_rfl) (row_one fun _ => rfl) (h21.put (k := 0) rfl _)) ?_
  intro w23 h23
  simp only [pu]
  clear h21
  refine wV (.bool true) ?_
  simp only [pu]
  refine wpList_nil ?_
  with_reducible (apply tn; go_at_K; go_step; apply wp_seq_k; intro _ _; apply wp_seq_k; intro _ _)
  with_reducible apply wp_region_lit
  refine wV (.bool true) ?_
  simp only [pu]
  refine wV (.bool false) ?_
  simp only [pu]
  refine wpList_nil ?_
  with_reducible (apply tn; go_at_K; go_step)
  refine wp_cond_false rfl ?_
  with_reducible (apply wp_skip; apply tn; go_at_K; go_step; apply wp_seq_k; intro _ _)
  with_reducible apply wp_region_lit
  refine wL (.agg (r64 4 (F4 y))) (by exact lands_load _ _ rfl _ rfl _ _ _ (h23.blk _ m0) Tryz.underlying40 rfl (fe_size _) rfl) ?_
  simp only [pu]
  refine wC h23 (rroot5_any y hyM x true hr w23) fun w24 h24 => ?_
  simp only [pu]
  clear h23
  refine wV (.tuple #[.agg (r64 4 (F4 x)), .bool true]) ?_
  simp only [pu]
  refine wV (.agg (r64 4 (F4 x))) ?_
  simp only [pu]
  refine wV (.bool true) ?_
  simp only [pu]
  refine wA h24 (alloc_run _ _ rfl zero_fe _) fun w25 h25 => ?_
  simp only [pu]
  clear h24
  generalize w24.heap.size = g26 at h25 ⊢
  refine wpList_val (R := KD w.heap.size w [(g26, 40, r64 4 (F4 x)), (g22, 40, r64 4 (F4 y)), (w.heap.size, 42, nums 2 (two 0 0))]) undef rfl (lands_store _ _ _ rfl g26 (r64 4 (F4 x)) rfl rfl _ _ (h25.blk _ m0) (by kernel_rfl) (by kernel_rfl) (row_one fun _ => rfl) (h25.put (k := 0) rfl _)) ?_
  intro w27 h27
  simp only [pu]
  clear h25
  refine wV (.bool true) ?_
  simp only [pu]
  refine wpList_nil ?_
  with_reducible (apply tn; go_at_K; go_step; apply wp_seq_k; intro _ _; apply wp_seq_k; intro _ _)
  with_reducible apply wp_region_lit
  refine wV (.bool true) ?_
  simp only [pu]
  refine wV (.bool false) ?_
  simp only [pu]
  refine wV (.bool false) ?_
  simp only [pu]
  refine wVG (.bool false) ?_
  simp only [pu]
  refine wVG (.bool false) ?_
  simp only [pu]
  refine wpList_skipG rfl ?_
  simp only [pu]
  refine wpList_skipG rfl ?_
  simp only [pu]
  refine wpList_skipG rfl ?_
  simp only [pu]
  refine wVG (.bool false) ?_
  simp only [pu]
  refine wV (.bool false) ?_
  simp only [pu]
  refine wpList_nil ?_
  with_reducible (apply tn; go_at_K; go_step)
  refine wp_cond_false rfl ?_
  with_reducible (apply wp_skip; apply tn; go_at_K; go_step; apply wp_seq_k; intro _ _; apply wp_seq_k; intro _ _)
  with_reducible apply wp_region_lit
  refine wV (.bool false) ?_
  simp only [pu]
  refine wpList_nil ?_
  with_reducible (apply tn; go_at_K; go_step)
  refine wp_cond_false rfl ?_
  with_reducible (apply wp_skip; apply tn; go_at_K; go_step; apply wp_seq_k; intro _ _)
  with_reducible apply wp_region_lit
  refine wL (.agg (r64 4 (F4 x))) (by exact lands_load _ _ rfl _ rfl _ _ _ (h27.blk _ m0) Tryz.underlying40 rfl (fe_size _) rfl) ?_
  simp only [pu]
  refine wL (.agg (r64 4 (F4 y))) (by exact lands_load _ _ rfl _ rfl _ _ _ (h27.blk _ m1) Tryz.underlying40 rfl (fe_size _) rfl) ?_
  simp only [pu]
  refine wL (.agg (nums 2 (two x y))) (by exact lands_built _ _ rfl _ rfl _ (by kernel_rfl) rfl) ?_
  simp only [pu]
  refine wpList_val (R := KD w.heap.size w [(g26, 40, r64 4 (F4 x)), (g22, 40, r64 4 (F4 y)), (w.heap.size, 42, nums 2 (two x y))]) undef rfl (lands_store _ _ _ rfl w.heap.size (nums 2 (two x y)) rfl rfl _ _ (h27.blk _ m2) (by kernel_rfl) (by kernel_rfl) (row_one fun _ => rfl) (h27.put (k := 2) rfl _)) ?_
  intro w28 h28
  simp only [pu]
  clear h27
  refine wV (.bool true) ?_
  simp only [pu]
  refine wpList_nil ?_
  with_reducible (apply tn; go_at_K; go_step)
  with_reducible apply wp_ret
  repeat (first | with_reducible apply then_ret | with_reducible apply block_ret)
  exact bodyPost_ret (results_cell_row_slot rfl _ _ w.heap.size 42 (nums 2 (two x y)) (0, 0) _ _ rfl (h28.blk _ m2) Tryz.underlying42 rfl (by kernel_rfl) rfl) rfl ⟨rfl, h28.b⟩
set_option maxRecDepth 100000 in
set_option maxHeartbeats 1000000 in
theorem rdec_odd (s : ByteArray) (hs : s.size = 32) (hodd : ¬ byteS s 31 < 128) (y : Nat) (hyM : y < M256) (hm : makeV (bytesV (yV s)) = (y, true)) (x : Nat) (hr : rV (subP (mulP y y) 1) (addP (mulP dP (mulP y y)) 1) = (x, true)) (hxz : ¬ x = 0) (w : World) :
    Calls Tryz.prog 31 #[.string s] w fun e w' => e = .returned (.tuple #[.agg (nums 2 (two (negP x) y)), .bool true]) ∧ Below w.heap.size w w' := by
  have hc : ((s.size : Int) != 32) = false := by rw [hs]; rfl
  have hb256 := byteS_lt s 31
  have HM := Lib.hid hm
  clear hm
  have hxM := rV_lt hr
  have hcmp : (128 : Int) ≤ byteS s 31 := by omega
  have htm : (byteS s 31 : Int).tmod 128 = ((byteS s 31 % 128 : Nat) : Int) := by rw [Int.tmod_eq_emod_of_nonneg (by omega)]; omega
  go_enter Tryz.func31, Tryz.ntmps31
  with_reducible (apply wp_seq_k; intro _ _)
  have h1 := KD.begin w
  with_reducible apply wp_region_lit
  refine wA h1 (alloc_run _ _ rfl zero_pt _) fun w2 h2 => ?_
  simp only [pu]
  clear h1
  refine wV (.bool false) ?_
  simp only [pu]
  refine wpList_nil ?_
  with_reducible (apply tn; go_at_K; go_step; apply wp_seq_k; intro _ _; apply wp_seq_k; intro _ _)
  with_reducible apply wp_region_lit
  refine wV (.string s) ?_
  simp only [pu]
  refine wV (.int .i64 (s.size : Int)) ?_
  simp only [pu]
  refine wV (.bool false) ?_
  simp only [pu]
  refine wpList_nil ?_
  with_reducible (apply tn; go_at_K; go_step)
  refine wp_cond_false rfl ?_
  with_reducible (apply wp_skip; apply tn; go_at_K; go_step; apply wp_seq_k; intro _ _)
  with_reducible apply wp_region_lit
  refine wV (.string s) ?_
  simp only [pu]
  obtain ⟨cap, W1, hcv, hX, hB⟩ := bytes_start s w2 hs
  refine wpList_val (R := KC (fun j => (byteS s j : Int)) w2.heap.size w.heap.size w [(w.heap.size, 42, nums 2 (two 0 0))]) (.slice (some ⟨w2.heap.size, 0, none⟩) 32 cap) rfl (lands_convert _ _ _ rfl rfl hcv ⟨h2.below hB, hX⟩) ?_
  have hge := h2.lo
  have hfar := h2.lt
  intro w3 h3
  simp only [pu]
  clear hcv hX hB W1 h2
  generalize w2.heap.size = g4 at h3 hge hfar ⊢
  refine wpList_val (.slice (some ⟨g4, 0, none⟩) 32 cap) rfl (by refine lands_value (w := w3) ?_ h3; go_simp <;> rfl) ?_
  intro w5 h5
  simp only [pu]
  clear h3
  refine wpList_nil ?_
  with_reducible (apply tn; go_at_K; go_step; apply wp_seq_k; intro _ _)
  with_reducible apply wp_region_lit
  refine wpList_val (.slice (some ⟨g4, 0, none⟩) 32 cap) rfl (by refine lands_value (w := w5) ?_ h5; go_simp <;> rfl) ?_
  intro w6 h6
  simp only [pu]
  clear h5
  refine wpList_val (.pointer (some ⟨g4, 31, none⟩)) rfl (by refine lands_value (w := w6) ?_ h6; go_simp) ?_
  intro w7 h7
  simp only [pu]
  clear h6
  refine wpList_val (.int .u8 (byteS s 31 : Int)) rfl (by have c31 := h7.x.c 31 (by decide); have f31 := h7.x.fz 31 (by decide); refine lands_value (w := w7) ?_ h7; go_simp) ?_
  intro w8 h8
  simp only [pu]
  clear h7
  refine wpList_val (.bool true) rfl (by refine lands_value (w := w8) ?_ h8; go_simp) ?_
  intro w9 h9
  simp only [pu]
  clear h8
  refine wpList_val (.bool true) rfl (by refine lands_value (w := w9) ?_ h9; go_simp <;> rfl) ?_
  intro w10 h10
  simp only [pu]
  clear h9
  refine wpList_nil ?_
  with_reducible (apply tn; go_at_K; go_step; apply wp_seq_k; intro _ _)
  with_reducible apply wp_region_lit
  refine wpList_val (.slice (some ⟨g4, 0, none⟩) 32 cap) rfl (by refine lands_value (w := w10) ?_ h10; go_simp <;> rfl) ?_
  intro w11 h11
  simp only [pu]
  clear h10
  refine wpList_val (.slice (some ⟨g4, 0, none⟩) 32 cap) rfl (by refine lands_value (w := w11) ?_ h11; go_simp <;> rfl) ?_
  intro w12 h12
  simp only [pu]
  clear h11
  refine wpList_val (.pointer (some ⟨g4, 31, none⟩)) rfl (by refine lands_value (w := w12) ?_ h12; go_simp) ?_
  intro w13 h13
  simp only [pu]
  clear h12
  refine wpList_val (.int .u8 (byteS s 31 : Int)) rfl (by have c31 := h13.x.c 31 (by decide); have f31 := h13.x.fz 31 (by decide); refine lands_value (w := w13) ?_ h13; go_simp) ?_
  intro w14 h14
  simp only [pu]
  clear h13
  refine wpList_val (.int .u8 ((byteS s 31 % 128 : Nat) : Int)) rfl (by refine lands_value (w := w14) ?_ h14; go_simp) ?_
  intro w15 h15
  simp only [pu]
  clear h14
  refine wpList_val (.pointer (some ⟨g4, 31, none⟩)) rfl (by refine lands_value (w := w15) ?_ h15; go_simp) ?_
  intro w16 h16
  simp only [pu]
  clear h15
  have c31 := h16.x.c 31 (by decide)
  have f31 := h16.x.fz 31 (by decide)
  refine wpList_val (R := KC (fun j => if j = 31 then ((byteS s 31 % 128 : Nat) : Int) else (byteS s j : Int)) g4 w.heap.size w [(w.heap.size, 42, nums 2 (two 0 0))]) undef rfl (lands_skip (by go_simp) ⟨h16.k.cellfar hfar hge _, h16.x.put (by decide) _⟩) ?_
  intro w17 h17
  simp only [Act.put]
  clear c31 f31 h16
  refine wpList_nil ?_
  with_reducible (apply tn; go_at_K; go_step; apply wp_seq_k; intro _ _)
  with_reducible apply wp_region_lit
  refine wpList_val (.slice (some ⟨g4, 0, none⟩) 32 cap) rfl (by refine lands_value (w := w17) ?_ h17; go_simp <;> rfl) ?_
  intro w18 h18
  simp only [pu]
  clear h17
  refine wpList_val (.string (bytesV (yV s))) rfl (by exact lands_convert _ _ _ rfl rfl (bytes_end h18.x (yV s) (fun j hj => by rw [yV_byte s j hj]; by_cases h1 : j = 31 <;> simp only [h1, if_true, if_false]) cap) h18) ?_
  intro w19 h19
  simp only [pu]
  clear h18
  replace h19 := h19.k
  clear hfar hge
  refine wC h19 (rmake_is (bytesV (yV s)) y true w19 HM.out) fun w20 h20 => ?_
  simp only [pu]
  clear h19
  refine wV (.tuple #[.agg (r64 4 (F4 y)), .bool true]) ?_
  simp only [pu]
  refine wV (.agg (r64 4 (F4 y))) ?_
  simp only [pu]
  refine wV (.bool true) ?_
  simp only [pu]
  refine wA h20 (alloc_run _ _ rfl zero_fe _) fun w21 h21 => ?_
  simp only [pu]
  clear h20
  generalize w20.heap.size = g22 at h21 ⊢
  refine wpList_val (R := KD w.heap.size w [(g22, 40, r64 4 (F4 y)), (w.heap.size, 42, nums 2 (two 0 0))]) undef rfl (lands_store _ _ _ rfl g22 (r64 4 (F4 y)) rfl rfl _ _ (h21.blk _ m0) (by kernel_rfl) (by kernel_rfl) (row_one fun _ => rfl) (h21.put (k := 0) rfl _)) ?_
  intro w23 h23
  simp only [pu]
  clear h21
  refine wV (.bool true) ?_
  simp only [pu]
  refine wpList_nil ?_
  with_reducible (apply tn; go_at_K; go_step; apply wp_seq_k; intro _ _; apply wp_seq_k; intro _ _)
  with_reducible apply wp_region_lit
  refine wV (.bool true) ?_
  simp only [pu]
  refine wV (.bool false) ?_
  simp only [pu]
  refine wpList_nil ?_
  with_reducible (apply tn; go_at_K; go_step)
  refine wp_cond_false rfl ?_
  with_reducible (apply wp_skip; apply tn; go_at_K; go_step; apply wp_seq_k; intro _ _)
  with_reducible apply wp_region_lit
  refine wL (.agg (r64 4 (F4 y))) (by exact lands_load _ _ rfl _ rfl _ _ _ (h23.blk _ m0) Tryz.underlying40 rfl (fe_size _) rfl) ?_
  simp only [pu]
  refine wC h23 (rroot5_any y hyM x true hr w23) fun w24 h24 => ?_
  simp only [pu]
  clear h23
  refine wV (.tuple #[.agg (r64 4 (F4 x)), .bool true]) ?_
  simp only [pu]
  refine wV (.agg (r64 4 (F4 x))) ?_
  simp only [pu]
  refine wV (.bool true) ?_
  simp only [pu]
  refine wA h24 (alloc_run _ _ rfl zero_fe _) fun w25 h25 => ?_
  simp only [pu]
  clear h24
  generalize w24.heap.size = g26 at h25 ⊢
  refine wpList_val (R := KD w.heap.size w [(g26, 40, r64 4 (F4 x)), (g22, 40, r64 4 (F4 y)), (w.heap.size, 42, nums 2 (two 0 0))]) undef rfl (lands_store _ _ _ rfl g26 (r64 4 (F4 x)) rfl rfl _ _ (h25.blk _ m0) (by kernel_rfl) (by kernel_rfl) (row_one fun _ => rfl) (h25.put (k := 0) rfl _)) ?_
  intro w27 h27
  simp only [pu]
  clear h25
  refine wV (.bool true) ?_
  simp only [pu]
  refine wpList_nil ?_
  with_reducible (apply tn; go_at_K; go_step; apply wp_seq_k; intro _ _; apply wp_seq_k; intro _ _)
  with_reducible apply wp_region_lit
  refine wV (.bool true) ?_
  simp only [pu]
  refine wV (.bool false) ?_
  simp only [pu]
  refine wV (.bool false) ?_
  simp only [pu]
  refine wVG (.bool true) ?_
  simp only [pu]
  refine wVG (.bool true) ?_
  simp only [pu]
  refine wLG (.agg (r64 4 (F4 x))) (by exact lands_load _ _ rfl _ rfl _ _ _ (h27.blk _ m0) Tryz.underlying40 rfl (fe_size _) rfl) ?_
  simp only [pu]
  refine wLG (.agg (r64 4 (F4 0))) (by exact lands_built _ _ rfl _ rfl _ (by kernel_rfl) rfl) ?_
  simp only [pu]
  refine wLG (.bool false) (by exact lands_eql _ _ rfl x 0 rfl rfl hxM (by decide) false (decide_eq_false (hxz)) rfl) ?_
  simp only [pu]
  refine wVG (.bool false) ?_
  simp only [pu]
  refine wV (.bool false) ?_
  simp only [pu]
  refine wpList_nil ?_
  with_reducible (apply tn; go_at_K; go_step)
  refine wp_cond_false rfl ?_
  with_reducible (apply wp_skip; apply tn; go_at_K; go_step; apply wp_seq_k; intro _ _; apply wp_seq_k; intro _ _)
  with_reducible apply wp_region_lit
  refine wV (.bool true) ?_
  simp only [pu]
  refine wpList_nil ?_
  with_reducible (apply tn; go_at_K; go_step)
  refine wp_cond_true rfl ?_
  with_reducible apply wp_region_lit
  refine wL (.agg (r64 4 (F4 x))) (by exact lands_load _ _ rfl _ rfl _ _ _ (h27.blk _ m0) Tryz.underlying40 rfl (fe_size _) rfl) ?_
  simp only [pu]
  refine wC h27 (rnegP x w27 hxM) fun w28 h28 => ?_
  simp only [pu]
  clear h27
  refine wpList_val (R := KD w.heap.size w [(g26, 40, r64 4 (F4 (negP x))), (g22, 40, r64 4 (F4 y)), (w.heap.size, 42, nums 2 (two 0 0))]) undef rfl (lands_store _ _ _ rfl g26 (r64 4 (F4 (negP x))) rfl rfl _ _ (h28.blk _ m0) (by kernel_rfl) (by kernel_rfl) (row_one fun _ => rfl) (h28.put (k := 0) rfl _)) ?_
  intro w29 h29
  simp only [pu]
  clear h28
  refine wpList_nil ?_
  with_reducible (apply tn; go_at_K; go_step; apply wp_seq_k; intro _ _)
  with_reducible apply wp_region_lit
  refine wL (.agg (r64 4 (F4 (negP x)))) (by exact lands_load _ _ rfl _ rfl _ _ _ (h29.blk _ m0) Tryz.underlying40 rfl (fe_size _) rfl) ?_
  simp only [pu]
  refine wL (.agg (r64 4 (F4 y))) (by exact lands_load _ _ rfl _ rfl _ _ _ (h29.blk _ m1) Tryz.underlying40 rfl (fe_size _) rfl) ?_
  simp only [pu]
  refine wL (.agg (nums 2 (two (negP x) y))) (by exact lands_built _ _ rfl _ rfl _ (by kernel_rfl) rfl) ?_
  simp only [pu]
  refine wpList_val (R := KD w.heap.size w [(g26, 40, r64 4 (F4 (negP x))), (g22, 40, r64 4 (F4 y)), (w.heap.size, 42, nums 2 (two (negP x) y))]) undef rfl (lands_store _ _ _ rfl w.heap.size (nums 2 (two (negP x) y)) rfl rfl _ _ (h29.blk _ m2) (by kernel_rfl) (by kernel_rfl) (row_one fun _ => rfl) (h29.put (k := 2) rfl _)) ?_
  intro w30 h30
  simp only [pu]
  clear h29
  refine wV (.bool true) ?_
  simp only [pu]
  refine wpList_nil ?_
  with_reducible (apply tn; go_at_K; go_step)
  with_reducible apply wp_ret
  repeat (first | with_reducible apply then_ret | with_reducible apply block_ret)
  exact bodyPost_ret (results_cell_row_slot rfl _ _ w.heap.size 42 (nums 2 (two (negP x) y)) (0, 0) _ _ rfl (h30.blk _ m2) Tryz.underlying42 rfl (by kernel_rfl) rfl) rfl ⟨rfl, h30.b⟩
set_option maxRecDepth 100000 in
set_option maxHeartbeats 1000000 in
theorem rdec_same (s : ByteArray) (hs : s.size = 32) (hodd : ¬ byteS s 31 < 128) (y : Nat) (hyM : y < M256) (hm : makeV (bytesV (yV s)) = (y, true)) (x : Nat) (hr : rV (subP (mulP y y) 1) (addP (mulP dP (mulP y y)) 1) = (x, true)) (hxz : x = 0) (w : World) :
    Calls Tryz.prog 31 #[.string s] w fun e w' => e = .returned (.tuple #[.agg (nums 2 (two 0 0)), .bool false]) ∧ Below w.heap.size w w' := by
  have hc : ((s.size : Int) != 32) = false := by rw [hs]; rfl
  have hb256 := byteS_lt s 31
  have HM := Lib.hid hm
  clear hm
  have hxM := rV_lt hr
  have hcmp : (128 : Int) ≤ byteS s 31 := by omega
  have htm : (byteS s 31 : Int).tmod 128 = ((byteS s 31 % 128 : Nat) : Int) := by rw [Int.tmod_eq_emod_of_nonneg (by omega)]; omega
  go_enter Tryz.func31, Tryz.ntmps31
  with_reducible (apply wp_seq_k; intro _ _)
  have h1 := KD.begin w
  with_reducible apply wp_region_lit
  refine wA h1 (alloc_run _ _ rfl zero_pt _) fun w2 h2 => ?_
  simp only [pu]
  clear h1
  refine wV (.bool false) ?_
  simp only [pu]
  refine wpList_nil ?_
  with_reducible (apply tn; go_at_K; go_step; apply wp_seq_k; intro _ _; apply wp_seq_k; intro _ _)
  with_reducible apply wp_region_lit
  refine wV (.string s) ?_
  simp only [pu]
  refine wV (.int .i64 (s.size : Int)) ?_
  simp only [pu]
  refine wV (.bool false) ?_
  simp only [pu]
  refine wpList_nil ?_
  with_reducible (apply tn; go_at_K; go_step)
  refine wp_cond_false rfl ?_
  with_reducible (apply wp_skip; apply tn; go_at_K; go_step; apply wp_seq_k; intro _ _)
  with_reducible apply wp_region_lit
  refine wV (.string s) ?_
  simp only [pu]
  obtain ⟨cap, W1, hcv, hX, hB⟩ := bytes_start s w2 hs
  refine wpList_val (R := KC (fun j => (byteS s j : Int)) w2.heap.size w.heap.size w [(w.heap.size, 42, nums 2 (two 0 0))]) (.slice (some ⟨w2.heap.size, 0, none⟩) 32 cap) rfl (lands_convert _ _ _ rfl rfl hcv ⟨h2.below hB, hX⟩) ?_
  have hge := h2.lo
  have hfar := h2.lt
  intro w3 h3
  simp only [pu]
  clear hcv hX hB W1 h2
  generalize w2.heap.size = g4 at h3 hge hfar ⊢
  refine wpList_val (.slice (some ⟨g4, 0, none⟩) 32 cap) rfl (by refine lands_value (w := w3) ?_ h3; go_simp <;> rfl) ?_
  intro w5 h5
  simp only [pu]
  clear h3
  refine wpList_nil ?_
  with_reducible (apply tn; go_at_K; go_step; apply wp_seq_k; intro _ _)
  with_reducible apply wp_region_lit
  refine wpList_val (.slice (some ⟨g4, 0, none⟩) 32 cap) rfl (by refine lands_value (w := w5) ?_ h5; go_simp <;> rfl) ?_
  intro w6 h6
  simp only [pu]
  clear h5
  refine wpList_val (.pointer (some ⟨g4, 31, none⟩)) rfl (by refine lands_value (w := w6) ?_ h6; go_simp) ?_
  intro w7 h7
  simp only [pu]
  clear h6
  refine wpList_val (.int .u8 (byteS s 31 : Int)) rfl (by have c31 := h7.x.c 31 (by decide); have f31 := h7.x.fz 31 (by decide); refine lands_value (w := w7) ?_ h7; go_simp) ?_
  intro w8 h8
  simp only [pu]
  clear h7
  refine wpList_val (.bool true) rfl (by refine lands_value (w := w8) ?_ h8; go_simp) ?_
  intro w9 h9
  simp only [pu]
  clear h8
  refine wpList_val (.bool true) rfl (by refine lands_value (w := w9) ?_ h9; go_simp <;> rfl) ?_
  intro w10 h10
  simp only [pu]
  clear h9
  refine wpList_nil ?_
  with_reducible (apply tn; go_at_K; go_step; apply wp_seq_k; intro _ _)
  with_reducible apply wp_region_lit
  refine wpList_val (.slice (some ⟨g4, 0, none⟩) 32 cap) rfl (by refine lands_value (w := w10) ?_ h10; go_simp <;> rfl) ?_
  intro w11 h11
  simp only [pu]
  clear h10
  refine wpList_val (.slice (some ⟨g4, 0, none⟩) 32 cap) rfl (by refine lands_value (w := w11) ?_ h11; go_simp <;> rfl) ?_
  intro w12 h12
  simp only [pu]
  clear h11
  refine wpList_val (.pointer (some ⟨g4, 31, none⟩)) rfl (by refine lands_value (w := w12) ?_ h12; go_simp) ?_
  intro w13 h13
  simp only [pu]
  clear h12
  refine wpList_val (.int .u8 (byteS s 31 : Int)) rfl (by have c31 := h13.x.c 31 (by decide); have f31 := h13.x.fz 31 (by decide); refine lands_value (w := w13) ?_ h13; go_simp) ?_
  intro w14 h14
  simp only [pu]
  clear h13
  refine wpList_val (.int .u8 ((byteS s 31 % 128 : Nat) : Int)) rfl (by refine lands_value (w := w14) ?_ h14; go_simp) ?_
  intro w15 h15
  simp only [pu]
  clear h14
  refine wpList_val (.pointer (some ⟨g4, 31, none⟩)) rfl (by refine lands_value (w := w15) ?_ h15; go_simp) ?_
  intro w16 h16
  simp only [pu]
  clear h15
  have c31 := h16.x.c 31 (by decide)
  have f31 := h16.x.fz 31 (by decide)
  refine wpList_val (R := KC (fun j => if j = 31 then ((byteS s 31 % 128 : Nat) : Int) else (byteS s j : Int)) g4 w.heap.size w [(w.heap.size, 42, nums 2 (two 0 0))]) undef rfl (lands_skip (by go_simp) ⟨h16.k.cellfar hfar hge _, h16.x.put (by decide) _⟩) ?_
  intro w17 h17
  simp only [Act.put]
  clear c31 f31 h16
  refine wpList_nil ?_
  with_reducible (apply tn; go_at_K; go_step; apply wp_seq_k; intro _ _)
  with_reducible apply wp_region_lit
  refine wpList_val (.slice (some ⟨g4, 0, none⟩) 32 cap) rfl (by refine lands_value (w := w17) ?_ h17; go_simp <;> rfl) ?_
  intro w18 h18
  simp only [pu]
  clear h17
  refine wpList_val (.string (bytesV (yV s))) rfl (by exact lands_convert _ _ _ rfl rfl (bytes_end h18.x (yV s) (fun j hj => by rw [yV_byte s j hj]; by_cases h1 : j = 31 <;> simp only [h1, if_true, if_false]) cap) h18) ?_
  intro w19 h19
  simp only [pu]
  clear h18
  replace h19 := h19.k
  clear hfar hge
  refine wC h19 (rmake_is (bytesV (yV s)) y true w19 HM.out) fun w20 h20 => ?_
  simp only [pu]
  clear h19
  refine wV (.tuple #[.agg (r64 4 (F4 y)), .bool true]) ?_
  simp only [pu]
  refine wV (.agg (r64 4 (F4 y))) ?_
  simp only [pu]
  refine wV (.bool true) ?_
  simp only [pu]
  refine wA h20 (alloc_run _ _ rfl zero_fe _) fun w21 h21 => ?_
  simp only [pu]
  clear h20
  generalize w20.heap.size = g22 at h21 ⊢
  refine wpList_val (R := KD w.heap.size w [(g22, 40, r64 4 (F4 y)), (w.heap.size, 42, nums 2 (two 0 0))]) undef rfl (lands_store _ _ _ rfl g22 (r64 4 (F4 y)) rfl rfl _ _ (h21.blk _ m0) (by kernel_rfl) (by kernel_rfl) (row_one fun _ => rfl) (h21.put (k := 0) rfl _)) ?_
  intro w23 h23
  simp only [pu]
  clear h21
  refine wV (.bool true) ?_
  simp only [pu]
  refine wpList_nil ?_
  with_reducible (apply tn; go_at_K; go_step; apply wp_seq_k; intro _ _; apply wp_seq_k; intro _ _)
  with_reducible apply wp_region_lit
  refine wV (.bool true) ?_
  simp only [pu]
  refine wV (.bool false) ?_
  simp only [pu]
  refine wpList_nil ?_
  with_reducible (apply tn; go_at_K; go_step)
  refine wp_cond_false rfl ?_
  with_reducible (apply wp_skip; apply tn; go_at_K; go_step; apply wp_seq_k; intro _ _)
  with_reducible apply wp_region_lit
  refine wL (.agg (r64 4 (F4 y))) (by exact lands_load _ _ rfl _ rfl _ _ _ (h23.blk _ m0) Tryz.underlying40 rfl (fe_size _) rfl) ?_
  simp only [pu]
  refine wC h23 (rroot5_any y hyM x true hr w23) fun w24 h24 => ?_
  simp only [pu]
  clear h23
  refine wV (.tuple #[.agg (r64 4 (F4 x)), .bool true]) ?_
  simp only [pu]
  refine wV (.agg (r64 4 (F4 x))) ?_
  simp only [pu]
  refine wV (.bool true) ?_
  simp only [pu]
  refine wA h24 (alloc_run _ _ rfl zero_fe _) fun w25 h25 => ?_
  simp only [pu]
  clear h24
  generalize w24.heap.size = g26 at h25 ⊢
  refine wpList_val (R := KD w.heap.size w [(g26, 40, r64 4 (F4 x)), (g22, 40, r64 4 (F4 y)), (w.heap.size, 42, nums 2 (two 0 0))]) undef rfl (lands_store _ _ _ rfl g26 (r64 4 (F4 x)) rfl rfl _ _ (h25.blk _ m0) (by kernel_rfl) (by kernel_rfl) (row_one fun _ => rfl) (h25.put (k := 0) rfl _)) ?_
  intro w27 h27
  simp only [pu]
  clear h25
  refine wV (.bool true) ?_
  simp only [pu]
  refine wpList_nil ?_
  with_reducible (apply tn; go_at_K; go_step; apply wp_seq_k; intro _ _; apply wp_seq_k; intro _ _)
  with_reducible apply wp_region_lit
  refine wV (.bool true) ?_
  simp only [pu]
  refine wV (.bool false) ?_
  simp only [pu]
  refine wV (.bool false) ?_
  simp only [pu]
  refine wVG (.bool true) ?_
  simp only [pu]
  refine wVG (.bool true) ?_
  simp only [pu]
  refine wLG (.agg (r64 4 (F4 x))) (by exact lands_load _ _ rfl _ rfl _ _ _ (h27.blk _ m0) Tryz.underlying40 rfl (fe_size _) rfl) ?_
  simp only [pu]
  refine wLG (.agg (r64 4 (F4 0))) (by exact lands_built _ _ rfl _ rfl _ (by kernel_rfl) rfl) ?_
  simp only [pu]
  refine wLG (.bool true) (by exact lands_eql _ _ rfl x 0 rfl rfl hxM (by decide) true (decide_eq_true (hxz)) rfl) ?_
  simp only [pu]
  refine wVG (.bool true) ?_
  simp only [pu]
  refine wV (.bool true) ?_
  simp only [pu]
  refine wpList_nil ?_
  with_reducible (apply tn; go_at_K; go_step)
  refine wp_cond_true rfl ?_
  with_reducible (apply wp_seq_k; intro _ _)
  with_reducible apply wp_region_lit
  refine wL (.agg (nums 2 (two 0 0))) (by exact lands_built _ _ rfl _ rfl _ (by kernel_rfl) rfl) ?_
  simp only [pu]
  refine wpList_val (R := KD w.heap.size w [(g26, 40, r64 4 (F4 x)), (g22, 40, r64 4 (F4 y)), (w.heap.size, 42, nums 2 (two 0 0))]) undef rfl (lands_store _ _ _ rfl w.heap.size (nums 2 (two 0 0)) rfl rfl _ _ (h27.blk _ m2) (by kernel_rfl) (by kernel_rfl) (row_one fun _ => rfl) (h27.put (k := 2) rfl _)) ?_
  intro w28 h28
  simp only [pu]
  clear h27
  refine wV (.bool false) ?_
  simp only [pu]
  refine wpList_nil ?_
  with_reducible (apply tn; go_at_K; go_step)
  with_reducible apply wp_ret
  repeat (first | with_reducible apply then_ret | with_reducible apply block_ret)
  exact bodyPost_ret (results_cell_row_slot rfl _ _ w.heap.size 42 (nums 2 (two 0 0)) (0, 0) _ _ rfl (h28.blk _ m2) Tryz.underlying42 rfl (by kernel_rfl) rfl) rfl ⟨rfl, h28.b⟩
set_option maxRecDepth 100000 in
set_option maxHeartbeats 400000 in
theorem rdec_size (s : ByteArray) (hs : ¬ s.size = 32) (w : World) :
    Calls Tryz.prog 31 #[.string s] w fun e w' => e = .returned (.tuple #[.agg (nums 2 (two 0 0)), .bool false]) ∧ Below w.heap.size w w' := by
  have hc : ((s.size : Int) != 32) = true := by rw [bne_iff_ne]; omega
  go_enter Tryz.func31, Tryz.ntmps31
  with_reducible (apply wp_seq_k; intro _ _)
  have h1 := KD.begin w
  with_reducible apply wp_region_lit
  refine wA h1 (alloc_run _ _ rfl zero_pt _) fun w2 h2 => ?_
  simp only [pu]
  clear h1
  refine wV (.bool false) ?_
  simp only [pu]
  refine wpList_nil ?_
  with_reducible (apply tn; go_at_K; go_step; apply wp_seq_k; intro _ _; apply wp_seq_k; intro _ _)
  with_reducible apply wp_region_lit
  refine wV (.string s) ?_
  simp only [pu]
  refine wV (.int .i64 (s.size : Int)) ?_
  simp only [pu]
  refine wV (.bool true) ?_
  simp only [pu]
  refine wpList_nil ?_
  with_reducible (apply tn; go_at_K; go_step)
  refine wp_cond_true rfl ?_
  with_reducible (apply wp_seq_k; intro _ _)
  with_reducible apply wp_region_lit
  refine wL (.agg (nums 2 (two 0 0))) (by exact lands_built _ _ rfl _ rfl _ (by kernel_rfl) rfl) ?_
  simp only [pu]
  refine wpList_val (R := KD w.heap.size w [(w.heap.size, 42, nums 2 (two 0 0))]) undef rfl (lands_store _ _ _ rfl w.heap.size (nums 2 (two 0 0)) rfl rfl _ _ (h2.blk _ m0) (by kernel_rfl) (by kernel_rfl) (row_one fun _ => rfl) (h2.put (k := 0) rfl _)) ?_
  intro w3 h3
  simp only [pu]
  clear h2
  refine wV (.bool false) ?_
  simp only [pu]
  refine wpList_nil ?_
  with_reducible (apply tn; go_at_K; go_step)
  with_reducible apply wp_ret
  repeat (first | with_reducible apply then_ret | with_reducible apply block_ret)
  exact bodyPost_ret (results_cell_row_slot rfl _ _ w.heap.size 42 (nums 2 (two 0 0)) (0, 0) _ _ rfl (h3.blk _ m0) Tryz.underlying42 rfl (by kernel_rfl) rfl) rfl ⟨rfl, h3.b⟩
theorem rdec_any (s : ByteArray) (w : World) :
    Calls Tryz.prog 31 #[.string s] w fun e w' => e = .returned (.tuple #[.agg (nums 2 (two (decV s).1.x (decV s).1.y)), .bool (decV s).2]) ∧ Below w.heap.size w w' := by
  by_cases hs : s.size = 32
  · by_cases hm : yV s % pP = yV s
    · cases hr : rV (subP (mulP (yV s) (yV s)) 1) (addP (mulP dP (mulP (yV s) (yV s))) 1) with
      | mk x b =>
        cases b with
        | false =>
          rw [decV_none hr]
          by_cases hb : byteS s 31 < 128
          · exact rdec_none_e s hs hb (yV s) (yV_M s) (make_yes hm) x hr w
          · exact rdec_none_o s hs hb (yV s) (yV_M s) (make_yes hm) x hr w
        | true =>
          by_cases hb : byteS s 31 < 128
          · rw [decV_even hs hm hr hb]; exact rdec_even s hs hb (yV s) (yV_M s) (make_yes hm) x hr w
          · by_cases hx : x = 0
            · rw [decV_same hs hm hr hb hx]; exact rdec_same s hs hb (yV s) (yV_M s) (make_yes hm) x hr hx w
            · rw [decV_odd hs hm hr hb hx]; exact rdec_odd s hs hb (yV s) (yV_M s) (make_yes hm) x hr hx w
    · rw [decV_make hm]
      by_cases hb : byteS s 31 < 128
      · exact rdec_make_e s hs hb (make_not hm) w
      · exact rdec_make_o s hs hb (make_not hm) w
  · rw [decV_size hs]; exact rdec_size s hs w
end Go.Proofs.YtggalphgnloneaaGreat
