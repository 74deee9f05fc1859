/- Encode of the layer point and of its reference. (written by mkQ4.py) -/
import Derived.Test.YtggalphgnloneaaGreatQv
import Derived.Test.YtggalphgnloneaaGreatQr
namespace Go.Proofs.YtggalphgnloneaaGreat
open Go.RowKit
set_option maxRecDepth 100000 in
set_option maxHeartbeats 1000000 in
theorem qenc_t (P : Pt) (hC : onC P) (hb : oddP P.x = true) (w : World) :
    Calls Tryz.prog 25 #[.agg (nums 2 (two P.x P.y))] w fun e w' => e = .returned (.tuple #[.string (bytesV (P.y + B255)), .bool true]) ∧ Below w.heap.size w w' := by
  have hP := hC.ok
  have HYB := Lib.hid (fun w => fbytes_is P.y (bytesV P.y) w hP.y (by rw [Nat.mod_eq_of_lt hC.y]))
  have HOD := Lib.hid (fun w => foddB P.x w hP.x true hb)
  go_enter Tryz.func25, Tryz.ntmps25
  with_reducible (apply wp_seq_k; intro _ _)
  have h1 := KD.begin w
  with_reducible apply wp_region_lit
  refine wA h1 (box_run _ _ _ rfl rfl _) fun w2 h2 => ?_
  simp only [pu]
  clear h1
  refine wV (.string ⟨#[]⟩) ?_
  simp only [pu]
  refine wV (.bool false) ?_
  simp only [pu]
  refine wpList_nil ?_
  with_reducible (apply tn; go_at_K; go_step; apply wp_seq_k; intro _ _; apply wp_seq_k; intro _ _)
  obtain ⟨n3, hn3⟩ : ∃ n, n = w2.heap.size := ⟨_, rfl⟩
  refine wp_region_anyE (KM w.heap.size n3 w (fun _ _ => [(w.heap.size, 42, nums 2 (two P.x P.y))]) 1000 1001 []) (fun _ => false) (by kernel_rfl) (KM.begin h2 hn3 (lows hn3 h2 (fun _ _ => rfl)) _) ?_
  refine kW 0 (.agg (nums 2 (two P.x P.y))) rfl (fun qv L wx hT => ?_) ?_
  · exact lands_load _ _ rfl _ rfl _ _ _ (hT.k.blk _ m0) Tryz.underlying42 rfl (by kernel_rfl) hT
  simp only [pu]
  refine kC 1 rfl (fun wx => qcounted_t P hP.x hP.y (onB_C.2 hC) wx) ?_
  simp only [pu]
  refine kW 2 (.agg (nums 2 (two P.x P.y))) rfl (fun qv L wx hT => ?_) ?_
  · exact lands_load _ _ rfl _ rfl _ _ _ (hT.k.blk _ m0) Tryz.underlying42 rfl (by kernel_rfl) hT
  simp only [pu]
  refine kW 3 (.bool false) rfl (fun qv L wx hT => ?_) ?_
  · exact lands_neqP _ _ rfl P P rfl rfl hP hP false (by rw [eqP_iff.2 rfl]; rfl) hT
  simp only [pu]
  refine anyE_done (by kernel_rfl) (fun qv w4 hK => ?_) _
  have hE := hK.outs (by kernel_rfl) (by kernel_rfl)  (b := false) (c := false) (by kernel_rfl) (by kernel_rfl)
  clear hK h2 hn3
  have h4 : KD w.heap.size w [(w.heap.size, 42, nums 2 (two P.x P.y))] w4 := hE.k
  clear hE
  clear n3
  clear qv
  with_reducible (apply tn; go_at_K; go_step)
  refine wp_cond_false rfl ?_
  with_reducible (apply wp_skip; apply tn; go_at_K; go_step; apply wp_seq_k; intro _ _)
  with_reducible apply wp_region_lit
  refine wV (.pointer (some ⟨w.heap.size, 4, none⟩)) ?_
  simp only [pu]
  refine wL (.agg (r64 4 (F4 P.y))) (by exact lands_num 1 _ _ rfl _ 2 _ rfl _ (h4.blk _ m0) (by decide) _ Tryz.underlying40 rfl (by kernel_rfl) rfl) ?_
  simp only [pu]
  refine wC h4 (HYB.out w4) fun w5 h5 => ?_
  simp only [pu]
  clear h4
  obtain ⟨cap, W1, hcv, hX, hB⟩ := bytes_start (bytesV P.y) w5 (bytesV_size _)
  refine wpList_val (R := KC (fun j => (byteS (bytesV P.y) j : Int)) w5.heap.size w.heap.size w [(w.heap.size, 42, nums 2 (two P.x P.y))]) (.slice (some ⟨w5.heap.size, 0, none⟩) 32 cap) rfl (lands_convert _ _ _ rfl rfl hcv ⟨h5.below hB, hX⟩) ?_
  have hge := h5.lo
  intro w6 h6
  simp only [pu]
  clear hcv hX hB W1 h5
  generalize w5.heap.size = g7 at h6 hge ⊢
  refine wpList_val (.slice (some ⟨g7, 0, none⟩) 32 cap) rfl (by refine lands_value (w := w6) ?_ h6; go_simp <;> rfl) ?_
  intro w8 h8
  simp only [pu]
  clear h6
  refine wpList_nil ?_
  with_reducible (apply tn; go_at_K; go_step; apply wp_seq_k; intro _ _; apply wp_seq_k; intro _ _)
  with_reducible apply wp_region_lit
  refine wpList_val (.pointer (some ⟨w.heap.size, 0, none⟩)) rfl (by refine lands_value (w := w8) ?_ h8; go_simp) ?_
  intro w9 h9
  simp only [pu]
  clear h8
  refine wpList_val (.agg (r64 4 (F4 P.x))) rfl (by exact lands_num 0 _ _ rfl _ 2 _ rfl _ (h9.blk _ m0) (by decide) _ Tryz.underlying40 rfl (by kernel_rfl) h9) ?_
  intro w10 h10
  simp only [pu]
  clear h9
  refine wpList_val (.bool true) rfl (by exact h10.call (HOD.out w10) (by go_simp)) ?_
  intro w11 h11
  simp only [pu]
  clear h10
  refine wpList_nil ?_
  with_reducible (apply tn; go_at_K; go_step)
  refine wp_cond_true rfl ?_
  have hX := h11.x
  have hBl := h11.k.b
  have c31 := hX.c 31 (by decide)
  have f31 := hX.fz 31 (by decide)
  rw [byteS_bytesV _ _ (by decide)] at c31
  have h128 := byte_high hC.y
  have hor := or128 _ h128
  have hX2 := hX.put (k := 31) (by decide) ((byteK P.y 31 : Int) + 128)
  have hend := bytes_end hX2 (P.y + B255) (fun j hj => by
      rw [byte_odd hC.y j hj]
      by_cases h1 : j = 31
      · subst h1; rw [if_pos rfl, if_pos rfl]; omega
      · rw [if_neg h1, if_neg h1, byteS_bytesV _ _ hj]) cap
  rw [show ((byteK P.y 31 + 128 : Nat) : Int) = (byteK P.y 31 : Int) + 128 by omega] at hor
  generalize byteK P.y 31 = z at c31 hor hend h128 hX2
  generalize hS : bytesV (P.y + B255) = t at hend
  clear h11 hX hX2 HYB HOD
  go_wp2_with fail
  exact bodyPost_ret (results_tmp2 rfl _ _ _) rfl ⟨by rw [hS]; rfl, hBl.setCell hge _⟩
set_option maxRecDepth 100000 in
set_option maxHeartbeats 1000000 in
theorem qenc_f (P : Pt) (hC : onC P) (hb : oddP P.x = false) (w : World) :
    Calls Tryz.prog 25 #[.agg (nums 2 (two P.x P.y))] w fun e w' => e = .returned (.tuple #[.string (bytesV P.y), .bool true]) ∧ Below w.heap.size w w' := by
  have hP := hC.ok
  have HYB := Lib.hid (fun w => fbytes_is P.y (bytesV P.y) w hP.y (by rw [Nat.mod_eq_of_lt hC.y]))
  have HOD := Lib.hid (fun w => foddB P.x w hP.x false hb)
  go_enter Tryz.func25, Tryz.ntmps25
  with_reducible (apply wp_seq_k; intro _ _)
  have h1 := KD.begin w
  with_reducible apply wp_region_lit
  refine wA h1 (box_run _ _ _ rfl rfl _) fun w2 h2 => ?_
  simp only [pu]
  clear h1
  refine wV (.string ⟨#[]⟩) ?_
  simp only [pu]
  refine wV (.bool false) ?_
  simp only [pu]
  refine wpList_nil ?_
  with_reducible (apply tn; go_at_K; go_step; apply wp_seq_k; intro _ _; apply wp_seq_k; intro _ _)
  obtain ⟨n3, hn3⟩ : ∃ n, n = w2.heap.size := ⟨_, rfl⟩
  refine wp_region_anyE (KM w.heap.size n3 w (fun _ _ => [(w.heap.size, 42, nums 2 (two P.x P.y))]) 1000 1001 []) (fun _ => false) (by kernel_rfl) (KM.begin h2 hn3 (lows hn3 h2 (fun _ _ => rfl)) _) ?_
  refine kW 0 (.agg (nums 2 (two P.x P.y))) rfl (fun qv L wx hT => ?_) ?_
  · exact lands_load _ _ rfl _ rfl _ _ _ (hT.k.blk _ m0) Tryz.underlying42 rfl (by kernel_rfl) hT
  simp only [pu]
  refine kC 1 rfl (fun wx => qcounted_t P hP.x hP.y (onB_C.2 hC) wx) ?_
  simp only [pu]
  refine kW 2 (.agg (nums 2 (two P.x P.y))) rfl (fun qv L wx hT => ?_) ?_
  · exact lands_load _ _ rfl _ rfl _ _ _ (hT.k.blk _ m0) Tryz.underlying42 rfl (by kernel_rfl) hT
  simp only [pu]
  refine kW 3 (.bool false) rfl (fun qv L wx hT => ?_) ?_
  · exact lands_neqP _ _ rfl P P rfl rfl hP hP false (by rw [eqP_iff.2 rfl]; rfl) hT
  simp only [pu]
  refine anyE_done (by kernel_rfl) (fun qv w4 hK => ?_) _
  have hE := hK.outs (by kernel_rfl) (by kernel_rfl)  (b := false) (c := false) (by kernel_rfl) (by kernel_rfl)
  clear hK h2 hn3
  have h4 : KD w.heap.size w [(w.heap.size, 42, nums 2 (two P.x P.y))] w4 := hE.k
  clear hE
  clear n3
  clear qv
  with_reducible (apply tn; go_at_K; go_step)
  refine wp_cond_false rfl ?_
  with_reducible (apply wp_skip; apply tn; go_at_K; go_step; apply wp_seq_k; intro _ _)
  with_reducible apply wp_region_lit
  refine wV (.pointer (some ⟨w.heap.size, 4, none⟩)) ?_
  simp only [pu]
  refine wL (.agg (r64 4 (F4 P.y))) (by exact lands_num 1 _ _ rfl _ 2 _ rfl _ (h4.blk _ m0) (by decide) _ Tryz.underlying40 rfl (by kernel_rfl) rfl) ?_
  simp only [pu]
  refine wC h4 (HYB.out w4) fun w5 h5 => ?_
  simp only [pu]
  clear h4
  obtain ⟨cap, W1, hcv, hX, hB⟩ := bytes_start (bytesV P.y) w5 (bytesV_size _)
  refine wpList_val (R := KC (fun j => (byteS (bytesV P.y) j : Int)) w5.heap.size w.heap.size w [(w.heap.size, 42, nums 2 (two P.x P.y))]) (.slice (some ⟨w5.heap.size, 0, none⟩) 32 cap) rfl (lands_convert _ _ _ rfl rfl hcv ⟨h5.below hB, hX⟩) ?_
  have hge := h5.lo
  intro w6 h6
  simp only [pu]
  clear hcv hX hB W1 h5
  generalize w5.heap.size = g7 at h6 hge ⊢
  refine wpList_val (.slice (some ⟨g7, 0, none⟩) 32 cap) rfl (by refine lands_value (w := w6) ?_ h6; go_simp <;> rfl) ?_
  intro w8 h8
  simp only [pu]
  clear h6
  refine wpList_nil ?_
  with_reducible (apply tn; go_at_K; go_step; apply wp_seq_k; intro _ _; apply wp_seq_k; intro _ _)
  with_reducible apply wp_region_lit
  refine wpList_val (.pointer (some ⟨w.heap.size, 0, none⟩)) rfl (by refine lands_value (w := w8) ?_ h8; go_simp) ?_
  intro w9 h9
  simp only [pu]
  clear h8
  refine wpList_val (.agg (r64 4 (F4 P.x))) rfl (by exact lands_num 0 _ _ rfl _ 2 _ rfl _ (h9.blk _ m0) (by decide) _ Tryz.underlying40 rfl (by kernel_rfl) h9) ?_
  intro w10 h10
  simp only [pu]
  clear h9
  refine wpList_val (.bool false) rfl (by exact h10.call (HOD.out w10) (by go_simp)) ?_
  intro w11 h11
  simp only [pu]
  clear h10
  refine wpList_nil ?_
  with_reducible (apply tn; go_at_K; go_step)
  refine wp_cond_false rfl ?_
  with_reducible (apply wp_skip; apply tn; go_at_K; go_step; apply wp_seq_k; intro _ _)
  have hX := h11.x
  have hBl := h11.k.b
  have hend := bytes_end hX P.y (fun j hj => by rw [byteS_bytesV _ _ hj]) cap
  generalize hS : bytesV P.y = t at hend
  clear h11 hX HYB HOD
  go_wp2_with fail
  exact bodyPost_ret (results_tmp2 rfl _ _ _) rfl ⟨by rw [hS]; rfl, hBl⟩
set_option maxRecDepth 100000 in
set_option maxHeartbeats 400000 in
theorem qenc_off (P : Pt) (hP : P.ok) (ho : onB P = false) (w : World) :
    Calls Tryz.prog 25 #[.agg (nums 2 (two P.x P.y))] w fun e w' => e = .returned (.tuple #[.string ⟨#[]⟩, .bool false]) ∧ Below w.heap.size w w' := by
  go_enter Tryz.func25, Tryz.ntmps25
  with_reducible (apply wp_seq_k; intro _ _)
  have h1 := KD.begin w
  with_reducible apply wp_region_lit
  refine wA h1 (box_run _ _ _ rfl rfl _) fun w2 h2 => ?_
  simp only [pu]
  clear h1
  refine wV (.string ⟨#[]⟩) ?_
  simp only [pu]
  refine wV (.bool false) ?_
  simp only [pu]
  refine wpList_nil ?_
  with_reducible (apply tn; go_at_K; go_step; apply wp_seq_k; intro _ _; apply wp_seq_k; intro _ _)
  obtain ⟨n3, hn3⟩ : ∃ n, n = w2.heap.size := ⟨_, rfl⟩
  refine wp_region_anyE (KM w.heap.size n3 w (fun _ _ => [(w.heap.size, 42, nums 2 (two P.x P.y))]) 1000 1001 []) (fun _ => false) (by kernel_rfl) (KM.begin h2 hn3 (lows hn3 h2 (fun _ _ => rfl)) _) ?_
  refine kW 0 (.agg (nums 2 (two P.x P.y))) rfl (fun qv L wx hT => ?_) ?_
  · exact lands_load _ _ rfl _ rfl _ _ _ (hT.k.blk _ m0) Tryz.underlying42 rfl (by kernel_rfl) hT
  simp only [pu]
  refine kC 1 rfl (fun wx => qcounted_f P hP.x hP.y ho wx) ?_
  simp only [pu]
  refine kW 2 (.agg (nums 2 (two P.x P.y))) rfl (fun qv L wx hT => ?_) ?_
  · exact lands_load _ _ rfl _ rfl _ _ _ (hT.k.blk _ m0) Tryz.underlying42 rfl (by kernel_rfl) hT
  simp only [pu]
  refine kW 3 (.bool true) rfl (fun qv L wx hT => ?_) ?_
  · exact lands_neqP _ _ rfl pZ P rfl rfl pZ_on.ok hP true (by rw [eqP_off ho]; rfl) hT
  simp only [pu]
  refine anyE_done (by kernel_rfl) (fun qv w4 hK => ?_) _
  have hE := hK.outs (by kernel_rfl) (by kernel_rfl)  (b := false) (c := false) (by kernel_rfl) (by kernel_rfl)
  clear hK h2 hn3
  have h4 : KD w.heap.size w [(w.heap.size, 42, nums 2 (two P.x P.y))] w4 := hE.k
  clear hE
  clear n3
  clear qv
  with_reducible (apply tn; go_at_K; go_step)
  refine wp_cond_true rfl ?_
  with_reducible (apply wp_seq_k; intro _ _)
  with_reducible apply wp_region_lit
  refine wV (.string ⟨#[]⟩) ?_
  simp only [pu]
  refine wV (.bool false) ?_
  simp only [pu]
  refine wpList_nil ?_
  with_reducible (apply tn; go_at_K; go_step)
  with_reducible apply wp_ret
  repeat (first | with_reducible apply then_ret | with_reducible apply block_ret)
  exact bodyPost_ret (results_tmp2 rfl _ _ _) rfl ⟨rfl, h4.b⟩
theorem qenc_any (P : Pt) (hP : P.ok) (w : World) :
    Calls Tryz.prog 25 #[.agg (nums 2 (two P.x P.y))] w fun e w' => e = .returned (.tuple #[.string (encV P).1, .bool (encV P).2]) ∧ Below w.heap.size w w' := by
  cases ho : onB P with
  | true =>
    rw [encV_on ho]
    cases hb : oddP P.x with
    | true => rw [encN_odd hb]; exact qenc_t P (onB_C.1 ho) hb w
    | false => rw [encN_even hb]; exact qenc_f P (onB_C.1 ho) hb w
  | false => rw [encV_off ho]; exact qenc_off P hP ho w
set_option maxRecDepth 100000 in
set_option maxHeartbeats 1000000 in
theorem renc_t (P : Pt) (hC : onC P) (hb : oddP P.x = true) (w : World) :
    Calls Tryz.prog 35 #[.agg (nums 2 (two P.x P.y))] w fun e w' => e = .returned (.tuple #[.string (bytesV (P.y + B255)), .bool true]) ∧ Below w.heap.size w w' := by
  have hP := hC.ok
  have HYB := Lib.hid (fun w => rbytes_is P.y (bytesV P.y) w hP.y (by rw [Nat.mod_eq_of_lt hC.y]))
  have HOD := Lib.hid (fun w => rodd_is P.x w hP.x true hb)
  go_enter Tryz.func35, Tryz.ntmps35
  with_reducible (apply wp_seq_k; intro _ _)
  have h1 := KD.begin w
  with_reducible apply wp_region_lit
  refine wA h1 (box_run _ _ _ rfl rfl _) fun w2 h2 => ?_
  simp only [pu]
  clear h1
  refine wV (.string ⟨#[]⟩) ?_
  simp only [pu]
  refine wV (.bool false) ?_
  simp only [pu]
  refine wpList_nil ?_
  with_reducible (apply tn; go_at_K; go_step; apply wp_seq_k; intro _ _; apply wp_seq_k; intro _ _)
  with_reducible apply wp_region_lit
  refine wL (.agg (nums 2 (two P.x P.y))) (by exact lands_load _ _ rfl _ rfl _ _ _ (h2.blk _ m0) Tryz.underlying42 rfl (by kernel_rfl) rfl) ?_
  simp only [pu]
  refine wC h2 (ron_is P hP.x hP.y true (onB_C.2 hC) w2) fun w3 h3 => ?_
  simp only [pu]
  clear h2
  refine wV (.bool false) ?_
  simp only [pu]
  refine wpList_nil ?_
  with_reducible (apply tn; go_at_K; go_step)
  refine wp_cond_false rfl ?_
  with_reducible (apply wp_skip; apply tn; go_at_K; go_step; apply wp_seq_k; intro _ _)
  with_reducible apply wp_region_lit
  refine wV (.pointer (some ⟨w.heap.size, 4, none⟩)) ?_
  simp only [pu]
  refine wL (.agg (r64 4 (F4 P.y))) (by exact lands_num 1 _ _ rfl _ 2 _ rfl _ (h3.blk _ m0) (by decide) _ Tryz.underlying40 rfl (by kernel_rfl) rfl) ?_
  simp only [pu]
  refine wC h3 (HYB.out w3) fun w4 h4 => ?_
  simp only [pu]
  clear h3
  obtain ⟨cap, W1, hcv, hX, hB⟩ := bytes_start (bytesV P.y) w4 (bytesV_size _)
  refine wpList_val (R := KC (fun j => (byteS (bytesV P.y) j : Int)) w4.heap.size w.heap.size w [(w.heap.size, 42, nums 2 (two P.x P.y))]) (.slice (some ⟨w4.heap.size, 0, none⟩) 32 cap) rfl (lands_convert _ _ _ rfl rfl hcv ⟨h4.below hB, hX⟩) ?_
  have hge := h4.lo
  intro w5 h5
  simp only [pu]
  clear hcv hX hB W1 h4
  generalize w4.heap.size = g6 at h5 hge ⊢
  refine wpList_val (.slice (some ⟨g6, 0, none⟩) 32 cap) rfl (by refine lands_value (w := w5) ?_ h5; go_simp <;> rfl) ?_
  intro w7 h7
  simp only [pu]
  clear h5
  refine wpList_nil ?_
  with_reducible (apply tn; go_at_K; go_step; apply wp_seq_k; intro _ _; apply wp_seq_k; intro _ _)
  with_reducible apply wp_region_lit
  refine wpList_val (.pointer (some ⟨w.heap.size, 0, none⟩)) rfl (by refine lands_value (w := w7) ?_ h7; go_simp) ?_
  intro w8 h8
  simp only [pu]
  clear h7
  refine wpList_val (.agg (r64 4 (F4 P.x))) rfl (by exact lands_num 0 _ _ rfl _ 2 _ rfl _ (h8.blk _ m0) (by decide) _ Tryz.underlying40 rfl (by kernel_rfl) h8) ?_
  intro w9 h9
  simp only [pu]
  clear h8
  refine wpList_val (.bool true) rfl (by exact h9.call (HOD.out w9) (by go_simp)) ?_
  intro w10 h10
  simp only [pu]
  clear h9
  refine wpList_nil ?_
  with_reducible (apply tn; go_at_K; go_step)
  refine wp_cond_true rfl ?_
  have hX := h10.x
  have hBl := h10.k.b
  have c31 := hX.c 31 (by decide)
  have f31 := hX.fz 31 (by decide)
  rw [byteS_bytesV _ _ (by decide)] at c31
  have h128 := byte_high hC.y
  have hor := or128 _ h128
  have hX2 := hX.put (k := 31) (by decide) ((byteK P.y 31 : Int) + 128)
  have hend := bytes_end hX2 (P.y + B255) (fun j hj => by
      rw [byte_odd hC.y j hj]
      by_cases h1 : j = 31
      · subst h1; rw [if_pos rfl, if_pos rfl]; omega
      · rw [if_neg h1, if_neg h1, byteS_bytesV _ _ hj]) cap
  rw [show ((byteK P.y 31 + 128 : Nat) : Int) = (byteK P.y 31 : Int) + 128 by omega] at hor
  generalize byteK P.y 31 = z at c31 hor hend h128 hX2
  generalize hS : bytesV (P.y + B255) = t at hend
  clear h10 hX hX2 HYB HOD
  go_wp2_with fail
  exact bodyPost_ret (results_tmp2 rfl _ _ _) rfl ⟨by rw [hS]; rfl, hBl.setCell hge _⟩
set_option maxRecDepth 100000 in
set_option maxHeartbeats 1000000 in
theorem renc_f (P : Pt) (hC : onC P) (hb : oddP P.x = false) (w : World) :
    Calls Tryz.prog 35 #[.agg (nums 2 (two P.x P.y))] w fun e w' => e = .returned (.tuple #[.string (bytesV P.y), .bool true]) ∧ Below w.heap.size w w' := by
  have hP := hC.ok
  have HYB := Lib.hid (fun w => rbytes_is P.y (bytesV P.y) w hP.y (by rw [Nat.mod_eq_of_lt hC.y]))
  have HOD := Lib.hid (fun w => rodd_is P.x w hP.x false hb)
  go_enter Tryz.func35, Tryz.ntmps35
  with_reducible (apply wp_seq_k; intro _ _)
  have h1 := KD.begin w
  with_reducible apply wp_region_lit
  refine wA h1 (box_run _ _ _ rfl rfl _) fun w2 h2 => ?_
  simp only [pu]
  clear h1
  refine wV (.string ⟨#[]⟩) ?_
  simp only [pu]
  refine wV (.bool false) ?_
  simp only [pu]
  refine wpList_nil ?_
  with_reducible (apply tn; go_at_K; go_step; apply wp_seq_k; intro _ _; apply wp_seq_k; intro _ _)
  with_reducible apply wp_region_lit
  refine wL (.agg (nums 2 (two P.x P.y))) (by exact lands_load _ _ rfl _ rfl _ _ _ (h2.blk _ m0) Tryz.underlying42 rfl (by kernel_rfl) rfl) ?_
  simp only [pu]
  refine wC h2 (ron_is P hP.x hP.y true (onB_C.2 hC) w2) fun w3 h3 => ?_
  simp only [pu]
  clear h2
  refine wV (.bool false) ?_
  simp only [pu]
  refine wpList_nil ?_
  with_reducible (apply tn; go_at_K; go_step)
  refine wp_cond_false rfl ?_
  with_reducible (apply wp_skip; apply tn; go_at_K; go_step; apply wp_seq_k; intro _ _)
  with_reducible apply wp_region_lit
  refine wV (.pointer (some ⟨w.heap.size, 4, none⟩)) ?_
  simp only [pu]
  refine wL (.agg (r64 4 (F4 P.y))) (by exact lands_num 1 _ _ rfl _ 2 _ rfl _ (h3.blk _ m0) (by decide) _ Tryz.underlying40 rfl (by kernel_rfl) rfl) ?_
  simp only [pu]
  refine wC h3 (HYB.out w3) fun w4 h4 => ?_
  simp only [pu]
  clear h3
  obtain ⟨cap, W1, hcv, hX, hB⟩ := bytes_start (bytesV P.y) w4 (bytesV_size _)
  refine wpList_val (R := KC (fun j => (byteS (bytesV P.y) j : Int)) w4.heap.size w.heap.size w [(w.heap.size, 42, nums 2 (two P.x P.y))]) (.slice (some ⟨w4.heap.size, 0, none⟩) 32 cap) rfl (lands_convert _ _ _ rfl rfl hcv ⟨h4.below hB, hX⟩) ?_
  have hge := h4.lo
  intro w5 h5
  simp only [pu]
  clear hcv hX hB W1 h4
  generalize w4.heap.size = g6 at h5 hge ⊢
  refine wpList_val (.slice (some ⟨g6, 0, none⟩) 32 cap) rfl (by refine lands_value (w := w5) ?_ h5; go_simp <;> rfl) ?_
  intro w7 h7
  simp only [pu]
  clear h5
  refine wpList_nil ?_
  with_reducible (apply tn; go_at_K; go_step; apply wp_seq_k; intro _ _; apply wp_seq_k; intro _ _)
  with_reducible apply wp_region_lit
  refine wpList_val (.pointer (some ⟨w.heap.size, 0, none⟩)) rfl (by refine lands_value (w := w7) ?_ h7; go_simp) ?_
  intro w8 h8
  simp only [pu]
  clear h7
  refine wpList_val (.agg (r64 4 (F4 P.x))) rfl (by exact lands_num 0 _ _ rfl _ 2 _ rfl _ (h8.blk _ m0) (by decide) _ Tryz.underlying40 rfl (by kernel_rfl) h8) ?_
  intro w9 h9
  simp only [pu]
  clear h8
  refine wpList_val (.bool false) rfl (by exact h9.call (HOD.out w9) (by go_simp)) ?_
  intro w10 h10
  simp only [pu]
  clear h9
  refine wpList_nil ?_
  with_reducible (apply tn; go_at_K; go_step)
  refine wp_cond_false rfl ?_
  with_reducible (apply wp_skip; apply tn; go_at_K; go_step; apply wp_seq_k; intro _ _)
  have hX := h10.x
  have hBl := h10.k.b
  have hend := bytes_end hX P.y (fun j hj => by rw [byteS_bytesV _ _ hj]) cap
  generalize hS : bytesV P.y = t at hend
  clear h10 hX HYB HOD
  go_wp2_with fail
  exact bodyPost_ret (results_tmp2 rfl _ _ _) rfl ⟨by rw [hS]; rfl, hBl⟩
set_option maxRecDepth 100000 in
set_option maxHeartbeats 400000 in
theorem renc_off (P : Pt) (hP : P.ok) (ho : onB P = false) (w : World) :
    Calls Tryz.prog 35 #[.agg (nums 2 (two P.x P.y))] w fun e w' => e = .returned (.tuple #[.string ⟨#[]⟩, .bool false]) ∧ Below w.heap.size w w' := by
  go_enter Tryz.func35, Tryz.ntmps35
  with_reducible (apply wp_seq_k; intro _ _)
  have h1 := KD.begin w
  with_reducible apply wp_region_lit
  refine wA h1 (box_run _ _ _ rfl rfl _) fun w2 h2 => ?_
  simp only [pu]
  clear h1
  refine wV (.string ⟨#[]⟩) ?_
  simp only [pu]
  refine wV (.bool false) ?_
  simp only [pu]
  refine wpList_nil ?_
  with_reducible (apply tn; go_at_K; go_step; apply wp_seq_k; intro _ _; apply wp_seq_k; intro _ _)
  with_reducible apply wp_region_lit
  refine wL (.agg (nums 2 (two P.x P.y))) (by exact lands_load _ _ rfl _ rfl _ _ _ (h2.blk _ m0) Tryz.underlying42 rfl (by kernel_rfl) rfl) ?_
  simp only [pu]
  refine wC h2 (ron_is P hP.x hP.y false ho w2) fun w3 h3 => ?_
  simp only [pu]
  clear h2
  refine wV (.bool true) ?_
  simp only [pu]
  refine wpList_nil ?_
  with_reducible (apply tn; go_at_K; go_step)
  refine wp_cond_true rfl ?_
  with_reducible (apply wp_seq_k; intro _ _)
  with_reducible apply wp_region_lit
  refine wV (.string ⟨#[]⟩) ?_
  simp only [pu]
  refine wV (.bool false) ?_
  simp only [pu]
  refine wpList_nil ?_
  with_reducible (apply tn; go_at_K; go_step)
  with_reducible apply wp_ret
  repeat (first | with_reducible apply then_ret | with_reducible apply block_ret)
  exact bodyPost_ret (results_tmp2 rfl _ _ _) rfl ⟨rfl, h3.b⟩
theorem renc_any (P : Pt) (hP : P.ok) (w : World) :
    Calls Tryz.prog 35 #[.agg (nums 2 (two P.x P.y))] w fun e w' => e = .returned (.tuple #[.string (encV P).1, .bool (encV P).2]) ∧ Below w.heap.size w w' := by
  cases ho : onB P with
  | true =>
    rw [encV_on ho]
    cases hb : oddP P.x with
    | true => rw [encN_odd hb]; exact renc_t P (onB_C.1 ho) hb w
    | false => rw [encN_even hb]; exact renc_f P (onB_C.1 ho) hb w
  | false => rw [encV_off ho]; exact renc_off P hP ho w
end Go.Proofs.YtggalphgnloneaaGreat
