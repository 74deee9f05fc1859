/- Encode of the layer point and of its reference. (written by mkQ4.py) -/
import Derived.Test.YtggalphgnloneaaGreatQv
import Derived.Test.YtggalphgnloneaaGreatQr
namespace Go.Proofs.YtggalphgnloneaaGreat
open Go.RowKit
set_option maxRecDepth 100000 in
set_option maxHeartbeats 1000000 in
theorem qenc_t (P : Pt) (hC : onC P) (hb : oddP P.x = true) (w : World) :
    Calls Tryz.prog 25 #[.agg (nums 2 (two P.x P.y))] w fun e w' => e = .returned (.tuple #[.string (bytesV (P.y + B255)), .bool true]) ∧ Below w.heap.size w w' := by
  have hP := hC.ok
  have HYB := Lib.hid (fun w => fbytes_is P.y (bytesV P.y) w hP.y (by rw [Nat.mod_eq_of_lt hC.y]))
  have HOD := Lib.hid (fun w => foddB P.x w hP.x true hb)
  go_enter Tryz.func25, Tryz.ntmps25
  repeat with_reducible (first | (apply wp_seq_k; intro _ _) | (go_at_K; go_step) | apply tn | apply wp_block | apply wp_skip | apply wp_exit | apply then_exit | apply block_normal | apply block_same | exact block_far rfl ?_)
  have h1 := KD.begin w
  with_reducible apply wp_region_lit
  refine wpList_val (R := KD w.heap.size w [(w.heap.size, 42, nums 2 (two P.x P.y))]) (.pointer (some ⟨w.heap.size, 0, none⟩)) rfl (lands_run2 (box_run _ _ _ rfl rfl _) (h1.add _ _)) ?_
  intro w2 h2
  simp only [pu]
  clear h1
  refine wpList_val (.string ⟨#[]⟩) rfl (by refine lands_value (w := w2) ?_ h2; go_simp <;> rfl) ?_
  intro w3 h3
  simp only [pu]
  clear h2
  refine wpList_val (.bool false) rfl (by refine lands_value (w := w3) ?_ h3; go_simp <;> rfl) ?_
  intro w4 h4
  simp only [pu]
  clear h3
  refine wpList_nil ?_
  repeat with_reducible (first | (apply wp_seq_k; intro _ _) | (go_at_K; go_step) | apply tn | apply wp_block | apply wp_skip | apply wp_exit | apply then_exit | apply block_normal | apply block_same | exact block_far rfl ?_)
  obtain ⟨n5, hn5⟩ : ∃ n, n = w4.heap.size := ⟨_, rfl⟩
  refine wp_region_anyE (KM w.heap.size n5 w (fun _ _ => [(w.heap.size, 42, nums 2 (two P.x P.y))]) 1000 1001 []) (fun _ => false) (by kernel_rfl) (KM.begin h4 hn5 (lows hn5 h4 (fun _ _ => rfl)) _) ?_
  refine kO 0 (.agg (nums 2 (two P.x P.y))) rfl rfl rfl (fun _ => rfl) (fun qv L wx hT => ?_) ?_
  · exact lands_load _ _ rfl _ rfl _ _ _ (hT.k.blk _ m0) Tryz.underlying42 rfl (by kernel_rfl) hT
  simp only [pu]
  refine kO 1 (.agg (nums 2 (two P.x P.y))) rfl rfl rfl (fun _ => rfl) (fun qv L wx hT => ?_) ?_
  · exact hT.call (qcounted_t P hP.x hP.y (onB_C.2 hC) wx) (by go_simp)
  simp only [pu]
  refine kO 2 (.agg (nums 2 (two P.x P.y))) rfl rfl rfl (fun _ => rfl) (fun qv L wx hT => ?_) ?_
  · exact lands_load _ _ rfl _ rfl _ _ _ (hT.k.blk _ m0) Tryz.underlying42 rfl (by kernel_rfl) hT
  simp only [pu]
  refine kO 3 (.bool false) rfl rfl rfl (fun _ => rfl) (fun qv L wx hT => ?_) ?_
  · exact lands_neqP _ _ rfl P P rfl rfl hP hP false (by rw [eqP_iff.2 rfl]; rfl) hT
  simp only [pu]
  refine anyE_done (by kernel_rfl) (fun qv w6 hK => ?_) _
  have hE := hK.outs (by kernel_rfl) (by kernel_rfl)  (b := false) (c := false) (by kernel_rfl) (by kernel_rfl)
  clear hK h4 hn5
  have h6 : KD w.heap.size w [(w.heap.size, 42, nums 2 (two P.x P.y))] w6 := hE.k
  clear hE
  clear n5
  clear qv
  repeat with_reducible (first | (apply wp_seq_k; intro _ _) | (go_at_K; go_step) | apply tn | apply wp_block | apply wp_skip | apply wp_exit | apply then_exit | apply block_normal | apply block_same | exact block_far rfl ?_)
  refine wp_cond_false rfl ?_
  repeat with_reducible (first | (apply wp_seq_k; intro _ _) | (go_at_K; go_step) | apply tn | apply wp_block | apply wp_skip | apply wp_exit | apply then_exit | apply block_normal | apply block_same | exact block_far rfl ?_)
  with_reducible apply wp_region_lit
  refine wpList_val (.pointer (some ⟨w.heap.size, 4, none⟩)) rfl (by refine lands_value (w := w6) ?_ h6; go_simp) ?_
  intro w7 h7
  simp only [pu]
  clear h6
  refine wpList_val (.agg (r64 4 (F4 P.y))) rfl (by exact lands_num 1 _ _ rfl _ 2 _ rfl _ (h7.blk _ m0) (by decide) _ Tryz.underlying40 rfl (by kernel_rfl) h7) ?_
  intro w8 h8
  simp only [pu]
  clear h7
  refine wpList_val (.string (bytesV P.y)) rfl (by exact h8.call (HYB.out w8) (by go_simp)) ?_
  intro w9 h9
  simp only [pu]
  clear h8
  obtain ⟨cap, W1, hcv, hX, hB⟩ := bytes_start (bytesV P.y) w9 (bytesV_size _)
  refine wpList_val (R := KC (fun j => (byteS (bytesV P.y) j : Int)) w9.heap.size w.heap.size w [(w.heap.size, 42, nums 2 (two P.x P.y))]) (.slice (some ⟨w9.heap.size, 0, none⟩) 32 cap) rfl (lands_convert _ _ _ rfl rfl hcv ⟨h9.below hB, hX⟩) ?_
  have hge := h9.lo
  intro w10 h10
  simp only [pu]
  clear hcv hX hB W1 h9
  generalize w9.heap.size = g11 at h10 hge ⊢
  refine wpList_val (.slice (some ⟨g11, 0, none⟩) 32 cap) rfl (by refine lands_value (w := w10) ?_ h10; go_simp <;> rfl) ?_
  intro w12 h12
  simp only [pu]
  clear h10
  refine wpList_nil ?_
  repeat with_reducible (first | (apply wp_seq_k; intro _ _) | (go_at_K; go_step) | apply tn | apply wp_block | apply wp_skip | apply wp_exit | apply then_exit | apply block_normal | apply block_same | exact block_far rfl ?_)
  with_reducible apply wp_region_lit
  refine wpList_val (.pointer (some ⟨w.heap.size, 0, none⟩)) rfl (by refine lands_value (w := w12) ?_ h12; go_simp) ?_
  intro w13 h13
  simp only [pu]
  clear h12
  refine wpList_val (.agg (r64 4 (F4 P.x))) rfl (by exact lands_num 0 _ _ rfl _ 2 _ rfl _ (h13.blk _ m0) (by decide) _ Tryz.underlying40 rfl (by kernel_rfl) h13) ?_
  intro w14 h14
  simp only [pu]
  clear h13
  refine wpList_val (.bool true) rfl (by exact h14.call (HOD.out w14) (by go_simp)) ?_
  intro w15 h15
  simp only [pu]
  clear h14
  refine wpList_nil ?_
  repeat with_reducible (first | (apply wp_seq_k; intro _ _) | (go_at_K; go_step) | apply tn | apply wp_block | apply wp_skip | apply wp_exit | apply then_exit | apply block_normal | apply block_same | exact block_far rfl ?_)
  refine wp_cond_true rfl ?_
  repeat with_reducible (first | (apply wp_seq_k; intro _ _) | (go_at_K; go_step) | apply tn | apply wp_block | apply wp_skip | apply wp_exit | apply then_exit | apply block_normal | apply block_same | exact block_far rfl ?_)
  have hX := h15.x
  have hBl := h15.k.b
  have c31 := hX.c 31 (by decide)
  have f31 := hX.fz 31 (by decide)
  rw [byteS_bytesV _ _ (by decide)] at c31
  have h128 := byte_high hC.y
  have hor := or128 _ h128
  have hX2 := hX.put (k := 31) (by decide) ((byteK P.y 31 : Int) + 128)
  have hend := bytes_end hX2 (P.y + B255) (fun j hj => by
      rw [byte_odd hC.y j hj]
      by_cases h1 : j = 31
      · subst h1; rw [if_pos rfl, if_pos rfl]; omega
      · rw [if_neg h1, if_neg h1, byteS_bytesV _ _ hj]) cap
  rw [show ((byteK P.y 31 + 128 : Nat) : Int) = (byteK P.y 31 : Int) + 128 by omega] at hor
  generalize byteK P.y 31 = z at c31 hor hend h128 hX2
  generalize hS : bytesV (P.y + B255) = t at hend
  clear h15 hX hX2 HYB HOD
  go_wp2_with fail
  exact bodyPost_ret (results_tmp2 rfl _ _ _) rfl ⟨by rw [hS]; rfl, hBl.setCell hge _⟩
set_option maxRecDepth 100000 in
set_option maxHeartbeats 1000000 in
theorem qenc_f (P : Pt) (hC : onC P) (hb : oddP P.x = false) (w : World) :
    Calls Tryz.prog 25 #[.agg (nums 2 (two P.x P.y))] w fun e w' => e = .returned (.tuple #[.string (bytesV P.y), .bool true]) ∧ Below w.heap.size w w' := by
  have hP := hC.ok
  have HYB := Lib.hid (fun w => fbytes_is P.y (bytesV P.y) w hP.y (by rw [Nat.mod_eq_of_lt hC.y]))
  have HOD := Lib.hid (fun w => foddB P.x w hP.x false hb)
  go_enter Tryz.func25, Tryz.ntmps25
  repeat with_reducible (first | (apply wp_seq_k; intro _ _) | (go_at_K; go_step) | apply tn | apply wp_block | apply wp_skip | apply wp_exit | apply then_exit | apply block_normal | apply block_same | exact block_far rfl ?_)
  have h1 := KD.begin w
  with_reducible apply wp_region_lit
  refine wpList_val (R := KD w.heap.size w [(w.heap.size, 42, nums 2 (two P.x P.y))]) (.pointer (some ⟨w.heap.size, 0, none⟩)) rfl (lands_run2 (box_run _ _ _ rfl rfl _) (h1.add _ _)) ?_
  intro w2 h2
  simp only [pu]
  clear h1
  refine wpList_val (.string ⟨#[]⟩) rfl (by refine lands_value (w := w2) ?_ h2; go_simp <;> rfl) ?_
  intro w3 h3
  simp only [pu]
  clear h2
  refine wpList_val (.bool false) rfl (by refine lands_value (w := w3) ?_ h3; go_simp <;> rfl) ?_
  intro w4 h4
  simp only [pu]
  clear h3
  refine wpList_nil ?_
  repeat with_reducible (first | (apply wp_seq_k; intro _ _) | (go_at_K; go_step) | apply tn | apply wp_block | apply wp_skip | apply wp_exit | apply then_exit | apply block_normal | apply block_same | exact block_far rfl ?_)
  obtain ⟨n5, hn5⟩ : ∃ n, n = w4.heap.size := ⟨_, rfl⟩
  refine wp_region_anyE (KM w.heap.size n5 w (fun _ _ => [(w.heap.size, 42, nums 2 (two P.x P.y))]) 1000 1001 []) (fun _ => false) (by kernel_rfl) (KM.begin h4 hn5 (lows hn5 h4 (fun _ _ => rfl)) _) ?_
  refine kO 0 (.agg (nums 2 (two P.x P.y))) rfl rfl rfl (fun _ => rfl) (fun qv L wx hT => ?_) ?_
  · exact lands_load _ _ rfl _ rfl _ _ _ (hT.k.blk _ m0) Tryz.underlying42 rfl (by kernel_rfl) hT
  simp only [pu]
  refine kO 1 (.agg (nums 2 (two P.x P.y))) rfl rfl rfl (fun _ => rfl) (fun qv L wx hT => ?_) ?_
  · exact hT.call (qcounted_t P hP.x hP.y (onB_C.2 hC) wx) (by go_simp)
  simp only [pu]
  refine kO 2 (.agg (nums 2 (two P.x P.y))) rfl rfl rfl (fun _ => rfl) (fun qv L wx hT => ?_) ?_
  · exact lands_load _ _ rfl _ rfl _ _ _ (hT.k.blk _ m0) Tryz.underlying42 rfl (by kernel_rfl) hT
  simp only [pu]
  refine kO 3 (.bool false) rfl rfl rfl (fun _ => rfl) (fun qv L wx hT => ?_) ?_
  · exact lands_neqP _ _ rfl P P rfl rfl hP hP false (by rw [eqP_iff.2 rfl]; rfl) hT
  simp only [pu]
  refine anyE_done (by kernel_rfl) (fun qv w6 hK => ?_) _
  have hE := hK.outs (by kernel_rfl) (by kernel_rfl)  (b := false) (c := false) (by kernel_rfl) (by kernel_rfl)
  clear hK h4 hn5
  have h6 : KD w.heap.size w [(w.heap.size, 42, nums 2 (two P.x P.y))] w6 := hE.k
  clear hE
  clear n5
  clear qv
  repeat with_reducible (first | (apply wp_seq_k; intro _ _) | (go_at_K; go_step) | apply tn | apply wp_block | apply wp_skip | apply wp_exit | apply then_exit | apply block_normal | apply block_same | exact block_far rfl ?_)
  refine wp_cond_false rfl ?_
  repeat with_reducible (first | (apply wp_seq_k; intro _ _) | (go_at_K; go_step) | apply tn | apply wp_block | apply wp_skip | apply wp_exit | apply then_exit | apply block_normal | apply block_same | exact block_far rfl ?_)
  with_reducible apply wp_region_lit
  refine wpList_val (.pointer (some ⟨w.heap.size, 4, none⟩)) rfl (by refine lands_value (w := w6) ?_ h6; go_simp) ?_
  intro w7 h7
  simp only [pu]
  clear h6
  refine wpList_val (.agg (r64 4 (F4 P.y))) rfl (by exact lands_num 1 _ _ rfl _ 2 _ rfl _ (h7.blk _ m0) (by decide) _ Tryz.underlying40 rfl (by kernel_rfl) h7) ?_
  intro w8 h8
  simp only [pu]
  clear h7
  refine wpList_val (.string (bytesV P.y)) rfl (by exact h8.call (HYB.out w8) (by go_simp)) ?_
  intro w9 h9
  simp only [pu]
  clear h8
  obtain ⟨cap, W1, hcv, hX, hB⟩ := bytes_start (bytesV P.y) w9 (bytesV_size _)
  refine wpList_val (R := KC (fun j => (byteS (bytesV P.y) j : Int)) w9.heap.size w.heap.size w [(w.heap.size, 42, nums 2 (two P.x P.y))]) (.slice (some ⟨w9.heap.size, 0, none⟩) 32 cap) rfl (lands_convert _ _ _ rfl rfl hcv ⟨h9.below hB, hX⟩) ?_
  have hge := h9.lo
  intro w10 h10
  simp only [pu]
  clear hcv hX hB W1 h9
  generalize w9.heap.size = g11 at h10 hge ⊢
  refine wpList_val (.slice (some ⟨g11, 0, none⟩) 32 cap) rfl (by refine lands_value (w := w10) ?_ h10; go_simp <;> rfl) ?_
  intro w12 h12
  simp only [pu]
  clear h10
  refine wpList_nil ?_
  repeat with_reducible (first | (apply wp_seq_k; intro _ _) | (go_at_K; go_step) | apply tn | apply wp_block | apply wp_skip | apply wp_exit | apply then_exit | apply block_normal | apply block_same | exact block_far rfl ?_)
  with_reducible apply wp_region_lit
  refine wpList_val (.pointer (some ⟨w.heap.size, 0, none⟩)) rfl (by refine lands_value (w := w12) ?_ h12; go_simp) ?_
  intro w13 h13
  simp only [pu]
  clear h12
  refine wpList_val (.agg (r64 4 (F4 P.x))) rfl (by exact lands_num 0 _ _ rfl _ 2 _ rfl _ (h13.blk _ m0) (by decide) _ Tryz.underlying40 rfl (by kernel_rfl) h13) ?_
  intro w14 h14
  simp only [pu]
  clear h13
  refine wpList_val (.bool false) rfl (by exact h14.call (HOD.out w14) (by go_simp)) ?_
  intro w15 h15
  simp only [pu]
  clear h14
  refine wpList_nil ?_
  repeat with_reducible (first | (apply wp_seq_k; intro _ _) | (go_at_K; go_step) | apply tn | apply wp_block | apply wp_skip | apply wp_exit | apply then_exit | apply block_normal | apply block_same | exact block_far rfl ?_)
  refine wp_cond_false rfl ?_
  repeat with_reducible (first | (apply wp_seq_k; intro _ _) | (go_at_K; go_step) | apply tn | apply wp_block | apply wp_skip | apply wp_exit | apply then_exit | apply block_normal | apply block_same | exact block_far rfl ?_)
  have hX := h15.x
  have hBl := h15.k.b
  have hend := bytes_end hX P.y (fun j hj => by rw [byteS_bytesV _ _ hj]) cap
  generalize hS : bytesV P.y = t at hend
  clear h15 hX HYB HOD
  go_wp2_with fail
  exact bodyPost_ret (results_tmp2 rfl _ _ _) rfl ⟨by rw [hS]; rfl, hBl⟩
set_option maxRecDepth 100000 in
set_option maxHeartbeats 400000 in
theorem qenc_off (P : Pt) (hP : P.ok) (ho : onB P = false) (w : World) :
    Calls Tryz.prog 25 #[.agg (nums 2 (two P.x P.y))] w fun e w' => e = .returned (.tuple #[.string ⟨#[]⟩, .bool false]) ∧ Below w.heap.size w w' := by
  go_enter Tryz.func25, Tryz.ntmps25
  repeat with_reducible (first | (apply wp_seq_k; intro _ _) | (go_at_K; go_step) | apply tn | apply wp_block | apply wp_skip | apply wp_exit | apply then_exit | apply block_normal | apply block_same | exact block_far rfl ?_)
  have h1 := KD.begin w
  with_reducible apply wp_region_lit
  refine wpList_val (R := KD w.heap.size w [(w.heap.size, 42, nums 2 (two P.x P.y))]) (.pointer (some ⟨w.heap.size, 0, none⟩)) rfl (lands_run2 (box_run _ _ _ rfl rfl _) (h1.add _ _)) ?_
  intro w2 h2
  simp only [pu]
  clear h1
  refine wpList_val (.string ⟨#[]⟩) rfl (by refine lands_value (w := w2) ?_ h2; go_simp <;> rfl) ?_
  intro w3 h3
  simp only [pu]
  clear h2
  refine wpList_val (.bool false) rfl (by refine lands_value (w := w3) ?_ h3; go_simp <;> rfl) ?_
  intro w4 h4
  simp only [pu]
  clear h3
  refine wpList_nil ?_
  repeat with_reducible (first | (apply wp_seq_k; intro _ _) | (go_at_K; go_step) | apply tn | apply wp_block | apply wp_skip | apply wp_exit | apply then_exit | apply block_normal | apply block_same | exact block_far rfl ?_)
  obtain ⟨n5, hn5⟩ : ∃ n, n = w4.heap.size := ⟨_, rfl⟩
  refine wp_region_anyE (KM w.heap.size n5 w (fun _ _ => [(w.heap.size, 42, nums 2 (two P.x P.y))]) 1000 1001 []) (fun _ => false) (by kernel_rfl) (KM.begin h4 hn5 (lows hn5 h4 (fun _ _ => rfl)) _) ?_
  refine kO 0 (.agg (nums 2 (two P.x P.y))) rfl rfl rfl (fun _ => rfl) (fun qv L wx hT => ?_) ?_
  · exact lands_load _ _ rfl _ rfl _ _ _ (hT.k.blk _ m0) Tryz.underlying42 rfl (by kernel_rfl) hT
  simp only [pu]
  refine kO 1 (.agg (nums 2 (two pZ.x pZ.y))) rfl rfl rfl (fun _ => rfl) (fun qv L wx hT => ?_) ?_
  · exact hT.call (qcounted_f P hP.x hP.y ho wx) (by go_simp)
  simp only [pu]
  refine kO 2 (.agg (nums 2 (two P.x P.y))) rfl rfl rfl (fun _ => rfl) (fun qv L wx hT => ?_) ?_
  · exact lands_load _ _ rfl _ rfl _ _ _ (hT.k.blk _ m0) Tryz.underlying42 rfl (by kernel_rfl) hT
  simp only [pu]
  refine kO 3 (.bool true) rfl rfl rfl (fun _ => rfl) (fun qv L wx hT => ?_) ?_
  · exact lands_neqP _ _ rfl pZ P rfl rfl pZ_on.ok hP true (by rw [eqP_off ho]; rfl) hT
  simp only [pu]
  refine anyE_done (by kernel_rfl) (fun qv w6 hK => ?_) _
  have hE := hK.outs (by kernel_rfl) (by kernel_rfl)  (b := false) (c := false) (by kernel_rfl) (by kernel_rfl)
  clear hK h4 hn5
  have h6 : KD w.heap.size w [(w.heap.size, 42, nums 2 (two P.x P.y))] w6 := hE.k
  clear hE
  clear n5
  clear qv
  repeat with_reducible (first | (apply wp_seq_k; intro _ _) | (go_at_K; go_step) | apply tn | apply wp_block | apply wp_skip | apply wp_exit | apply then_exit | apply block_normal | apply block_same | exact block_far rfl ?_)
  refine wp_cond_true rfl ?_
  repeat with_reducible (first | (apply wp_seq_k; intro _ _) | (go_at_K; go_step) | apply tn | apply wp_block | apply wp_skip | apply wp_exit | apply then_exit | apply block_normal | apply block_same | exact block_far rfl ?_)
  with_reducible apply wp_region_lit
  refine wpList_val (.string ⟨#[]⟩) rfl (by refine lands_value (w := w6) ?_ h6; go_simp <;> rfl) ?_
  intro w7 h7
  simp only [pu]
  clear h6
  refine wpList_val (.bool false) rfl (by refine lands_value (w := w7) ?_ h7; go_simp <;> rfl) ?_
  intro w8 h8
  simp only [pu]
  clear h7
  refine wpList_nil ?_
  repeat with_reducible (first | (apply wp_seq_k; intro _ _) | (go_at_K; go_step) | apply tn | apply wp_block | apply wp_skip | apply wp_exit | apply then_exit | apply block_normal | apply block_same | exact block_far rfl ?_)
  with_reducible apply wp_ret
  repeat (first | with_reducible apply then_ret | with_reducible apply block_ret)
  exact bodyPost_ret (results_tmp2 rfl _ _ _) rfl ⟨rfl, h8.b⟩
theorem qenc_any (P : Pt) (hP : P.ok) (w : World) :
    Calls Tryz.prog 25 #[.agg (nums 2 (two P.x P.y))] w fun e w' => e = .returned (.tuple #[.string (encV P).1, .bool (encV P).2]) ∧ Below w.heap.size w w' := by
  cases ho : onB P with
  | true =>
    rw [encV_on ho]
    cases hb : oddP P.x with
    | true => rw [encN_odd hb]; exact qenc_t P (onB_C.1 ho) hb w
    | false => rw [encN_even hb]; exact qenc_f P (onB_C.1 ho) hb w
  | false => rw [encV_off ho]; exact qenc_off P hP ho w
set_option maxRecDepth 100000 in
set_option maxHeartbeats 1000000 in
theorem renc_t (P : Pt) (hC : onC P) (hb : oddP P.x = true) (w : World) :
    Calls Tryz.prog 35 #[.agg (nums 2 (two P.x P.y))] w fun e w' => e = .returned (.tuple #[.string (bytesV (P.y + B255)), .bool true]) ∧ Below w.heap.size w w' := by
  have hP := hC.ok
  have HYB := Lib.hid (fun w => rbytes_is P.y (bytesV P.y) w hP.y (by rw [Nat.mod_eq_of_lt hC.y]))
  have HOD := Lib.hid (fun w => rodd_is P.x w hP.x true hb)
  go_enter Tryz.func35, Tryz.ntmps35
  repeat with_reducible (first | (apply wp_seq_k; intro _ _) | (go_at_K; go_step) | apply tn | apply wp_block | apply wp_skip | apply wp_exit | apply then_exit | apply block_normal | apply block_same | exact block_far rfl ?_)
  have h1 := KD.begin w
  with_reducible apply wp_region_lit
  refine wpList_val (R := KD w.heap.size w [(w.heap.size, 42, nums 2 (two P.x P.y))]) (.pointer (some ⟨w.heap.size, 0, none⟩)) rfl (lands_run2 (box_run _ _ _ rfl rfl _) (h1.add _ _)) ?_
  intro w2 h2
  simp only [pu]
  clear h1
  refine wpList_val (.string ⟨#[]⟩) rfl (by refine lands_value (w := w2) ?_ h2; go_simp <;> rfl) ?_
  intro w3 h3
  simp only [pu]
  clear h2
  refine wpList_val (.bool false) rfl (by refine lands_value (w := w3) ?_ h3; go_simp <;> rfl) ?_
  intro w4 h4
  simp only [pu]
  clear h3
  refine wpList_nil ?_
  repeat with_reducible (first | (apply wp_seq_k; intro _ _) | (go_at_K; go_step) | apply tn | apply wp_block | apply wp_skip | apply wp_exit | apply then_exit | apply block_normal | apply block_same | exact block_far rfl ?_)
  with_reducible apply wp_region_lit
  refine wpList_val (.agg (nums 2 (two P.x P.y))) rfl (by exact lands_load _ _ rfl _ rfl _ _ _ (h4.blk _ m0) Tryz.underlying42 rfl (by kernel_rfl) h4) ?_
  intro w5 h5
  simp only [pu]
  clear h4
  refine wpList_val (.bool true) rfl (by exact h5.call (ron_is P hP.x hP.y true (onB_C.2 hC) w5) (by go_simp)) ?_
  intro w6 h6
  simp only [pu]
  clear h5
  refine wpList_val (.bool false) rfl (by refine lands_value (w := w6) ?_ h6; go_simp <;> rfl) ?_
  intro w7 h7
  simp only [pu]
  clear h6
  refine wpList_nil ?_
  repeat with_reducible (first | (apply wp_seq_k; intro _ _) | (go_at_K; go_step) | apply tn | apply wp_block | apply wp_skip | apply wp_exit | apply then_exit | apply block_normal | apply block_same | exact block_far rfl ?_)
  refine wp_cond_false rfl ?_
  repeat with_reducible (first | (apply wp_seq_k; intro _ _) | (go_at_K; go_step) | apply tn | apply wp_block | apply wp_skip | apply wp_exit | apply then_exit | apply block_normal | apply block_same | exact block_far rfl ?_)
  with_reducible apply wp_region_lit
  refine wpList_val (.pointer (some ⟨w.heap.size, 4, none⟩)) rfl (by refine lands_value (w := w7) ?_ h7; go_simp) ?_
  intro w8 h8
  simp only [pu]
  clear h7
  refine wpList_val (.agg (r64 4 (F4 P.y))) rfl (by exact lands_num 1 _ _ rfl _ 2 _ rfl _ (h8.blk _ m0) (by decide) _ Tryz.underlying40 rfl (by kernel_rfl) h8) ?_
  intro w9 h9
  simp only [pu]
  clear h8
  refine wpList_val (.string (bytesV P.y)) rfl (by exact h9.call (HYB.out w9) (by go_simp)) ?_
  intro w10 h10
  simp only [pu]
  clear h9
  obtain ⟨cap, W1, hcv, hX, hB⟩ := bytes_start (bytesV P.y) w10 (bytesV_size _)
  refine wpList_val (R := KC (fun j => (byteS (bytesV P.y) j : Int)) w10.heap.size w.heap.size w [(w.heap.size, 42, nums 2 (two P.x P.y))]) (.slice (some ⟨w10.heap.size, 0, none⟩) 32 cap) rfl (lands_convert _ _ _ rfl rfl hcv ⟨h10.below hB, hX⟩) ?_
  have hge := h10.lo
  intro w11 h11
  simp only [pu]
  clear hcv hX hB W1 h10
  generalize w10.heap.size = g12 at h11 hge ⊢
  refine wpList_val (.slice (some ⟨g12, 0, none⟩) 32 cap) rfl (by refine lands_value (w := w11) ?_ h11; go_simp <;> rfl) ?_
  intro w13 h13
  simp only [pu]
  clear h11
  refine wpList_nil ?_
  repeat with_reducible (first | (apply wp_seq_k; intro _ _) | (go_at_K; go_step) | apply tn | apply wp_block | apply wp_skip | apply wp_exit | apply then_exit | apply block_normal | apply block_same | exact block_far rfl ?_)
  with_reducible apply wp_region_lit
  refine wpList_val (.pointer (some ⟨w.heap.size, 0, none⟩)) rfl (by refine lands_value (w := w13) ?_ h13; go_simp) ?_
  intro w14 h14
  simp only [pu]
  clear h13
  refine wpList_val (.agg (r64 4 (F4 P.x))) rfl (by exact lands_num 0 _ _ rfl _ 2 _ rfl _ (h14.blk _ m0) (by decide) _ Tryz.underlying40 rfl (by kernel_rfl) h14) ?_
  intro w15 h15
  simp only [pu]
  clear h14
  refine wpList_val (.bool true) rfl (by exact h15.call (HOD.out w15) (by go_simp)) ?_
  intro w16 h16
  simp only [pu]
  clear h15
  refine wpList_nil ?_
  repeat with_reducible (first | (apply wp_seq_k; intro _ _) | (go_at_K; go_step) | apply tn | apply wp_block | apply wp_skip | apply wp_exit | apply then_exit | apply block_normal | apply block_same | exact block_far rfl ?_)
  refine wp_cond_true rfl ?_
  repeat with_reducible (first | (apply wp_seq_k; intro _ _) | (go_at_K; go_step) | apply tn | apply wp_block | apply wp_skip | apply wp_exit | apply then_exit | apply block_normal | apply block_same | exact block_far rfl ?_)
  have hX := h16.x
  have hBl := h16.k.b
  have c31 := hX.c 31 (by decide)
  have f31 := hX.fz 31 (by decide)
  rw [byteS_bytesV _ _ (by decide)] at c31
  have h128 := byte_high hC.y
  have hor := or128 _ h128
  have hX2 := hX.put (k := 31) (by decide) ((byteK P.y 31 : Int) + 128)
  have hend := bytes_end hX2 (P.y + B255) (fun j hj => by
      rw [byte_odd hC.y j hj]
      by_cases h1 : j = 31
      · subst h1; rw [if_pos rfl, if_pos rfl]; omega
      · rw [if_neg h1, if_neg h1, byteS_bytesV _ _ hj]) cap
  rw [show ((byteK P.y 31 + 128 : Nat) : Int) = (byteK P.y 31 : Int) + 128 by omega] at hor
  generalize byteK P.y 31 = z at c31 hor hend h128 hX2
  generalize hS : bytesV (P.y + B255) = t at hend
  clear h16 hX hX2 HYB HOD
  go_wp2_with fail
  exact bodyPost_ret (results_tmp2 rfl _ _ _) rfl ⟨by rw [hS]; rfl, hBl.setCell hge _⟩
set_option maxRecDepth 100000 in
set_option maxHeartbeats 1000000 in
theorem renc_f (P : Pt) (hC : onC P) (hb : oddP P.x = false) (w : World) :
    Calls Tryz.prog 35 #[.agg (nums 2 (two P.x P.y))] w fun e w' => e = .returned (.tuple #[.string (bytesV P.y), .bool true]) ∧ Below w.heap.size w w' := by
  have hP := hC.ok
  have HYB := Lib.hid (fun w => rbytes_is P.y (bytesV P.y) w hP.y (by rw [Nat.mod_eq_of_lt hC.y]))
  have HOD := Lib.hid (fun w => rodd_is P.x w hP.x false hb)
  go_enter Tryz.func35, Tryz.ntmps35
  repeat with_reducible (first | (apply wp_seq_k; intro _ _) | (go_at_K; go_step) | apply tn | apply wp_block | apply wp_skip | apply wp_exit | apply then_exit | apply block_normal | apply block_same | exact block_far rfl ?_)
  have h1 := KD.begin w
  with_reducible apply wp_region_lit
  refine wpList_val (R := KD w.heap.size w [(w.heap.size, 42, nums 2 (two P.x P.y))]) (.pointer (some ⟨w.heap.size, 0, none⟩)) rfl (lands_run2 (box_run _ _ _ rfl rfl _) (h1.add _ _)) ?_
  intro w2 h2
  simp only [pu]
  clear h1
  refine wpList_val (.string ⟨#[]⟩) rfl (by refine lands_value (w := w2) ?_ h2; go_simp <;> rfl) ?_
  intro w3 h3
  simp only [pu]
  clear h2
  refine wpList_val (.bool false) rfl (by refine lands_value (w := w3) ?_ h3; go_simp <;> rfl) ?_
  intro w4 h4
  simp only [pu]
  clear h3
  refine wpList_nil ?_
  repeat with_reducible (first | (apply wp_seq_k; intro _ _) | (go_at_K; go_step) | apply tn | apply wp_block | apply wp_skip | apply wp_exit | apply then_exit | apply block_normal | apply block_same | exact block_far rfl ?_)
  with_reducible apply wp_region_lit
  refine wpList_val (.agg (nums 2 (two P.x P.y))) rfl (by exact lands_load _ _ rfl _ rfl _ _ _ (h4.blk _ m0) Tryz.underlying42 rfl (by kernel_rfl) h4) ?_
  intro w5 h5
  simp only [pu]
  clear h4
  refine wpList_val (.bool true) rfl (by exact h5.call (ron_is P hP.x hP.y true (onB_C.2 hC) w5) (by go_simp)) ?_
  intro w6 h6
  simp only [pu]
  clear h5
  refine wpList_val (.bool false) rfl (by refine lands_value (w := w6) ?_ h6; go_simp <;> rfl) ?_
  intro w7 h7
  simp only [pu]
  clear h6
  refine wpList_nil ?_
  repeat with_reducible (first | (apply wp_seq_k; intro _ _) | (go_at_K; go_step) | apply tn | apply wp_block | apply wp_skip | apply wp_exit | apply then_exit | apply block_normal | apply block_same | exact block_far rfl ?_)
  refine wp_cond_false rfl ?_
  repeat with_reducible (first | (apply wp_seq_k; intro _ _) | (go_at_K; go_step) | apply tn | apply wp_block | apply wp_skip | apply wp_exit | apply then_exit | apply block_normal | apply block_same | exact block_far rfl ?_)
  with_reducible apply wp_region_lit
  refine wpList_val (.pointer (some ⟨w.heap.size, 4, none⟩)) rfl (by refine lands_value (w := w7) ?_ h7; go_simp) ?_
  intro w8 h8
  simp only [pu]
  clear h7
  refine wpList_val (.agg (r64 4 (F4 P.y))) rfl (by exact lands_num 1 _ _ rfl _ 2 _ rfl _ (h8.blk _ m0) (by decide) _ Tryz.underlying40 rfl (by kernel_rfl) h8) ?_
  intro w9 h9
  simp only [pu]
  clear h8
  refine wpList_val (.string (bytesV P.y)) rfl (by exact h9.call (HYB.out w9) (by go_simp)) ?_
  intro w10 h10
  simp only [pu]
  clear h9
  obtain ⟨cap, W1, hcv, hX, hB⟩ := bytes_start (bytesV P.y) w10 (bytesV_size _)
  refine wpList_val (R := KC (fun j => (byteS (bytesV P.y) j : Int)) w10.heap.size w.heap.size w [(w.heap.size, 42, nums 2 (two P.x P.y))]) (.slice (some ⟨w10.heap.size, 0, none⟩) 32 cap) rfl (lands_convert _ _ _ rfl rfl hcv ⟨h10.below hB, hX⟩) ?_
  have hge := h10.lo
  intro w11 h11
  simp only [pu]
  clear hcv hX hB W1 h10
  generalize w10.heap.size = g12 at h11 hge ⊢
  refine wpList_val (.slice (some ⟨g12, 0, none⟩) 32 cap) rfl (by refine lands_value (w := w11) ?_ h11; go_simp <;> rfl) ?_
  intro w13 h13
  simp only [pu]
  clear h11
  refine wpList_nil ?_
  repeat with_reducible (first | (apply wp_seq_k; intro _ _) | (go_at_K; go_step) | apply tn | apply wp_block | apply wp_skip | apply wp_exit | apply then_exit | apply block_normal | apply block_same | exact block_far rfl ?_)
  with_reducible apply wp_region_lit
  refine wpList_val (.pointer (some ⟨w.heap.size, 0, none⟩)) rfl (by refine lands_value (w := w13) ?_ h13; go_simp) ?_
  intro w14 h14
  simp only [pu]
  clear h13
  refine wpList_val (.agg (r64 4 (F4 P.x))) rfl (by exact lands_num 0 _ _ rfl _ 2 _ rfl _ (h14.blk _ m0) (by decide) _ Tryz.underlying40 rfl (by kernel_rfl) h14) ?_
  intro w15 h15
  simp only [pu]
  clear h14
  refine wpList_val (.bool false) rfl (by exact h15.call (HOD.out w15) (by go_simp)) ?_
  intro w16 h16
  simp only [pu]
  clear h15
  refine wpList_nil ?_
  repeat with_reducible (first | (apply wp_seq_k; intro _ _) | (go_at_K; go_step) | apply tn | apply wp_block | apply wp_skip | apply wp_exit | apply then_exit | apply block_normal | apply block_same | exact block_far rfl ?_)
  refine wp_cond_false rfl ?_
  repeat with_reducible (first | (apply wp_seq_k; intro _ _) | (go_at_K; go_step) | apply tn | apply wp_block | apply wp_skip | apply wp_exit | apply then_exit | apply block_normal | apply block_same | exact block_far rfl ?_)
  have hX := h16.x
  have hBl := h16.k.b
  have hend := bytes_end hX P.y (fun j hj => by rw [byteS_bytesV _ _ hj]) cap
  generalize hS : bytesV P.y = t at hend
  clear h16 hX HYB HOD
  go_wp2_with fail
  exact bodyPost_ret (results_tmp2 rfl _ _ _) rfl ⟨by rw [hS]; rfl, hBl⟩
set_option maxRecDepth 100000 in
set_option maxHeartbeats 400000 in
theorem renc_off (P : Pt) (hP : P.ok) (ho : onB P = false) (w : World) :
    Calls Tryz.prog 35 #[.agg (nums 2 (two P.x P.y))] w fun e w' => e = .returned (.tuple #[.string ⟨#[]⟩, .bool false]) ∧ Below w.heap.size w w' := by
  go_enter Tryz.func35, Tryz.ntmps35
  repeat with_reducible (first | (apply wp_seq_k; intro _ _) | (go_at_K; go_step) | apply tn | apply wp_block | apply wp_skip | apply wp_exit | apply then_exit | apply block_normal | apply block_same | exact block_far rfl ?_)
  have h1 := KD.begin w
  with_reducible apply wp_region_lit
  refine wpList_val (R := KD w.heap.size w [(w.heap.size, 42, nums 2 (two P.x P.y))]) (.pointer (some ⟨w.heap.size, 0, none⟩)) rfl (lands_run2 (box_run _ _ _ rfl rfl _) (h1.add _ _)) ?_
  intro w2 h2
  simp only [pu]
  clear h1
  refine wpList_val (.string ⟨#[]⟩) rfl (by refine lands_value (w := w2) ?_ h2; go_simp <;> rfl) ?_
  intro w3 h3
  simp only [pu]
  clear h2
  refine wpList_val (.bool false) rfl (by refine lands_value (w := w3) ?_ h3; go_simp <;> rfl) ?_
  intro w4 h4
  simp only [pu]
  clear h3
  refine wpList_nil ?_
  repeat with_reducible (first | (apply wp_seq_k; intro _ _) | (go_at_K; go_step) | apply tn | apply wp_block | apply wp_skip | apply wp_exit | apply then_exit | apply block_normal | apply block_same | exact block_far rfl ?_)
  with_reducible apply wp_region_lit
  refine wpList_val (.agg (nums 2 (two P.x P.y))) rfl (by exact lands_load _ _ rfl _ rfl _ _ _ (h4.blk _ m0) Tryz.underlying42 rfl (by kernel_rfl) h4) ?_
  intro w5 h5
  simp only [pu]
  clear h4
  refine wpList_val (.bool false) rfl (by exact h5.call (ron_is P hP.x hP.y false ho w5) (by go_simp)) ?_
  intro w6 h6
  simp only [pu]
  clear h5
  refine wpList_val (.bool true) rfl (by refine lands_value (w := w6) ?_ h6; go_simp <;> rfl) ?_
  intro w7 h7
  simp only [pu]
  clear h6
  refine wpList_nil ?_
  repeat with_reducible (first | (apply wp_seq_k; intro _ _) | (go_at_K; go_step) | apply tn | apply wp_block | apply wp_skip | apply wp_exit | apply then_exit | apply block_normal | apply block_same | exact block_far rfl ?_)
  refine wp_cond_true rfl ?_
  repeat with_reducible (first | (apply wp_seq_k; intro _ _) | (go_at_K; go_step) | apply tn | apply wp_block | apply wp_skip | apply wp_exit | apply then_exit | apply block_normal | apply block_same | exact block_far rfl ?_)
  with_reducible apply wp_region_lit
  refine wpList_val (.string ⟨#[]⟩) rfl (by refine lands_value (w := w7) ?_ h7; go_simp <;> rfl) ?_
  intro w8 h8
  simp only [pu]
  clear h7
  refine wpList_val (.bool false) rfl (by refine lands_value (w := w8) ?_ h8; go_simp <;> rfl) ?_
  intro w9 h9
  simp only [pu]
  clear h8
  refine wpList_nil ?_
  repeat with_reducible (first | (apply wp_seq_k; intro _ _) | (go_at_K; go_step) | apply tn | apply wp_block | apply wp_skip | apply wp_exit | apply then_exit | apply block_normal | apply block_same | exact block_far rfl ?_)
  with_reducible apply wp_ret
  repeat (first | with_reducible apply then_ret | with_reducible apply block_ret)
  exact bodyPost_ret (results_tmp2 rfl _ _ _) rfl ⟨rfl, h9.b⟩
theorem renc_any (P : Pt) (hP : P.ok) (w : World) :
    Calls Tryz.prog 35 #[.agg (nums 2 (two P.x P.y))] w fun e w' => e = .returned (.tuple #[.string (encV P).1, .bool (encV P).2]) ∧ Below w.heap.size w w' := by
  cases ho : onB P with
  | true =>
    rw [encV_on ho]
    cases hb : oddP P.x with
    | true => rw [encN_odd hb]; exact renc_t P (onB_C.1 ho) hb w
    | false => rw [encN_even hb]; exact renc_f P (onB_C.1 ho) hb w
  | false => rw [encV_off ho]; exact renc_off P hP ho w
end Go.Proofs.YtggalphgnloneaaGreat
