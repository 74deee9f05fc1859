/- The reference of layer 5: D, Zero, On, made; points of fractions; Add, Neg, root, Base. (written by mkQ.py) -/
import Derived.Test.YtggalphgnloneaaGreatQa
namespace Go.Proofs.YtggalphgnloneaaGreat
open Go.RowKit
set_option maxRecDepth 100000 in
set_option maxHeartbeats 400000 in
theorem rd_any (w : World) :
    Calls Tryz.prog 66 #[] w fun e w' => e = .returned (.agg (r64 4 (F4 dP))) ∧ Below w.heap.size w w' := by
  go_enter Tryz.func66, Tryz.ntmps66
  repeat with_reducible (first | (apply wp_seq_k; intro _ _) | (go_at_K; go_step) | apply tn | apply wp_block | apply wp_skip | apply wp_exit | apply then_exit | apply block_normal | apply block_same | exact block_far rfl ?_)
  have h1 := KD.begin w
  with_reducible apply wp_region_lit
  refine wpList_val (R := KD w.heap.size w [(w.heap.size, 40, r64 4 (F4 0))]) (.pointer (some ⟨w.heap.size, 0, none⟩)) rfl (lands_run2 (alloc_run _ _ rfl zero_fe _) (h1.add _ _)) ?_
  intro w2 h2
  simp only [pu]
  clear h1
  refine wpList_nil ?_
  repeat with_reducible (first | (apply wp_seq_k; intro _ _) | (go_at_K; go_step) | apply tn | apply wp_block | apply wp_skip | apply wp_exit | apply then_exit | apply block_normal | apply block_same | exact block_far rfl ?_)
  with_reducible apply wp_region_lit
  refine wpList_val (.agg (r64 4 (F4 121665))) rfl (by exact h2.call (rsmall_nat 121665 w2 (by decide)) (by go_simp)) ?_
  intro w3 h3
  simp only [pu]
  clear h2
  refine wpList_val (.agg (r64 4 (F4 (negP 121665)))) rfl (by exact h3.call (rnegP 121665 w3 (by decide)) (by go_simp)) ?_
  intro w4 h4
  simp only [pu]
  clear h3
  refine wpList_val (.agg (r64 4 (F4 121666))) rfl (by exact h4.call (rsmall_nat 121666 w4 (by decide)) (by go_simp)) ?_
  intro w5 h5
  simp only [pu]
  clear h4
  refine wpList_val (.agg (r64 4 (F4 (vP 121666)))) rfl (by exact h5.call (rinvV 121666 w5 (by decide)) (by go_simp)) ?_
  intro w6 h6
  simp only [pu]
  clear h5
  refine wpList_val (.agg (r64 4 (F4 (mulP (negP 121665) (vP 121666))))) rfl (by exact h6.call (rmulP (negP 121665) (vP 121666) w6 (negP_lt _) (vP_lt _)) (by go_simp)) ?_
  intro w7 h7
  simp only [pu]
  clear h6
  refine wpList_val (R := KD w.heap.size w [(w.heap.size, 40, r64 4 (F4 (mulP (negP 121665) (vP 121666))))]) undef rfl (lands_store _ _ _ rfl w.heap.size (r64 4 (F4 (mulP (negP 121665) (vP 121666)))) rfl rfl _ _ (h7.blk _ m0) (by kernel_rfl) (by kernel_rfl) (row_one fun _ => rfl) (h7.put (k := 0) rfl _)) ?_
  intro w8 h8
  simp only [pu]
  clear h7
  refine wpList_nil ?_
  repeat with_reducible (first | (apply wp_seq_k; intro _ _) | (go_at_K; go_step) | apply tn | apply wp_block | apply wp_skip | apply wp_exit | apply then_exit | apply block_normal | apply block_same | exact block_far rfl ?_)
  with_reducible apply wp_ret
  repeat (first | with_reducible apply then_ret | with_reducible apply block_ret)
  exact bodyPost_ret (results_cell_row rfl _ _ w.heap.size 40 (r64 4 (F4 (mulP (negP 121665) (vP 121666)))) (0, 0) _ rfl (h8.blk _ m0) Tryz.underlying40 rfl (by kernel_rfl)) rfl ⟨by rw [d_is], h8.b⟩
set_option maxRecDepth 100000 in
set_option maxHeartbeats 400000 in
theorem rzero_any (w : World) :
    Calls Tryz.prog 69 #[] w fun e w' => e = .returned (.agg (nums 2 (two pZ.x pZ.y))) ∧ Below w.heap.size w w' := by
  go_enter Tryz.func69, Tryz.ntmps69
  repeat with_reducible (first | (apply wp_seq_k; intro _ _) | (go_at_K; go_step) | apply tn | apply wp_block | apply wp_skip | apply wp_exit | apply then_exit | apply block_normal | apply block_same | exact block_far rfl ?_)
  have h1 := KD.begin w
  with_reducible apply wp_region_lit
  refine wpList_val (R := KD w.heap.size w [(w.heap.size, 42, nums 2 (two 0 0))]) (.pointer (some ⟨w.heap.size, 0, none⟩)) rfl (lands_run2 (alloc_run _ _ rfl zero_pt _) (h1.add _ _)) ?_
  intro w2 h2
  simp only [pu]
  clear h1
  refine wpList_nil ?_
  repeat with_reducible (first | (apply wp_seq_k; intro _ _) | (go_at_K; go_step) | apply tn | apply wp_block | apply wp_skip | apply wp_exit | apply then_exit | apply block_normal | apply block_same | exact block_far rfl ?_)
  with_reducible apply wp_region_lit
  refine wpList_val (.agg (r64 4 (F4 1))) rfl (by exact h2.call (rsmall_nat 1 w2 (by decide)) (by go_simp)) ?_
  intro w3 h3
  simp only [pu]
  clear h2
  refine wpList_val (.agg (nums 2 (two 0 1))) rfl (by exact lands_built _ _ rfl _ rfl _ (by kernel_rfl) h3) ?_
  intro w4 h4
  simp only [pu]
  clear h3
  refine wpList_val (R := KD w.heap.size w [(w.heap.size, 42, nums 2 (two 0 1))]) undef rfl (lands_store _ _ _ rfl w.heap.size (nums 2 (two 0 1)) rfl rfl _ _ (h4.blk _ m0) (by kernel_rfl) (by kernel_rfl) (row_one fun _ => rfl) (h4.put (k := 0) rfl _)) ?_
  intro w5 h5
  simp only [pu]
  clear h4
  refine wpList_nil ?_
  repeat with_reducible (first | (apply wp_seq_k; intro _ _) | (go_at_K; go_step) | apply tn | apply wp_block | apply wp_skip | apply wp_exit | apply then_exit | apply block_normal | apply block_same | exact block_far rfl ?_)
  with_reducible apply wp_ret
  repeat (first | with_reducible apply then_ret | with_reducible apply block_ret)
  exact bodyPost_ret (results_cell_row rfl _ _ w.heap.size 42 (nums 2 (two 0 1)) (0, 0) _ rfl (h5.blk _ m0) Tryz.underlying42 rfl (by kernel_rfl)) rfl ⟨rfl, h5.b⟩
set_option maxRecDepth 100000 in
set_option maxHeartbeats 400000 in
theorem ron1_any (P : Pt) (hx : P.x < M256) (hy : P.y < M256) (c : Bool) (hc : decide (subP (mulP P.y P.y) (mulP P.x P.x) = addP 1 (mulP dP (mulP (mulP P.x P.x) (mulP P.y P.y)))) = c) (w : World) :
    Calls Tryz.prog 110 #[.agg (r64 4 (F4 dP)), .agg (nums 2 (two P.x P.y))] w fun e w' => e = .returned (.bool c) ∧ Below w.heap.size w w' := by
  go_enter Tryz.func110, Tryz.ntmps110
  repeat with_reducible (first | (apply wp_seq_k; intro _ _) | (go_at_K; go_step) | apply tn | apply wp_block | apply wp_skip | apply wp_exit | apply then_exit | apply block_normal | apply block_same | exact block_far rfl ?_)
  have h1 := KD.begin w
  with_reducible apply wp_region_lit
  refine wpList_val (R := KD w.heap.size w [(w.heap.size, 40, r64 4 (F4 dP))]) (.pointer (some ⟨w.heap.size, 0, none⟩)) rfl (lands_run2 (box_run _ _ _ rfl rfl _) (h1.add _ _)) ?_
  intro w2 h2
  simp only [pu]
  clear h1
  refine wpList_val (R := KD w.heap.size w [(w2.heap.size, 42, nums 2 (two P.x P.y)), (w.heap.size, 40, r64 4 (F4 dP))]) (.pointer (some ⟨w2.heap.size, 0, none⟩)) rfl (lands_run2 (box_run _ _ _ rfl rfl _) (h2.add _ _)) ?_
  intro w3 h3
  simp only [pu]
  clear h2
  generalize w2.heap.size = g4 at h3 ⊢
  refine wpList_val (.bool false) rfl (by refine lands_value (w := w3) ?_ h3; go_simp <;> rfl) ?_
  intro w5 h5
  simp only [pu]
  clear h3
  refine wpList_nil ?_
  repeat with_reducible (first | (apply wp_seq_k; intro _ _) | (go_at_K; go_step) | apply tn | apply wp_block | apply wp_skip | apply wp_exit | apply then_exit | apply block_normal | apply block_same | exact block_far rfl ?_)
  with_reducible apply wp_region_lit
  refine wpList_val (.pointer (some ⟨g4, 0, none⟩)) rfl (by refine lands_value (w := w5) ?_ h5; go_simp) ?_
  intro w6 h6
  simp only [pu]
  clear h5
  refine wpList_val (.agg (r64 4 (F4 P.x))) rfl (by exact lands_num 0 _ _ rfl _ 2 _ rfl _ (h6.blk _ m0) (by decide) _ Tryz.underlying40 rfl (by kernel_rfl) h6) ?_
  intro w7 h7
  simp only [pu]
  clear h6
  refine wpList_val (.pointer (some ⟨g4, 0, none⟩)) rfl (by refine lands_value (w := w7) ?_ h7; go_simp) ?_
  intro w8 h8
  simp only [pu]
  clear h7
  refine wpList_val (.agg (r64 4 (F4 P.x))) rfl (by exact lands_num 0 _ _ rfl _ 2 _ rfl _ (h8.blk _ m0) (by decide) _ Tryz.underlying40 rfl (by kernel_rfl) h8) ?_
  intro w9 h9
  simp only [pu]
  clear h8
  refine wpList_val (.agg (r64 4 (F4 (mulP P.x P.x)))) rfl (by exact h9.call (rmulP P.x P.x w9 hx hx) (by go_simp)) ?_
  intro w10 h10
  simp only [pu]
  clear h9
  refine wpList_val (R := KD w.heap.size w [(w10.heap.size, 40, r64 4 (F4 0)), (g4, 42, nums 2 (two P.x P.y)), (w.heap.size, 40, r64 4 (F4 dP))]) (.pointer (some ⟨w10.heap.size, 0, none⟩)) rfl (lands_run2 (alloc_run _ _ rfl zero_fe _) (h10.add _ _)) ?_
  intro w11 h11
  simp only [pu]
  clear h10
  generalize w10.heap.size = g12 at h11 ⊢
  refine wpList_val (R := KD w.heap.size w [(g12, 40, r64 4 (F4 (mulP P.x P.x))), (g4, 42, nums 2 (two P.x P.y)), (w.heap.size, 40, r64 4 (F4 dP))]) undef rfl (lands_store _ _ _ rfl g12 (r64 4 (F4 (mulP P.x P.x))) rfl rfl _ _ (h11.blk _ m0) (by kernel_rfl) (by kernel_rfl) (row_one fun _ => rfl) (h11.put (k := 0) rfl _)) ?_
  intro w13 h13
  simp only [pu]
  clear h11
  refine wpList_nil ?_
  repeat with_reducible (first | (apply wp_seq_k; intro _ _) | (go_at_K; go_step) | apply tn | apply wp_block | apply wp_skip | apply wp_exit | apply then_exit | apply block_normal | apply block_same | exact block_far rfl ?_)
  with_reducible apply wp_region_lit
  refine wpList_val (.pointer (some ⟨g4, 4, none⟩)) rfl (by refine lands_value (w := w13) ?_ h13; go_simp) ?_
  intro w14 h14
  simp only [pu]
  clear h13
  refine wpList_val (.agg (r64 4 (F4 P.y))) rfl (by exact lands_num 1 _ _ rfl _ 2 _ rfl _ (h14.blk _ m1) (by decide) _ Tryz.underlying40 rfl (by kernel_rfl) h14) ?_
  intro w15 h15
  simp only [pu]
  clear h14
  refine wpList_val (.pointer (some ⟨g4, 4, none⟩)) rfl (by refine lands_value (w := w15) ?_ h15; go_simp) ?_
  intro w16 h16
  simp only [pu]
  clear h15
  refine wpList_val (.agg (r64 4 (F4 P.y))) rfl (by exact lands_num 1 _ _ rfl _ 2 _ rfl _ (h16.blk _ m1) (by decide) _ Tryz.underlying40 rfl (by kernel_rfl) h16) ?_
  intro w17 h17
  simp only [pu]
  clear h16
  refine wpList_val (.agg (r64 4 (F4 (mulP P.y P.y)))) rfl (by exact h17.call (rmulP P.y P.y w17 hy hy) (by go_simp)) ?_
  intro w18 h18
  simp only [pu]
  clear h17
  refine wpList_val (R := KD w.heap.size w [(w18.heap.size, 40, r64 4 (F4 0)), (g12, 40, r64 4 (F4 (mulP P.x P.x))), (g4, 42, nums 2 (two P.x P.y)), (w.heap.size, 40, r64 4 (F4 dP))]) (.pointer (some ⟨w18.heap.size, 0, none⟩)) rfl (lands_run2 (alloc_run _ _ rfl zero_fe _) (h18.add _ _)) ?_
  intro w19 h19
  simp only [pu]
  clear h18
  generalize w18.heap.size = g20 at h19 ⊢
  refine wpList_val (R := KD w.heap.size w [(g20, 40, r64 4 (F4 (mulP P.y P.y))), (g12, 40, r64 4 (F4 (mulP P.x P.x))), (g4, 42, nums 2 (two P.x P.y)), (w.heap.size, 40, r64 4 (F4 dP))]) undef rfl (lands_store _ _ _ rfl g20 (r64 4 (F4 (mulP P.y P.y))) rfl rfl _ _ (h19.blk _ m0) (by kernel_rfl) (by kernel_rfl) (row_one fun _ => rfl) (h19.put (k := 0) rfl _)) ?_
  intro w21 h21
  simp only [pu]
  clear h19
  refine wpList_nil ?_
  repeat with_reducible (first | (apply wp_seq_k; intro _ _) | (go_at_K; go_step) | apply tn | apply wp_block | apply wp_skip | apply wp_exit | apply then_exit | apply block_normal | apply block_same | exact block_far rfl ?_)
  obtain ⟨n22, hn22⟩ : ∃ n, n = w21.heap.size := ⟨_, rfl⟩
  refine wp_region_anyE (KM w.heap.size n22 w (fun _ _ => [(g20, 40, r64 4 (F4 (mulP P.y P.y))), (g12, 40, r64 4 (F4 (mulP P.x P.x))), (g4, 42, nums 2 (two P.x P.y)), (w.heap.size, 40, r64 4 (F4 dP))]) 1000 1001 []) (fun _ => false) (by kernel_rfl) (KM.begin h21 hn22 (lows hn22 h21 (fun _ _ => rfl)) _) ?_
  refine kO 0 (.agg (r64 4 (F4 (mulP P.y P.y)))) rfl rfl rfl (fun _ => rfl) (fun qv L wx hT => ?_) ?_
  · exact lands_load _ _ rfl _ rfl _ _ _ (hT.k.blk _ m0) Tryz.underlying40 rfl (fe_size _) hT
  simp only [pu]
  refine kO 1 (.agg (r64 4 (F4 (mulP P.x P.x)))) rfl rfl rfl (fun _ => rfl) (fun qv L wx hT => ?_) ?_
  · exact lands_load _ _ rfl _ rfl _ _ _ (hT.k.blk _ m1) Tryz.underlying40 rfl (fe_size _) hT
  simp only [pu]
  refine kO 2 (.agg (r64 4 (F4 (subP (mulP P.y P.y) (mulP P.x P.x))))) rfl rfl rfl (fun _ => rfl) (fun qv L wx hT => ?_) ?_
  · exact hT.call (rsubP (mulP P.y P.y) (mulP P.x P.x) wx (mulP_lt _ _) (mulP_lt _ _)) (by go_simp)
  simp only [pu]
  refine kO 3 (.agg (r64 4 (F4 1))) rfl rfl rfl (fun _ => rfl) (fun qv L wx hT => ?_) ?_
  · exact hT.call (rsmall_nat 1 wx (by decide)) (by go_simp)
  simp only [pu]
  refine kO 4 (.agg (r64 4 (F4 dP))) rfl rfl rfl (fun _ => rfl) (fun qv L wx hT => ?_) ?_
  · exact lands_load _ _ rfl _ rfl _ _ _ (hT.k.blk _ m3) Tryz.underlying40 rfl (fe_size _) hT
  simp only [pu]
  refine kO 5 (.agg (r64 4 (F4 (mulP P.x P.x)))) rfl rfl rfl (fun _ => rfl) (fun qv L wx hT => ?_) ?_
  · exact lands_load _ _ rfl _ rfl _ _ _ (hT.k.blk _ m1) Tryz.underlying40 rfl (fe_size _) hT
  simp only [pu]
  refine kO 6 (.agg (r64 4 (F4 (mulP P.y P.y)))) rfl rfl rfl (fun _ => rfl) (fun qv L wx hT => ?_) ?_
  · exact lands_load _ _ rfl _ rfl _ _ _ (hT.k.blk _ m0) Tryz.underlying40 rfl (fe_size _) hT
  simp only [pu]
  refine kO 7 (.agg (r64 4 (F4 (mulP (mulP P.x P.x) (mulP P.y P.y))))) rfl rfl rfl (fun _ => rfl) (fun qv L wx hT => ?_) ?_
  · exact hT.call (rmulP (mulP P.x P.x) (mulP P.y P.y) wx (mulP_lt _ _) (mulP_lt _ _)) (by go_simp)
  simp only [pu]
  refine kO 8 (.agg (r64 4 (F4 (mulP dP (mulP (mulP P.x P.x) (mulP P.y P.y)))))) rfl rfl rfl (fun _ => rfl) (fun qv L wx hT => ?_) ?_
  · exact hT.call (rmulP dP (mulP (mulP P.x P.x) (mulP P.y P.y)) wx dP_lt (mulP_lt _ _)) (by go_simp)
  simp only [pu]
  refine kO 9 (.agg (r64 4 (F4 (addP 1 (mulP dP (mulP (mulP P.x P.x) (mulP P.y P.y))))))) rfl rfl rfl (fun _ => rfl) (fun qv L wx hT => ?_) ?_
  · exact hT.call (raddP 1 (mulP dP (mulP (mulP P.x P.x) (mulP P.y P.y))) wx (by decide) (mulP_lt _ _)) (by go_simp)
  simp only [pu]
  refine kO 10 (.bool c) rfl rfl rfl (fun _ => rfl) (fun qv L wx hT => ?_) ?_
  · exact lands_eql _ _ rfl (subP (mulP P.y P.y) (mulP P.x P.x)) (addP 1 (mulP dP (mulP (mulP P.x P.x) (mulP P.y P.y)))) rfl rfl (subP_lt _ _) (addP_lt _ _) c hc hT
  simp only [pu]
  refine kO 11 (.bool c) rfl rfl rfl (fun _ => rfl) (fun qv L wx hT => ?_) ?_
  · refine lands_value (w := wx) ?_ hT; go_simp <;> rfl
  simp only [pu]
  refine anyE_done (by kernel_rfl) (fun qv w23 hK => ?_) _
  have hE := hK.outs (by kernel_rfl) (by kernel_rfl)  (b := false) (c := false) (by kernel_rfl) (by kernel_rfl)
  clear hK h21 hn22
  have h23 : KD w.heap.size w [(g20, 40, r64 4 (F4 (mulP P.y P.y))), (g12, 40, r64 4 (F4 (mulP P.x P.x))), (g4, 42, nums 2 (two P.x P.y)), (w.heap.size, 40, r64 4 (F4 dP))] w23 := hE.k
  clear hE
  clear n22
  clear qv
  repeat with_reducible (first | (apply wp_seq_k; intro _ _) | (go_at_K; go_step) | apply tn | apply wp_block | apply wp_skip | apply wp_exit | apply then_exit | apply block_normal | apply block_same | exact block_far rfl ?_)
  with_reducible apply wp_ret
  repeat (first | with_reducible apply then_ret | with_reducible apply block_ret)
  exact bodyPost_ret (results_tmp rfl _ _ _) rfl ⟨rfl, h23.b⟩
set_option maxRecDepth 100000 in
set_option maxHeartbeats 400000 in
theorem ron_ff (P : Pt) (hx : P.x < M256) (hy : P.y < M256) (hrx : ¬ P.x % pP = P.x) (hry : ¬ P.y % pP = P.y) (w : World) :
    Calls Tryz.prog 75 #[.agg (nums 2 (two P.x P.y))] w fun e w' => e = .returned (.bool false) ∧ Below w.heap.size w w' := by
  go_enter Tryz.func75, Tryz.ntmps75
  repeat with_reducible (first | (apply wp_seq_k; intro _ _) | (go_at_K; go_step) | apply tn | apply wp_block | apply wp_skip | apply wp_exit | apply then_exit | apply block_normal | apply block_same | exact block_far rfl ?_)
  have h1 := KD.begin w
  with_reducible apply wp_region_lit
  refine wpList_val (R := KD w.heap.size w [(w.heap.size, 42, nums 2 (two P.x P.y))]) (.pointer (some ⟨w.heap.size, 0, none⟩)) rfl (lands_run2 (box_run _ _ _ rfl rfl _) (h1.add _ _)) ?_
  intro w2 h2
  simp only [pu]
  clear h1
  refine wpList_val (.bool false) rfl (by refine lands_value (w := w2) ?_ h2; go_simp <;> rfl) ?_
  intro w3 h3
  simp only [pu]
  clear h2
  refine wpList_nil ?_
  repeat with_reducible (first | (apply wp_seq_k; intro _ _) | (go_at_K; go_step) | apply tn | apply wp_block | apply wp_skip | apply wp_exit | apply then_exit | apply block_normal | apply block_same | exact block_far rfl ?_)
  with_reducible apply wp_region_lit
  refine wpList_val (.pointer (some ⟨w.heap.size, 0, none⟩)) rfl (by refine lands_value (w := w3) ?_ h3; go_simp) ?_
  intro w4 h4
  simp only [pu]
  clear h3
  refine wpList_val (.agg (r64 4 (F4 P.x))) rfl (by exact lands_num 0 _ _ rfl _ 2 _ rfl _ (h4.blk _ m0) (by decide) _ Tryz.underlying40 rfl (by kernel_rfl) h4) ?_
  intro w5 h5
  simp only [pu]
  clear h4
  refine wpList_val (.bool false) rfl (by exact h5.call (rright_false P.x w5 hx hrx) (by go_simp)) ?_
  intro w6 h6
  simp only [pu]
  clear h5
  refine wpList_val (.bool false) rfl (by refine lands_value (w := w6) ?_ h6; go_simp <;> rfl) ?_
  intro w7 h7
  simp only [pu]
  clear h6
  refine wpList_nil ?_
  repeat with_reducible (first | (apply wp_seq_k; intro _ _) | (go_at_K; go_step) | apply tn | apply wp_block | apply wp_skip | apply wp_exit | apply then_exit | apply block_normal | apply block_same | exact block_far rfl ?_)
  with_reducible apply wp_region_lit
  refine wpList_val (.pointer (some ⟨w.heap.size, 4, none⟩)) rfl (by refine lands_value (w := w7) ?_ h7; go_simp) ?_
  intro w8 h8
  simp only [pu]
  clear h7
  refine wpList_val (.agg (r64 4 (F4 P.y))) rfl (by exact lands_num 1 _ _ rfl _ 2 _ rfl _ (h8.blk _ m0) (by decide) _ Tryz.underlying40 rfl (by kernel_rfl) h8) ?_
  intro w9 h9
  simp only [pu]
  clear h8
  refine wpList_val (.bool false) rfl (by exact h9.call (rright_false P.y w9 hy hry) (by go_simp)) ?_
  intro w10 h10
  simp only [pu]
  clear h9
  refine wpList_val (.bool false) rfl (by refine lands_value (w := w10) ?_ h10; go_simp <;> rfl) ?_
  intro w11 h11
  simp only [pu]
  clear h10
  refine wpList_nil ?_
  repeat with_reducible (first | (apply wp_seq_k; intro _ _) | (go_at_K; go_step) | apply tn | apply wp_block | apply wp_skip | apply wp_exit | apply then_exit | apply block_normal | apply block_same | exact block_far rfl ?_)
  obtain ⟨n12, hn12⟩ : ∃ n, n = w11.heap.size := ⟨_, rfl⟩
  refine wp_region_anyE (KM w.heap.size n12 w (fun _ _ => [(w.heap.size, 42, nums 2 (two P.x P.y))]) 1000 1001 []) (fun _ => false) (by kernel_rfl) (KM.begin h11 hn12 (lows hn12 h11 (fun _ _ => rfl)) _) ?_
  refine kO 0 (.bool false) rfl rfl rfl (fun _ => rfl) (fun qv L wx hT => ?_) ?_
  · refine lands_value (w := wx) ?_ hT; go_simp <;> rfl
  simp only [pu]
  refine kO 1 (.bool false) rfl rfl rfl (fun _ => rfl) (fun qv L wx hT => ?_) ?_
  · refine lands_value (w := wx) ?_ hT; go_simp <;> rfl
  simp only [pu]
  refine anyE_take (i := 2) undef rfl rfl (by kernel_rfl) (by kernel_rfl) (by kernel_rfl) (fun qv => ym_skip rfl rfl) ?_
  simp only [pu]
  refine kO 3 (.bool false) rfl rfl rfl (fun _ => rfl) (fun qv L wx hT => ?_) ?_
  · refine lands_value (w := wx) ?_ hT; go_simp <;> rfl
  simp only [pu]
  refine kO 4 (.bool false) rfl rfl rfl (fun _ => rfl) (fun qv L wx hT => ?_) ?_
  · refine lands_value (w := wx) ?_ hT; go_simp <;> rfl
  simp only [pu]
  refine anyE_take (i := 5) undef rfl rfl (by kernel_rfl) (by kernel_rfl) (by kernel_rfl) (fun qv => ym_skip rfl rfl) ?_
  simp only [pu]
  refine anyE_take (i := 6) undef rfl rfl (by kernel_rfl) (by kernel_rfl) (by kernel_rfl) (fun qv => ym_skip rfl rfl) ?_
  simp only [pu]
  refine anyE_take (i := 7) undef rfl rfl (by kernel_rfl) (by kernel_rfl) (by kernel_rfl) (fun qv => ym_skip rfl rfl) ?_
  simp only [pu]
  refine kO 8 (.bool false) rfl rfl rfl (fun _ => rfl) (fun qv L wx hT => ?_) ?_
  · refine lands_value (w := wx) ?_ hT; go_simp <;> rfl
  simp only [pu]
  refine kO 9 (.bool false) rfl rfl rfl (fun _ => rfl) (fun qv L wx hT => ?_) ?_
  · refine lands_value (w := wx) ?_ hT; go_simp <;> rfl
  simp only [pu]
  refine anyE_done (by kernel_rfl) (fun qv w13 hK => ?_) _
  have hE := hK.outs (by kernel_rfl) (by kernel_rfl)  (b := false) (c := false) (by kernel_rfl) (by kernel_rfl)
  clear hK h11 hn12
  have h13 : KD w.heap.size w [(w.heap.size, 42, nums 2 (two P.x P.y))] w13 := hE.k
  clear hE
  clear n12
  clear qv
  repeat with_reducible (first | (apply wp_seq_k; intro _ _) | (go_at_K; go_step) | apply tn | apply wp_block | apply wp_skip | apply wp_exit | apply then_exit | apply block_normal | apply block_same | exact block_far rfl ?_)
  with_reducible apply wp_ret
  repeat (first | with_reducible apply then_ret | with_reducible apply block_ret)
  exact bodyPost_ret (results_tmp rfl _ _ _) rfl ⟨rfl, h13.b⟩
set_option maxRecDepth 100000 in
set_option maxHeartbeats 400000 in
theorem ron_ft (P : Pt) (hx : P.x < M256) (hy : P.y < M256) (hrx : ¬ P.x % pP = P.x) (hry : P.y % pP = P.y) (w : World) :
    Calls Tryz.prog 75 #[.agg (nums 2 (two P.x P.y))] w fun e w' => e = .returned (.bool false) ∧ Below w.heap.size w w' := by
  go_enter Tryz.func75, Tryz.ntmps75
  repeat with_reducible (first | (apply wp_seq_k; intro _ _) | (go_at_K; go_step) | apply tn | apply wp_block | apply wp_skip | apply wp_exit | apply then_exit | apply block_normal | apply block_same | exact block_far rfl ?_)
  have h1 := KD.begin w
  with_reducible apply wp_region_lit
  refine wpList_val (R := KD w.heap.size w [(w.heap.size, 42, nums 2 (two P.x P.y))]) (.pointer (some ⟨w.heap.size, 0, none⟩)) rfl (lands_run2 (box_run _ _ _ rfl rfl _) (h1.add _ _)) ?_
  intro w2 h2
  simp only [pu]
  clear h1
  refine wpList_val (.bool false) rfl (by refine lands_value (w := w2) ?_ h2; go_simp <;> rfl) ?_
  intro w3 h3
  simp only [pu]
  clear h2
  refine wpList_nil ?_
  repeat with_reducible (first | (apply wp_seq_k; intro _ _) | (go_at_K; go_step) | apply tn | apply wp_block | apply wp_skip | apply wp_exit | apply then_exit | apply block_normal | apply block_same | exact block_far rfl ?_)
  with_reducible apply wp_region_lit
  refine wpList_val (.pointer (some ⟨w.heap.size, 0, none⟩)) rfl (by refine lands_value (w := w3) ?_ h3; go_simp) ?_
  intro w4 h4
  simp only [pu]
  clear h3
  refine wpList_val (.agg (r64 4 (F4 P.x))) rfl (by exact lands_num 0 _ _ rfl _ 2 _ rfl _ (h4.blk _ m0) (by decide) _ Tryz.underlying40 rfl (by kernel_rfl) h4) ?_
  intro w5 h5
  simp only [pu]
  clear h4
  refine wpList_val (.bool false) rfl (by exact h5.call (rright_false P.x w5 hx hrx) (by go_simp)) ?_
  intro w6 h6
  simp only [pu]
  clear h5
  refine wpList_val (.bool false) rfl (by refine lands_value (w := w6) ?_ h6; go_simp <;> rfl) ?_
  intro w7 h7
  simp only [pu]
  clear h6
  refine wpList_nil ?_
  repeat with_reducible (first | (apply wp_seq_k; intro _ _) | (go_at_K; go_step) | apply tn | apply wp_block | apply wp_skip | apply wp_exit | apply then_exit | apply block_normal | apply block_same | exact block_far rfl ?_)
  with_reducible apply wp_region_lit
  refine wpList_val (.pointer (some ⟨w.heap.size, 4, none⟩)) rfl (by refine lands_value (w := w7) ?_ h7; go_simp) ?_
  intro w8 h8
  simp only [pu]
  clear h7
  refine wpList_val (.agg (r64 4 (F4 P.y))) rfl (by exact lands_num 1 _ _ rfl _ 2 _ rfl _ (h8.blk _ m0) (by decide) _ Tryz.underlying40 rfl (by kernel_rfl) h8) ?_
  intro w9 h9
  simp only [pu]
  clear h8
  refine wpList_val (.bool true) rfl (by exact h9.call (rright_true P.y w9 hy hry) (by go_simp)) ?_
  intro w10 h10
  simp only [pu]
  clear h9
  refine wpList_val (.bool true) rfl (by refine lands_value (w := w10) ?_ h10; go_simp <;> rfl) ?_
  intro w11 h11
  simp only [pu]
  clear h10
  refine wpList_nil ?_
  repeat with_reducible (first | (apply wp_seq_k; intro _ _) | (go_at_K; go_step) | apply tn | apply wp_block | apply wp_skip | apply wp_exit | apply then_exit | apply block_normal | apply block_same | exact block_far rfl ?_)
  obtain ⟨n12, hn12⟩ : ∃ n, n = w11.heap.size := ⟨_, rfl⟩
  refine wp_region_anyE (KM w.heap.size n12 w (fun _ _ => [(w.heap.size, 42, nums 2 (two P.x P.y))]) 1000 1001 []) (fun _ => false) (by kernel_rfl) (KM.begin h11 hn12 (lows hn12 h11 (fun _ _ => rfl)) _) ?_
  refine kO 0 (.bool false) rfl rfl rfl (fun _ => rfl) (fun qv L wx hT => ?_) ?_
  · refine lands_value (w := wx) ?_ hT; go_simp <;> rfl
  simp only [pu]
  refine kO 1 (.bool false) rfl rfl rfl (fun _ => rfl) (fun qv L wx hT => ?_) ?_
  · refine lands_value (w := wx) ?_ hT; go_simp <;> rfl
  simp only [pu]
  refine anyE_take (i := 2) undef rfl rfl (by kernel_rfl) (by kernel_rfl) (by kernel_rfl) (fun qv => ym_skip rfl rfl) ?_
  simp only [pu]
  refine kO 3 (.bool false) rfl rfl rfl (fun _ => rfl) (fun qv L wx hT => ?_) ?_
  · refine lands_value (w := wx) ?_ hT; go_simp <;> rfl
  simp only [pu]
  refine kO 4 (.bool false) rfl rfl rfl (fun _ => rfl) (fun qv L wx hT => ?_) ?_
  · refine lands_value (w := wx) ?_ hT; go_simp <;> rfl
  simp only [pu]
  refine anyE_take (i := 5) undef rfl rfl (by kernel_rfl) (by kernel_rfl) (by kernel_rfl) (fun qv => ym_skip rfl rfl) ?_
  simp only [pu]
  refine anyE_take (i := 6) undef rfl rfl (by kernel_rfl) (by kernel_rfl) (by kernel_rfl) (fun qv => ym_skip rfl rfl) ?_
  simp only [pu]
  refine anyE_take (i := 7) undef rfl rfl (by kernel_rfl) (by kernel_rfl) (by kernel_rfl) (fun qv => ym_skip rfl rfl) ?_
  simp only [pu]
  refine kO 8 (.bool false) rfl rfl rfl (fun _ => rfl) (fun qv L wx hT => ?_) ?_
  · refine lands_value (w := wx) ?_ hT; go_simp <;> rfl
  simp only [pu]
  refine kO 9 (.bool false) rfl rfl rfl (fun _ => rfl) (fun qv L wx hT => ?_) ?_
  · refine lands_value (w := wx) ?_ hT; go_simp <;> rfl
  simp only [pu]
  refine anyE_done (by kernel_rfl) (fun qv w13 hK => ?_) _
  have hE := hK.outs (by kernel_rfl) (by kernel_rfl)  (b := false) (c := false) (by kernel_rfl) (by kernel_rfl)
  clear hK h11 hn12
  have h13 : KD w.heap.size w [(w.heap.size, 42, nums 2 (two P.x P.y))] w13 := hE.k
  clear hE
  clear n12
  clear qv
  repeat with_reducible (first | (apply wp_seq_k; intro _ _) | (go_at_K; go_step) | apply tn | apply wp_block | apply wp_skip | apply wp_exit | apply then_exit | apply block_normal | apply block_same | exact block_far rfl ?_)
  with_reducible apply wp_ret
  repeat (first | with_reducible apply then_ret | with_reducible apply block_ret)
  exact bodyPost_ret (results_tmp rfl _ _ _) rfl ⟨rfl, h13.b⟩
set_option maxRecDepth 100000 in
set_option maxHeartbeats 400000 in
theorem ron_tf (P : Pt) (hx : P.x < M256) (hy : P.y < M256) (hrx : P.x % pP = P.x) (hry : ¬ P.y % pP = P.y) (w : World) :
    Calls Tryz.prog 75 #[.agg (nums 2 (two P.x P.y))] w fun e w' => e = .returned (.bool false) ∧ Below w.heap.size w w' := by
  go_enter Tryz.func75, Tryz.ntmps75
  repeat with_reducible (first | (apply wp_seq_k; intro _ _) | (go_at_K; go_step) | apply tn | apply wp_block | apply wp_skip | apply wp_exit | apply then_exit | apply block_normal | apply block_same | exact block_far rfl ?_)
  have h1 := KD.begin w
  with_reducible apply wp_region_lit
  refine wpList_val (R := KD w.heap.size w [(w.heap.size, 42, nums 2 (two P.x P.y))]) (.pointer (some ⟨w.heap.size, 0, none⟩)) rfl (lands_run2 (box_run _ _ _ rfl rfl _) (h1.add _ _)) ?_
  intro w2 h2
  simp only [pu]
  clear h1
  refine wpList_val (.bool false) rfl (by refine lands_value (w := w2) ?_ h2; go_simp <;> rfl) ?_
  intro w3 h3
  simp only [pu]
  clear h2
  refine wpList_nil ?_
  repeat with_reducible (first | (apply wp_seq_k; intro _ _) | (go_at_K; go_step) | apply tn | apply wp_block | apply wp_skip | apply wp_exit | apply then_exit | apply block_normal | apply block_same | exact block_far rfl ?_)
  with_reducible apply wp_region_lit
  refine wpList_val (.pointer (some ⟨w.heap.size, 0, none⟩)) rfl (by refine lands_value (w := w3) ?_ h3; go_simp) ?_
  intro w4 h4
  simp only [pu]
  clear h3
  refine wpList_val (.agg (r64 4 (F4 P.x))) rfl (by exact lands_num 0 _ _ rfl _ 2 _ rfl _ (h4.blk _ m0) (by decide) _ Tryz.underlying40 rfl (by kernel_rfl) h4) ?_
  intro w5 h5
  simp only [pu]
  clear h4
  refine wpList_val (.bool true) rfl (by exact h5.call (rright_true P.x w5 hx hrx) (by go_simp)) ?_
  intro w6 h6
  simp only [pu]
  clear h5
  refine wpList_val (.bool true) rfl (by refine lands_value (w := w6) ?_ h6; go_simp <;> rfl) ?_
  intro w7 h7
  simp only [pu]
  clear h6
  refine wpList_nil ?_
  repeat with_reducible (first | (apply wp_seq_k; intro _ _) | (go_at_K; go_step) | apply tn | apply wp_block | apply wp_skip | apply wp_exit | apply then_exit | apply block_normal | apply block_same | exact block_far rfl ?_)
  with_reducible apply wp_region_lit
  refine wpList_val (.pointer (some ⟨w.heap.size, 4, none⟩)) rfl (by refine lands_value (w := w7) ?_ h7; go_simp) ?_
  intro w8 h8
  simp only [pu]
  clear h7
  refine wpList_val (.agg (r64 4 (F4 P.y))) rfl (by exact lands_num 1 _ _ rfl _ 2 _ rfl _ (h8.blk _ m0) (by decide) _ Tryz.underlying40 rfl (by kernel_rfl) h8) ?_
  intro w9 h9
  simp only [pu]
  clear h8
  refine wpList_val (.bool false) rfl (by exact h9.call (rright_false P.y w9 hy hry) (by go_simp)) ?_
  intro w10 h10
  simp only [pu]
  clear h9
  refine wpList_val (.bool false) rfl (by refine lands_value (w := w10) ?_ h10; go_simp <;> rfl) ?_
  intro w11 h11
  simp only [pu]
  clear h10
  refine wpList_nil ?_
  repeat with_reducible (first | (apply wp_seq_k; intro _ _) | (go_at_K; go_step) | apply tn | apply wp_block | apply wp_skip | apply wp_exit | apply then_exit | apply block_normal | apply block_same | exact block_far rfl ?_)
  obtain ⟨n12, hn12⟩ : ∃ n, n = w11.heap.size := ⟨_, rfl⟩
  refine wp_region_anyE (KM w.heap.size n12 w (fun _ _ => [(w.heap.size, 42, nums 2 (two P.x P.y))]) 1000 1001 []) (fun _ => false) (by kernel_rfl) (KM.begin h11 hn12 (lows hn12 h11 (fun _ _ => rfl)) _) ?_
  refine kO 0 (.bool true) rfl rfl rfl (fun _ => rfl) (fun qv L wx hT => ?_) ?_
  · refine lands_value (w := wx) ?_ hT; go_simp <;> rfl
  simp only [pu]
  refine kO 1 (.bool true) rfl rfl rfl (fun _ => rfl) (fun qv L wx hT => ?_) ?_
  · refine lands_value (w := wx) ?_ hT; go_simp <;> rfl
  simp only [pu]
  refine kO 2 (.bool false) rfl rfl rfl (fun _ => rfl) (fun qv L wx hT => ?_) ?_
  · refine lands_value (w := wx) ?_ hT; go_simp <;> rfl
  simp only [pu]
  refine kO 3 (.bool false) rfl rfl rfl (fun _ => rfl) (fun qv L wx hT => ?_) ?_
  · refine lands_value (w := wx) ?_ hT; go_simp <;> rfl
  simp only [pu]
  refine kO 4 (.bool false) rfl rfl rfl (fun _ => rfl) (fun qv L wx hT => ?_) ?_
  · refine lands_value (w := wx) ?_ hT; go_simp <;> rfl
  simp only [pu]
  refine anyE_take (i := 5) undef rfl rfl (by kernel_rfl) (by kernel_rfl) (by kernel_rfl) (fun qv => ym_skip rfl rfl) ?_
  simp only [pu]
  refine anyE_take (i := 6) undef rfl rfl (by kernel_rfl) (by kernel_rfl) (by kernel_rfl) (fun qv => ym_skip rfl rfl) ?_
  simp only [pu]
  refine anyE_take (i := 7) undef rfl rfl (by kernel_rfl) (by kernel_rfl) (by kernel_rfl) (fun qv => ym_skip rfl rfl) ?_
  simp only [pu]
  refine kO 8 (.bool false) rfl rfl rfl (fun _ => rfl) (fun qv L wx hT => ?_) ?_
  · refine lands_value (w := wx) ?_ hT; go_simp <;> rfl
  simp only [pu]
  refine kO 9 (.bool false) rfl rfl rfl (fun _ => rfl) (fun qv L wx hT => ?_) ?_
  · refine lands_value (w := wx) ?_ hT; go_simp <;> rfl
  simp only [pu]
  refine anyE_done (by kernel_rfl) (fun qv w13 hK => ?_) _
  have hE := hK.outs (by kernel_rfl) (by kernel_rfl)  (b := false) (c := false) (by kernel_rfl) (by kernel_rfl)
  clear hK h11 hn12
  have h13 : KD w.heap.size w [(w.heap.size, 42, nums 2 (two P.x P.y))] w13 := hE.k
  clear hE
  clear n12
  clear qv
  repeat with_reducible (first | (apply wp_seq_k; intro _ _) | (go_at_K; go_step) | apply tn | apply wp_block | apply wp_skip | apply wp_exit | apply then_exit | apply block_normal | apply block_same | exact block_far rfl ?_)
  with_reducible apply wp_ret
  repeat (first | with_reducible apply then_ret | with_reducible apply block_ret)
  exact bodyPost_ret (results_tmp rfl _ _ _) rfl ⟨rfl, h13.b⟩
set_option maxRecDepth 100000 in
set_option maxHeartbeats 400000 in
theorem ron_tt (P : Pt) (hx : P.x < M256) (hy : P.y < M256) (hrx : P.x % pP = P.x) (hry : P.y % pP = P.y) (c : Bool) (hc : decide (subP (mulP P.y P.y) (mulP P.x P.x) = addP 1 (mulP dP (mulP (mulP P.x P.x) (mulP P.y P.y)))) = c) (w : World) :
    Calls Tryz.prog 75 #[.agg (nums 2 (two P.x P.y))] w fun e w' => e = .returned (.bool c) ∧ Below w.heap.size w w' := by
  go_enter Tryz.func75, Tryz.ntmps75
  repeat with_reducible (first | (apply wp_seq_k; intro _ _) | (go_at_K; go_step) | apply tn | apply wp_block | apply wp_skip | apply wp_exit | apply then_exit | apply block_normal | apply block_same | exact block_far rfl ?_)
  have h1 := KD.begin w
  with_reducible apply wp_region_lit
  refine wpList_val (R := KD w.heap.size w [(w.heap.size, 42, nums 2 (two P.x P.y))]) (.pointer (some ⟨w.heap.size, 0, none⟩)) rfl (lands_run2 (box_run _ _ _ rfl rfl _) (h1.add _ _)) ?_
  intro w2 h2
  simp only [pu]
  clear h1
  refine wpList_val (.bool false) rfl (by refine lands_value (w := w2) ?_ h2; go_simp <;> rfl) ?_
  intro w3 h3
  simp only [pu]
  clear h2
  refine wpList_nil ?_
  repeat with_reducible (first | (apply wp_seq_k; intro _ _) | (go_at_K; go_step) | apply tn | apply wp_block | apply wp_skip | apply wp_exit | apply then_exit | apply block_normal | apply block_same | exact block_far rfl ?_)
  with_reducible apply wp_region_lit
  refine wpList_val (.pointer (some ⟨w.heap.size, 0, none⟩)) rfl (by refine lands_value (w := w3) ?_ h3; go_simp) ?_
  intro w4 h4
  simp only [pu]
  clear h3
  refine wpList_val (.agg (r64 4 (F4 P.x))) rfl (by exact lands_num 0 _ _ rfl _ 2 _ rfl _ (h4.blk _ m0) (by decide) _ Tryz.underlying40 rfl (by kernel_rfl) h4) ?_
  intro w5 h5
  simp only [pu]
  clear h4
  refine wpList_val (.bool true) rfl (by exact h5.call (rright_true P.x w5 hx hrx) (by go_simp)) ?_
  intro w6 h6
  simp only [pu]
  clear h5
  refine wpList_val (.bool true) rfl (by refine lands_value (w := w6) ?_ h6; go_simp <;> rfl) ?_
  intro w7 h7
  simp only [pu]
  clear h6
  refine wpList_nil ?_
  repeat with_reducible (first | (apply wp_seq_k; intro _ _) | (go_at_K; go_step) | apply tn | apply wp_block | apply wp_skip | apply wp_exit | apply then_exit | apply block_normal | apply block_same | exact block_far rfl ?_)
  with_reducible apply wp_region_lit
  refine wpList_val (.pointer (some ⟨w.heap.size, 4, none⟩)) rfl (by refine lands_value (w := w7) ?_ h7; go_simp) ?_
  intro w8 h8
  simp only [pu]
  clear h7
  refine wpList_val (.agg (r64 4 (F4 P.y))) rfl (by exact lands_num 1 _ _ rfl _ 2 _ rfl _ (h8.blk _ m0) (by decide) _ Tryz.underlying40 rfl (by kernel_rfl) h8) ?_
  intro w9 h9
  simp only [pu]
  clear h8
  refine wpList_val (.bool true) rfl (by exact h9.call (rright_true P.y w9 hy hry) (by go_simp)) ?_
  intro w10 h10
  simp only [pu]
  clear h9
  refine wpList_val (.bool true) rfl (by refine lands_value (w := w10) ?_ h10; go_simp <;> rfl) ?_
  intro w11 h11
  simp only [pu]
  clear h10
  refine wpList_nil ?_
  repeat with_reducible (first | (apply wp_seq_k; intro _ _) | (go_at_K; go_step) | apply tn | apply wp_block | apply wp_skip | apply wp_exit | apply then_exit | apply block_normal | apply block_same | exact block_far rfl ?_)
  obtain ⟨n12, hn12⟩ : ∃ n, n = w11.heap.size := ⟨_, rfl⟩
  refine wp_region_anyE (KM w.heap.size n12 w (fun _ _ => [(w.heap.size, 42, nums 2 (two P.x P.y))]) 1000 1001 []) (fun _ => false) (by kernel_rfl) (KM.begin h11 hn12 (lows hn12 h11 (fun _ _ => rfl)) _) ?_
  refine kO 0 (.bool true) rfl rfl rfl (fun _ => rfl) (fun qv L wx hT => ?_) ?_
  · refine lands_value (w := wx) ?_ hT; go_simp <;> rfl
  simp only [pu]
  refine kO 1 (.bool true) rfl rfl rfl (fun _ => rfl) (fun qv L wx hT => ?_) ?_
  · refine lands_value (w := wx) ?_ hT; go_simp <;> rfl
  simp only [pu]
  refine kO 2 (.bool true) rfl rfl rfl (fun _ => rfl) (fun qv L wx hT => ?_) ?_
  · refine lands_value (w := wx) ?_ hT; go_simp <;> rfl
  simp only [pu]
  refine kO 3 (.bool true) rfl rfl rfl (fun _ => rfl) (fun qv L wx hT => ?_) ?_
  · refine lands_value (w := wx) ?_ hT; go_simp <;> rfl
  simp only [pu]
  refine kO 4 (.bool true) rfl rfl rfl (fun _ => rfl) (fun qv L wx hT => ?_) ?_
  · refine lands_value (w := wx) ?_ hT; go_simp <;> rfl
  simp only [pu]
  refine kO 5 (.agg (r64 4 (F4 dP))) rfl rfl rfl (fun _ => rfl) (fun qv L wx hT => ?_) ?_
  · exact hT.call (rd_any wx) (by go_simp)
  simp only [pu]
  refine kO 6 (.agg (nums 2 (two P.x P.y))) rfl rfl rfl (fun _ => rfl) (fun qv L wx hT => ?_) ?_
  · exact lands_load _ _ rfl _ rfl _ _ _ (hT.k.blk _ m0) Tryz.underlying42 rfl (by kernel_rfl) hT
  simp only [pu]
  refine kO 7 (.bool c) rfl rfl rfl (fun _ => rfl) (fun qv L wx hT => ?_) ?_
  · exact hT.call (ron1_any P hx hy c hc wx) (by go_simp)
  simp only [pu]
  refine kO 8 (.bool c) rfl rfl rfl (fun _ => rfl) (fun qv L wx hT => ?_) ?_
  · refine lands_value (w := wx) ?_ hT; go_simp <;> rfl
  simp only [pu]
  refine kO 9 (.bool c) rfl rfl rfl (fun _ => rfl) (fun qv L wx hT => ?_) ?_
  · refine lands_value (w := wx) ?_ hT; go_simp <;> rfl
  simp only [pu]
  refine anyE_done (by kernel_rfl) (fun qv w13 hK => ?_) _
  have hE := hK.outs (by kernel_rfl) (by kernel_rfl)  (b := false) (c := false) (by kernel_rfl) (by kernel_rfl)
  clear hK h11 hn12
  have h13 : KD w.heap.size w [(w.heap.size, 42, nums 2 (two P.x P.y))] w13 := hE.k
  clear hE
  clear n12
  clear qv
  repeat with_reducible (first | (apply wp_seq_k; intro _ _) | (go_at_K; go_step) | apply tn | apply wp_block | apply wp_skip | apply wp_exit | apply then_exit | apply block_normal | apply block_same | exact block_far rfl ?_)
  with_reducible apply wp_ret
  repeat (first | with_reducible apply then_ret | with_reducible apply block_ret)
  exact bodyPost_ret (results_tmp rfl _ _ _) rfl ⟨rfl, h13.b⟩
theorem ron_any (P : Pt) (hx : P.x < M256) (hy : P.y < M256) (w : World) :
    Calls Tryz.prog 75 #[.agg (nums 2 (two P.x P.y))] w fun e w' => e = .returned (.bool (onB P)) ∧ Below w.heap.size w w' := by
  unfold onB
  by_cases h1 : P.x % pP = P.x
  · by_cases h2 : P.y % pP = P.y
    · rw [decide_eq_true h1, decide_eq_true h2, Bool.true_and, Bool.true_and]; exact ron_tt P hx hy h1 h2 _ rfl w
    · rw [decide_eq_false h2, Bool.and_false, Bool.false_and]; exact ron_tf P hx hy h1 h2 w
  · by_cases h2 : P.y % pP = P.y
    · rw [decide_eq_false h1, Bool.false_and, Bool.false_and]; exact ron_ft P hx hy h1 h2 w
    · rw [decide_eq_false h1, Bool.false_and, Bool.false_and]; exact ron_ff P hx hy h1 h2 w
theorem ron_is (P : Pt) (hx : P.x < M256) (hy : P.y < M256) (b : Bool) (h : onB P = b) (w : World) :
    Calls Tryz.prog 75 #[.agg (nums 2 (two P.x P.y))] w fun e w' => e = .returned (.bool b) ∧ Below w.heap.size w w' := h ▸ ron_any P hx hy w
set_option maxRecDepth 100000 in
set_option maxHeartbeats 400000 in
theorem rmade_t (P : Pt) (hx : P.x < M256) (hy : P.y < M256) (ho : onB P = true) (w : World) :
    Calls Tryz.prog 68 #[.agg (nums 2 (two P.x P.y))] w fun e w' => e = .returned (.agg (nums 2 (two P.x P.y))) ∧ Below w.heap.size w w' := by
  go_enter Tryz.func68, Tryz.ntmps68
  repeat with_reducible (first | (apply wp_seq_k; intro _ _) | (go_at_K; go_step) | apply tn | apply wp_block | apply wp_skip | apply wp_exit | apply then_exit | apply block_normal | apply block_same | exact block_far rfl ?_)
  have h1 := KD.begin w
  with_reducible apply wp_region_lit
  refine wpList_val (R := KD w.heap.size w [(w.heap.size, 42, nums 2 (two P.x P.y))]) (.pointer (some ⟨w.heap.size, 0, none⟩)) rfl (lands_run2 (box_run _ _ _ rfl rfl _) (h1.add _ _)) ?_
  intro w2 h2
  simp only [pu]
  clear h1
  refine wpList_val (R := KD w.heap.size w [(w2.heap.size, 42, nums 2 (two 0 0)), (w.heap.size, 42, nums 2 (two P.x P.y))]) (.pointer (some ⟨w2.heap.size, 0, none⟩)) rfl (lands_run2 (alloc_run _ _ rfl zero_pt _) (h2.add _ _)) ?_
  intro w3 h3
  simp only [pu]
  clear h2
  generalize w2.heap.size = g4 at h3 ⊢
  refine wpList_nil ?_
  repeat with_reducible (first | (apply wp_seq_k; intro _ _) | (go_at_K; go_step) | apply tn | apply wp_block | apply wp_skip | apply wp_exit | apply then_exit | apply block_normal | apply block_same | exact block_far rfl ?_)
  with_reducible apply wp_region_lit
  refine wpList_val (.agg (nums 2 (two P.x P.y))) rfl (by exact lands_load _ _ rfl _ rfl _ _ _ (h3.blk _ m1) Tryz.underlying42 rfl (by kernel_rfl) h3) ?_
  intro w5 h5
  simp only [pu]
  clear h3
  refine wpList_val (.bool true) rfl (by exact h5.call (ron_is P hx hy true ho w5) (by go_simp)) ?_
  intro w6 h6
  simp only [pu]
  clear h5
  refine wpList_nil ?_
  repeat with_reducible (first | (apply wp_seq_k; intro _ _) | (go_at_K; go_step) | apply tn | apply wp_block | apply wp_skip | apply wp_exit | apply then_exit | apply block_normal | apply block_same | exact block_far rfl ?_)
  refine wp_cond_true rfl ?_
  repeat with_reducible (first | (apply wp_seq_k; intro _ _) | (go_at_K; go_step) | apply tn | apply wp_block | apply wp_skip | apply wp_exit | apply then_exit | apply block_normal | apply block_same | exact block_far rfl ?_)
  with_reducible apply wp_region_lit
  refine wpList_val (.agg (nums 2 (two P.x P.y))) rfl (by exact lands_load _ _ rfl _ rfl _ _ _ (h6.blk _ m1) Tryz.underlying42 rfl (by kernel_rfl) h6) ?_
  intro w7 h7
  simp only [pu]
  clear h6
  refine wpList_val (R := KD w.heap.size w [(g4, 42, nums 2 (two P.x P.y)), (w.heap.size, 42, nums 2 (two P.x P.y))]) undef rfl (lands_store _ _ _ rfl g4 (nums 2 (two P.x P.y)) rfl rfl _ _ (h7.blk _ m0) (by kernel_rfl) (by kernel_rfl) (row_one fun _ => rfl) (h7.put (k := 0) rfl _)) ?_
  intro w8 h8
  simp only [pu]
  clear h7
  refine wpList_nil ?_
  repeat with_reducible (first | (apply wp_seq_k; intro _ _) | (go_at_K; go_step) | apply tn | apply wp_block | apply wp_skip | apply wp_exit | apply then_exit | apply block_normal | apply block_same | exact block_far rfl ?_)
  with_reducible apply wp_ret
  repeat (first | with_reducible apply then_ret | with_reducible apply block_ret)
  exact bodyPost_ret (results_cell_row rfl _ _ g4 42 (nums 2 (two P.x P.y)) (0, 0) _ rfl (h8.blk _ m0) Tryz.underlying42 rfl (by kernel_rfl)) rfl ⟨rfl, h8.b⟩
set_option maxRecDepth 100000 in
set_option maxHeartbeats 400000 in
theorem rmade_f (P : Pt) (hx : P.x < M256) (hy : P.y < M256) (ho : onB P = false) (w : World) :
    Calls Tryz.prog 68 #[.agg (nums 2 (two P.x P.y))] w fun e w' => e = .returned (.agg (nums 2 (two pZ.x pZ.y))) ∧ Below w.heap.size w w' := by
  go_enter Tryz.func68, Tryz.ntmps68
  repeat with_reducible (first | (apply wp_seq_k; intro _ _) | (go_at_K; go_step) | apply tn | apply wp_block | apply wp_skip | apply wp_exit | apply then_exit | apply block_normal | apply block_same | exact block_far rfl ?_)
  have h1 := KD.begin w
  with_reducible apply wp_region_lit
  refine wpList_val (R := KD w.heap.size w [(w.heap.size, 42, nums 2 (two P.x P.y))]) (.pointer (some ⟨w.heap.size, 0, none⟩)) rfl (lands_run2 (box_run _ _ _ rfl rfl _) (h1.add _ _)) ?_
  intro w2 h2
  simp only [pu]
  clear h1
  refine wpList_val (R := KD w.heap.size w [(w2.heap.size, 42, nums 2 (two 0 0)), (w.heap.size, 42, nums 2 (two P.x P.y))]) (.pointer (some ⟨w2.heap.size, 0, none⟩)) rfl (lands_run2 (alloc_run _ _ rfl zero_pt _) (h2.add _ _)) ?_
  intro w3 h3
  simp only [pu]
  clear h2
  generalize w2.heap.size = g4 at h3 ⊢
  refine wpList_nil ?_
  repeat with_reducible (first | (apply wp_seq_k; intro _ _) | (go_at_K; go_step) | apply tn | apply wp_block | apply wp_skip | apply wp_exit | apply then_exit | apply block_normal | apply block_same | exact block_far rfl ?_)
  with_reducible apply wp_region_lit
  refine wpList_val (.agg (nums 2 (two P.x P.y))) rfl (by exact lands_load _ _ rfl _ rfl _ _ _ (h3.blk _ m1) Tryz.underlying42 rfl (by kernel_rfl) h3) ?_
  intro w5 h5
  simp only [pu]
  clear h3
  refine wpList_val (.bool false) rfl (by exact h5.call (ron_is P hx hy false ho w5) (by go_simp)) ?_
  intro w6 h6
  simp only [pu]
  clear h5
  refine wpList_nil ?_
  repeat with_reducible (first | (apply wp_seq_k; intro _ _) | (go_at_K; go_step) | apply tn | apply wp_block | apply wp_skip | apply wp_exit | apply then_exit | apply block_normal | apply block_same | exact block_far rfl ?_)
  refine wp_cond_false rfl ?_
  repeat with_reducible (first | (apply wp_seq_k; intro _ _) | (go_at_K; go_step) | apply tn | apply wp_block | apply wp_skip | apply wp_exit | apply then_exit | apply block_normal | apply block_same | exact block_far rfl ?_)
  with_reducible apply wp_region_lit
  refine wpList_val (.agg (nums 2 (two pZ.x pZ.y))) rfl (by exact h6.call (rzero_any w6) (by go_simp)) ?_
  intro w7 h7
  simp only [pu]
  clear h6
  refine wpList_val (R := KD w.heap.size w [(g4, 42, nums 2 (two pZ.x pZ.y)), (w.heap.size, 42, nums 2 (two P.x P.y))]) undef rfl (lands_store _ _ _ rfl g4 (nums 2 (two pZ.x pZ.y)) rfl rfl _ _ (h7.blk _ m0) (by kernel_rfl) (by kernel_rfl) (row_one fun _ => rfl) (h7.put (k := 0) rfl _)) ?_
  intro w8 h8
  simp only [pu]
  clear h7
  refine wpList_nil ?_
  repeat with_reducible (first | (apply wp_seq_k; intro _ _) | (go_at_K; go_step) | apply tn | apply wp_block | apply wp_skip | apply wp_exit | apply then_exit | apply block_normal | apply block_same | exact block_far rfl ?_)
  with_reducible apply wp_ret
  repeat (first | with_reducible apply then_ret | with_reducible apply block_ret)
  exact bodyPost_ret (results_cell_row rfl _ _ g4 42 (nums 2 (two pZ.x pZ.y)) (0, 0) _ rfl (h8.blk _ m0) Tryz.underlying42 rfl (by kernel_rfl)) rfl ⟨rfl, h8.b⟩
theorem rmade_any (P : Pt) (hx : P.x < M256) (hy : P.y < M256) (w : World) :
    Calls Tryz.prog 68 #[.agg (nums 2 (two P.x P.y))] w fun e w' => e = .returned (.agg (nums 2 (two (cnt P).x (cnt P).y))) ∧ Below w.heap.size w w' := by
  cases h : onB P with
  | true => rw [cnt_on h]; exact rmade_t P hx hy h w
  | false => rw [cnt_off h]; exact rmade_f P hx hy h w
set_option maxRecDepth 100000 in
set_option maxHeartbeats 400000 in
theorem rpart_any (P : Pt) (hx : P.x < M256) (hy : P.y < M256) (w : World) :
    Calls Tryz.prog 67 #[.agg (nums 2 (two P.x P.y))] w fun e w' => e = .returned (.agg (nums 4 (qua P.x P.y 1 (mulP P.x P.y)))) ∧ Below w.heap.size w w' := by
  go_enter Tryz.func67, Tryz.ntmps67
  repeat with_reducible (first | (apply wp_seq_k; intro _ _) | (go_at_K; go_step) | apply tn | apply wp_block | apply wp_skip | apply wp_exit | apply then_exit | apply block_normal | apply block_same | exact block_far rfl ?_)
  have h1 := KD.begin w
  with_reducible apply wp_region_lit
  refine wpList_val (R := KD w.heap.size w [(w.heap.size, 42, nums 2 (two P.x P.y))]) (.pointer (some ⟨w.heap.size, 0, none⟩)) rfl (lands_run2 (box_run _ _ _ rfl rfl _) (h1.add _ _)) ?_
  intro w2 h2
  simp only [pu]
  clear h1
  refine wpList_val (R := KD w.heap.size w [(w2.heap.size, 84, nums 4 (qua 0 0 0 0)), (w.heap.size, 42, nums 2 (two P.x P.y))]) (.pointer (some ⟨w2.heap.size, 0, none⟩)) rfl (lands_run2 (alloc_run _ _ rfl zero_pa _) (h2.add _ _)) ?_
  intro w3 h3
  simp only [pu]
  clear h2
  generalize w2.heap.size = g4 at h3 ⊢
  refine wpList_nil ?_
  repeat with_reducible (first | (apply wp_seq_k; intro _ _) | (go_at_K; go_step) | apply tn | apply wp_block | apply wp_skip | apply wp_exit | apply then_exit | apply block_normal | apply block_same | exact block_far rfl ?_)
  obtain ⟨n5, hn5⟩ : ∃ n, n = w3.heap.size := ⟨_, rfl⟩
  refine wp_region_anyE (KM w.heap.size n5 w (fun b _ => bif b then [(g4, 84, nums 4 (qua P.x P.y 1 (mulP P.x P.y))), (w.heap.size, 42, nums 2 (two P.x P.y))] else [(g4, 84, nums 4 (qua 0 0 0 0)), (w.heap.size, 42, nums 2 (two P.x P.y))]) 11 1001 []) (fun _ => false) (by kernel_rfl) (KM.begin h3 hn5 (lows hn5 h3 (fun b _ => by cases b <;> simp only [cond_true, cond_false, List.map_cons, List.map_nil])) _) ?_
  refine kO 0 (.pointer (some ⟨w.heap.size, 0, none⟩)) rfl rfl rfl (fun _ => rfl) (fun qv L wx hT => ?_) ?_
  · refine lands_value (w := wx) ?_ hT; go_simp
  simp only [pu]
  refine kA 1 9 (.agg (r64 4 (F4 P.x))) rfl rfl rfl (fun _ => rfl) (fun qv L wx hk hT => ?_) ?_
  · exact lands_num 0 _ _ rfl _ 2 _ rfl _ (hk.blk _ m1) (by decide) _ Tryz.underlying40 rfl (by kernel_rfl) hT
  simp only [pu]
  refine kO 2 (.pointer (some ⟨w.heap.size, 4, none⟩)) rfl rfl rfl (fun _ => rfl) (fun qv L wx hT => ?_) ?_
  · refine lands_value (w := wx) ?_ hT; go_simp
  simp only [pu]
  refine kA 3 9 (.agg (r64 4 (F4 P.y))) rfl rfl rfl (fun _ => rfl) (fun qv L wx hk hT => ?_) ?_
  · exact lands_num 1 _ _ rfl _ 2 _ rfl _ (hk.blk _ m1) (by decide) _ Tryz.underlying40 rfl (by kernel_rfl) hT
  simp only [pu]
  refine kO 4 (.agg (r64 4 (F4 1))) rfl rfl rfl (fun _ => rfl) (fun qv L wx hT => ?_) ?_
  · exact hT.call (rsmall_nat 1 wx (by decide)) (by go_simp)
  simp only [pu]
  refine kO 5 (.pointer (some ⟨w.heap.size, 0, none⟩)) rfl rfl rfl (fun _ => rfl) (fun qv L wx hT => ?_) ?_
  · refine lands_value (w := wx) ?_ hT; go_simp
  simp only [pu]
  refine kA 6 9 (.agg (r64 4 (F4 P.x))) rfl rfl rfl (fun _ => rfl) (fun qv L wx hk hT => ?_) ?_
  · exact lands_num 0 _ _ rfl _ 2 _ rfl _ (hk.blk _ m1) (by decide) _ Tryz.underlying40 rfl (by kernel_rfl) hT
  simp only [pu]
  refine kO 7 (.pointer (some ⟨w.heap.size, 4, none⟩)) rfl rfl rfl (fun _ => rfl) (fun qv L wx hT => ?_) ?_
  · refine lands_value (w := wx) ?_ hT; go_simp
  simp only [pu]
  refine kA 8 9 (.agg (r64 4 (F4 P.y))) rfl rfl rfl (fun _ => rfl) (fun qv L wx hk hT => ?_) ?_
  · exact lands_num 1 _ _ rfl _ 2 _ rfl _ (hk.blk _ m1) (by decide) _ Tryz.underlying40 rfl (by kernel_rfl) hT
  simp only [pu]
  refine kO 9 (.agg (r64 4 (F4 (mulP P.x P.y)))) rfl rfl rfl (fun _ => rfl) (fun qv L wx hT => ?_) ?_
  · exact hT.call (rmulP P.x P.y wx hx hy) (by go_simp)
  simp only [pu]
  refine kO 10 (.agg (nums 4 (qua P.x P.y 1 (mulP P.x P.y)))) rfl rfl rfl (fun _ => rfl) (fun qv L wx hT => ?_) ?_
  · exact lands_built _ _ rfl _ rfl _ (by kernel_rfl) hT
  simp only [pu]
  refine anyE_take (i := 11) undef rfl rfl (by kernel_rfl) (by kernel_rfl) (by kernel_rfl) (fun qv => ym_first (k := 0) _ _ _ (by kernel_rfl) rfl rfl rfl rfl (by kernel_rfl) (by kernel_rfl) (row_one fun _ => rfl) (fun _ => rfl) (fun _ => rfl)) ?_
  simp only [pu]
  refine anyE_done (by kernel_rfl) (fun qv w6 hK => ?_) _
  have hE := hK.outs (by kernel_rfl) (by kernel_rfl)  (b := true) (c := false) (by kernel_rfl) (by kernel_rfl)
  clear hK h3 hn5
  have h6 : KD w.heap.size w [(g4, 84, nums 4 (qua P.x P.y 1 (mulP P.x P.y))), (w.heap.size, 42, nums 2 (two P.x P.y))] w6 := hE.k
  clear hE
  clear n5
  clear qv
  repeat with_reducible (first | (apply wp_seq_k; intro _ _) | (go_at_K; go_step) | apply tn | apply wp_block | apply wp_skip | apply wp_exit | apply then_exit | apply block_normal | apply block_same | exact block_far rfl ?_)
  with_reducible apply wp_ret
  repeat (first | with_reducible apply then_ret | with_reducible apply block_ret)
  exact bodyPost_ret (results_cell_row rfl _ _ g4 84 (nums 4 (qua P.x P.y 1 (mulP P.x P.y))) (0, 0) _ rfl (h6.blk _ m0) Tryz.underlying84 rfl (by kernel_rfl)) rfl ⟨rfl, h6.b⟩
set_option maxRecDepth 100000 in
set_option maxHeartbeats 4000000 in
theorem rsum_any (p : R4) (hp : p.ok) (q : R4) (hq : q.ok) (w : World) :
    Calls Tryz.prog 70 #[.agg (r64 4 (F4 dP)), .agg (nums 4 (qua p.x p.y p.z p.t)), .agg (nums 4 (qua q.x q.y q.z q.t))] w fun e w' => e = .returned (.agg (nums 4 (qua (p.sum q).x (p.sum q).y (p.sum q).z (p.sum q).t))) ∧ Below w.heap.size w w' := by
  go_enter Tryz.func70, Tryz.ntmps70
  repeat with_reducible (first | (apply wp_seq_k; intro _ _) | (go_at_K; go_step) | apply tn | apply wp_block | apply wp_skip | apply wp_exit | apply then_exit | apply block_normal | apply block_same | exact block_far rfl ?_)
  have h1 := KD.begin w
  with_reducible apply wp_region_lit
  refine wpList_val (R := KD w.heap.size w [(w.heap.size, 40, r64 4 (F4 dP))]) (.pointer (some ⟨w.heap.size, 0, none⟩)) rfl (lands_run2 (box_run _ _ _ rfl rfl _) (h1.add _ _)) ?_
  intro w2 h2
  simp only [pu]
  clear h1
  refine wpList_val (R := KD w.heap.size w [(w2.heap.size, 84, nums 4 (qua p.x p.y p.z p.t)), (w.heap.size, 40, r64 4 (F4 dP))]) (.pointer (some ⟨w2.heap.size, 0, none⟩)) rfl (lands_run2 (box_run _ _ _ rfl rfl _) (h2.add _ _)) ?_
  intro w3 h3
  simp only [pu]
  clear h2
  generalize w2.heap.size = g4 at h3 ⊢
  refine wpList_val (R := KD w.heap.size w [(w3.heap.size, 84, nums 4 (qua q.x q.y q.z q.t)), (g4, 84, nums 4 (qua p.x p.y p.z p.t)), (w.heap.size, 40, r64 4 (F4 dP))]) (.pointer (some ⟨w3.heap.size, 0, none⟩)) rfl (lands_run2 (box_run _ _ _ rfl rfl _) (h3.add _ _)) ?_
  intro w5 h5
  simp only [pu]
  clear h3
  generalize w3.heap.size = g6 at h5 ⊢
  refine wpList_val (R := KD w.heap.size w [(w5.heap.size, 84, nums 4 (qua 0 0 0 0)), (g6, 84, nums 4 (qua q.x q.y q.z q.t)), (g4, 84, nums 4 (qua p.x p.y p.z p.t)), (w.heap.size, 40, r64 4 (F4 dP))]) (.pointer (some ⟨w5.heap.size, 0, none⟩)) rfl (lands_run2 (alloc_run _ _ rfl zero_pa _) (h5.add _ _)) ?_
  intro w7 h7
  simp only [pu]
  clear h5
  generalize w5.heap.size = g8 at h7 ⊢
  refine wpList_nil ?_
  repeat with_reducible (first | (apply wp_seq_k; intro _ _) | (go_at_K; go_step) | apply tn | apply wp_block | apply wp_skip | apply wp_exit | apply then_exit | apply block_normal | apply block_same | exact block_far rfl ?_)
  with_reducible apply wp_region_lit
  refine wpList_val (.pointer (some ⟨g4, 0, none⟩)) rfl (by refine lands_value (w := w7) ?_ h7; go_simp) ?_
  intro w9 h9
  simp only [pu]
  clear h7
  refine wpList_val (.agg (r64 4 (F4 p.x))) rfl (by exact lands_num 0 _ _ rfl _ 4 _ rfl _ (h9.blk _ m2) (by decide) _ Tryz.underlying40 rfl (by kernel_rfl) h9) ?_
  intro w10 h10
  simp only [pu]
  clear h9
  refine wpList_val (.pointer (some ⟨g6, 0, none⟩)) rfl (by refine lands_value (w := w10) ?_ h10; go_simp) ?_
  intro w11 h11
  simp only [pu]
  clear h10
  refine wpList_val (.agg (r64 4 (F4 q.x))) rfl (by exact lands_num 0 _ _ rfl _ 4 _ rfl _ (h11.blk _ m1) (by decide) _ Tryz.underlying40 rfl (by kernel_rfl) h11) ?_
  intro w12 h12
  simp only [pu]
  clear h11
  refine wpList_val (.agg (r64 4 (F4 (mulP p.x q.x)))) rfl (by exact h12.call (rmulP p.x q.x w12 hp.x hq.x) (by go_simp)) ?_
  intro w13 h13
  simp only [pu]
  clear h12
  refine wpList_val (R := KD w.heap.size w [(w13.heap.size, 40, r64 4 (F4 0)), (g8, 84, nums 4 (qua 0 0 0 0)), (g6, 84, nums 4 (qua q.x q.y q.z q.t)), (g4, 84, nums 4 (qua p.x p.y p.z p.t)), (w.heap.size, 40, r64 4 (F4 dP))]) (.pointer (some ⟨w13.heap.size, 0, none⟩)) rfl (lands_run2 (alloc_run _ _ rfl zero_fe _) (h13.add _ _)) ?_
  intro w14 h14
  simp only [pu]
  clear h13
  generalize w13.heap.size = g15 at h14 ⊢
  refine wpList_val (R := KD w.heap.size w [(g15, 40, r64 4 (F4 (mulP p.x q.x))), (g8, 84, nums 4 (qua 0 0 0 0)), (g6, 84, nums 4 (qua q.x q.y q.z q.t)), (g4, 84, nums 4 (qua p.x p.y p.z p.t)), (w.heap.size, 40, r64 4 (F4 dP))]) undef rfl (lands_store _ _ _ rfl g15 (r64 4 (F4 (mulP p.x q.x))) rfl rfl _ _ (h14.blk _ m0) (by kernel_rfl) (by kernel_rfl) (row_one fun _ => rfl) (h14.put (k := 0) rfl _)) ?_
  intro w16 h16
  simp only [pu]
  clear h14
  refine wpList_nil ?_
  repeat with_reducible (first | (apply wp_seq_k; intro _ _) | (go_at_K; go_step) | apply tn | apply wp_block | apply wp_skip | apply wp_exit | apply then_exit | apply block_normal | apply block_same | exact block_far rfl ?_)
  with_reducible apply wp_region_lit
  refine wpList_val (.pointer (some ⟨g4, 4, none⟩)) rfl (by refine lands_value (w := w16) ?_ h16; go_simp) ?_
  intro w17 h17
  simp only [pu]
  clear h16
  refine wpList_val (.agg (r64 4 (F4 p.y))) rfl (by exact lands_num 1 _ _ rfl _ 4 _ rfl _ (h17.blk _ m3) (by decide) _ Tryz.underlying40 rfl (by kernel_rfl) h17) ?_
  intro w18 h18
  simp only [pu]
  clear h17
  refine wpList_val (.pointer (some ⟨g6, 4, none⟩)) rfl (by refine lands_value (w := w18) ?_ h18; go_simp) ?_
  intro w19 h19
  simp only [pu]
  clear h18
  refine wpList_val (.agg (r64 4 (F4 q.y))) rfl (by exact lands_num 1 _ _ rfl _ 4 _ rfl _ (h19.blk _ m2) (by decide) _ Tryz.underlying40 rfl (by kernel_rfl) h19) ?_
  intro w20 h20
  simp only [pu]
  clear h19
  refine wpList_val (.agg (r64 4 (F4 (mulP p.y q.y)))) rfl (by exact h20.call (rmulP p.y q.y w20 hp.y hq.y) (by go_simp)) ?_
  intro w21 h21
  simp only [pu]
  clear h20
  refine wpList_val (R := KD w.heap.size w [(w21.heap.size, 40, r64 4 (F4 0)), (g15, 40, r64 4 (F4 (mulP p.x q.x))), (g8, 84, nums 4 (qua 0 0 0 0)), (g6, 84, nums 4 (qua q.x q.y q.z q.t)), (g4, 84, nums 4 (qua p.x p.y p.z p.t)), (w.heap.size, 40, r64 4 (F4 dP))]) (.pointer (some ⟨w21.heap.size, 0, none⟩)) rfl (lands_run2 (alloc_run _ _ rfl zero_fe _) (h21.add _ _)) ?_
  intro w22 h22
  simp only [pu]
  clear h21
  generalize w21.heap.size = g23 at h22 ⊢
  refine wpList_val (R := KD w.heap.size w [(g23, 40, r64 4 (F4 (mulP p.y q.y))), (g15, 40, r64 4 (F4 (mulP p.x q.x))), (g8, 84, nums 4 (qua 0 0 0 0)), (g6, 84, nums 4 (qua q.x q.y q.z q.t)), (g4, 84, nums 4 (qua p.x p.y p.z p.t)), (w.heap.size, 40, r64 4 (F4 dP))]) undef rfl (lands_store _ _ _ rfl g23 (r64 4 (F4 (mulP p.y q.y))) rfl rfl _ _ (h22.blk _ m0) (by kernel_rfl) (by kernel_rfl) (row_one fun _ => rfl) (h22.put (k := 0) rfl _)) ?_
  intro w24 h24
  simp only [pu]
  clear h22
  refine wpList_nil ?_
  repeat with_reducible (first | (apply wp_seq_k; intro _ _) | (go_at_K; go_step) | apply tn | apply wp_block | apply wp_skip | apply wp_exit | apply then_exit | apply block_normal | apply block_same | exact block_far rfl ?_)
  obtain ⟨n25, hn25⟩ : ∃ n, n = w24.heap.size := ⟨_, rfl⟩
  refine wp_region_anyE (KM w.heap.size n25 w (fun _ _ => [(g23, 40, r64 4 (F4 (mulP p.y q.y))), (g15, 40, r64 4 (F4 (mulP p.x q.x))), (g8, 84, nums 4 (qua 0 0 0 0)), (g6, 84, nums 4 (qua q.x q.y q.z q.t)), (g4, 84, nums 4 (qua p.x p.y p.z p.t)), (w.heap.size, 40, r64 4 (F4 dP))]) 1000 1001 [⟨7, 8, 40, r64 4 (F4 0), r64 4 (F4 (mulP dP (mulP p.t q.t))), ptr⟩]) (fun i => i == 7) (by kernel_rfl) (KM.begin h24 hn25 (lows hn25 h24 (fun _ _ => rfl)) _) ?_
  refine kO 0 (.agg (r64 4 (F4 dP))) rfl rfl rfl (fun _ => rfl) (fun qv L wx hT => ?_) ?_
  · exact lands_load _ _ rfl _ rfl _ _ _ (hT.k.blk _ m5) Tryz.underlying40 rfl (fe_size _) hT
  simp only [pu]
  refine kO 1 (.pointer (some ⟨g4, 12, none⟩)) rfl rfl rfl (fun _ => rfl) (fun qv L wx hT => ?_) ?_
  · refine lands_value (w := wx) ?_ hT; go_simp
  simp only [pu]
  refine kO 2 (.agg (r64 4 (F4 p.t))) rfl rfl rfl (fun _ => rfl) (fun qv L wx hT => ?_) ?_
  · exact lands_num 3 _ _ rfl _ 4 _ rfl _ (hT.k.blk _ m4) (by decide) _ Tryz.underlying40 rfl (by kernel_rfl) hT
  simp only [pu]
  refine kO 3 (.pointer (some ⟨g6, 12, none⟩)) rfl rfl rfl (fun _ => rfl) (fun qv L wx hT => ?_) ?_
  · refine lands_value (w := wx) ?_ hT; go_simp
  simp only [pu]
  refine kO 4 (.agg (r64 4 (F4 q.t))) rfl rfl rfl (fun _ => rfl) (fun qv L wx hT => ?_) ?_
  · exact lands_num 3 _ _ rfl _ 4 _ rfl _ (hT.k.blk _ m3) (by decide) _ Tryz.underlying40 rfl (by kernel_rfl) hT
  simp only [pu]
  refine kO 5 (.agg (r64 4 (F4 (mulP p.t q.t)))) rfl rfl rfl (fun _ => rfl) (fun qv L wx hT => ?_) ?_
  · exact hT.call (rmulP p.t q.t wx hp.t hq.t) (by go_simp)
  simp only [pu]
  refine kO 6 (.agg (r64 4 (F4 (mulP dP (mulP p.t q.t))))) rfl rfl rfl (fun _ => rfl) (fun qv L wx hT => ?_) ?_
  · exact hT.call (rmulP dP (mulP p.t q.t) wx dP_lt (mulP_lt _ _)) (by go_simp)
  simp only [pu]
  refine anyE_made (i := 7) rfl rfl (by kernel_rfl) (by kernel_rfl) (by kernel_rfl) (fun qv => ym_made (n := 9) ⟨7, 8, 40, r64 4 (F4 0), r64 4 (F4 (mulP dP (mulP p.t q.t))), ptr⟩ (by kernel_rfl) m0 (.inl (show waits .any _ 9 8 7 = true from (by kernel_rfl))) rfl (alloc_run _ _ rfl zero_fe)) ?_
  simp only [pu]
  refine anyE_take (i := 8) undef rfl rfl (by kernel_rfl) (by kernel_rfl) (by kernel_rfl) (fun qv => ym_stored ⟨7, 8, 40, r64 4 (F4 0), r64 4 (F4 (mulP dP (mulP p.t q.t))), ptr⟩ _ _ _ (by kernel_rfl) m0 rfl (by kernel_rfl) rfl rfl rfl rfl (by kernel_rfl) (by kernel_rfl) (row_one fun _ => rfl)) ?_
  simp only [pu]
  refine anyE_done (by kernel_rfl) (fun qv w26 hK => ?_) _
  have hE := hK.outs (by kernel_rfl) (by kernel_rfl)  (b := false) (c := false) (by kernel_rfl) (by kernel_rfl)
  clear hK h24 hn25
  obtain ⟨g27, eg27, hE'⟩ := hE.next
  clear hE
  replace eg27 : qv 7 = .pointer (some ⟨g27, 0, none⟩) := eg27
  have h26 : KD w.heap.size w [(g27, 40, r64 4 (F4 (mulP dP (mulP p.t q.t)))), (g23, 40, r64 4 (F4 (mulP p.y q.y))), (g15, 40, r64 4 (F4 (mulP p.x q.x))), (g8, 84, nums 4 (qua 0 0 0 0)), (g6, 84, nums 4 (qua q.x q.y q.z q.t)), (g4, 84, nums 4 (qua p.x p.y p.z p.t)), (w.heap.size, 40, r64 4 (F4 dP))] w26 := hE'.k
  clear hE'
  clear n25
  rw [eg27]
  clear eg27
  clear qv
  repeat with_reducible (first | (apply wp_seq_k; intro _ _) | (go_at_K; go_step) | apply tn | apply wp_block | apply wp_skip | apply wp_exit | apply then_exit | apply block_normal | apply block_same | exact block_far rfl ?_)
  with_reducible apply wp_region_lit
  refine wpList_val (.pointer (some ⟨g4, 8, none⟩)) rfl (by refine lands_value (w := w26) ?_ h26; go_simp) ?_
  intro w28 h28
  simp only [pu]
  clear h26
  refine wpList_val (.agg (r64 4 (F4 p.z))) rfl (by exact lands_num 2 _ _ rfl _ 4 _ rfl _ (h28.blk _ m5) (by decide) _ Tryz.underlying40 rfl (by kernel_rfl) h28) ?_
  intro w29 h29
  simp only [pu]
  clear h28
  refine wpList_val (.pointer (some ⟨g6, 8, none⟩)) rfl (by refine lands_value (w := w29) ?_ h29; go_simp) ?_
  intro w30 h30
  simp only [pu]
  clear h29
  refine wpList_val (.agg (r64 4 (F4 q.z))) rfl (by exact lands_num 2 _ _ rfl _ 4 _ rfl _ (h30.blk _ m4) (by decide) _ Tryz.underlying40 rfl (by kernel_rfl) h30) ?_
  intro w31 h31
  simp only [pu]
  clear h30
  refine wpList_val (.agg (r64 4 (F4 (mulP p.z q.z)))) rfl (by exact h31.call (rmulP p.z q.z w31 hp.z hq.z) (by go_simp)) ?_
  intro w32 h32
  simp only [pu]
  clear h31
  refine wpList_val (R := KD w.heap.size w [(w32.heap.size, 40, r64 4 (F4 0)), (g27, 40, r64 4 (F4 (mulP dP (mulP p.t q.t)))), (g23, 40, r64 4 (F4 (mulP p.y q.y))), (g15, 40, r64 4 (F4 (mulP p.x q.x))), (g8, 84, nums 4 (qua 0 0 0 0)), (g6, 84, nums 4 (qua q.x q.y q.z q.t)), (g4, 84, nums 4 (qua p.x p.y p.z p.t)), (w.heap.size, 40, r64 4 (F4 dP))]) (.pointer (some ⟨w32.heap.size, 0, none⟩)) rfl (lands_run2 (alloc_run _ _ rfl zero_fe _) (h32.add _ _)) ?_
  intro w33 h33
  simp only [pu]
  clear h32
  generalize w32.heap.size = g34 at h33 ⊢
  refine wpList_val (R := KD w.heap.size w [(g34, 40, r64 4 (F4 (mulP p.z q.z))), (g27, 40, r64 4 (F4 (mulP dP (mulP p.t q.t)))), (g23, 40, r64 4 (F4 (mulP p.y q.y))), (g15, 40, r64 4 (F4 (mulP p.x q.x))), (g8, 84, nums 4 (qua 0 0 0 0)), (g6, 84, nums 4 (qua q.x q.y q.z q.t)), (g4, 84, nums 4 (qua p.x p.y p.z p.t)), (w.heap.size, 40, r64 4 (F4 dP))]) undef rfl (lands_store _ _ _ rfl g34 (r64 4 (F4 (mulP p.z q.z))) rfl rfl _ _ (h33.blk _ m0) (by kernel_rfl) (by kernel_rfl) (row_one fun _ => rfl) (h33.put (k := 0) rfl _)) ?_
  intro w35 h35
  simp only [pu]
  clear h33
  refine wpList_nil ?_
  repeat with_reducible (first | (apply wp_seq_k; intro _ _) | (go_at_K; go_step) | apply tn | apply wp_block | apply wp_skip | apply wp_exit | apply then_exit | apply block_normal | apply block_same | exact block_far rfl ?_)
  obtain ⟨n36, hn36⟩ : ∃ n, n = w35.heap.size := ⟨_, rfl⟩
  refine wp_region_anyE (KM w.heap.size n36 w (fun _ _ => [(g34, 40, r64 4 (F4 (mulP p.z q.z))), (g27, 40, r64 4 (F4 (mulP dP (mulP p.t q.t)))), (g23, 40, r64 4 (F4 (mulP p.y q.y))), (g15, 40, r64 4 (F4 (mulP p.x q.x))), (g8, 84, nums 4 (qua 0 0 0 0)), (g6, 84, nums 4 (qua q.x q.y q.z q.t)), (g4, 84, nums 4 (qua p.x p.y p.z p.t)), (w.heap.size, 40, r64 4 (F4 dP))]) 1000 1001 [⟨11, 12, 40, r64 4 (F4 0), r64 4 (F4 (addP (mulP p.x q.y) (mulP q.x p.y))), ptr⟩]) (fun i => i == 11) (by kernel_rfl) (KM.begin h35 hn36 (lows hn36 h35 (fun _ _ => rfl)) _) ?_
  refine kO 0 (.pointer (some ⟨g4, 0, none⟩)) rfl rfl rfl (fun _ => rfl) (fun qv L wx hT => ?_) ?_
  · refine lands_value (w := wx) ?_ hT; go_simp
  simp only [pu]
  refine kO 1 (.agg (r64 4 (F4 p.x))) rfl rfl rfl (fun _ => rfl) (fun qv L wx hT => ?_) ?_
  · exact lands_num 0 _ _ rfl _ 4 _ rfl _ (hT.k.blk _ m6) (by decide) _ Tryz.underlying40 rfl (by kernel_rfl) hT
  simp only [pu]
  refine kO 2 (.pointer (some ⟨g6, 4, none⟩)) rfl rfl rfl (fun _ => rfl) (fun qv L wx hT => ?_) ?_
  · refine lands_value (w := wx) ?_ hT; go_simp
  simp only [pu]
  refine kO 3 (.agg (r64 4 (F4 q.y))) rfl rfl rfl (fun _ => rfl) (fun qv L wx hT => ?_) ?_
  · exact lands_num 1 _ _ rfl _ 4 _ rfl _ (hT.k.blk _ m5) (by decide) _ Tryz.underlying40 rfl (by kernel_rfl) hT
  simp only [pu]
  refine kO 4 (.agg (r64 4 (F4 (mulP p.x q.y)))) rfl rfl rfl (fun _ => rfl) (fun qv L wx hT => ?_) ?_
  · exact hT.call (rmulP p.x q.y wx hp.x hq.y) (by go_simp)
  simp only [pu]
  refine kO 5 (.pointer (some ⟨g6, 0, none⟩)) rfl rfl rfl (fun _ => rfl) (fun qv L wx hT => ?_) ?_
  · refine lands_value (w := wx) ?_ hT; go_simp
  simp only [pu]
  refine kO 6 (.agg (r64 4 (F4 q.x))) rfl rfl rfl (fun _ => rfl) (fun qv L wx hT => ?_) ?_
  · exact lands_num 0 _ _ rfl _ 4 _ rfl _ (hT.k.blk _ m5) (by decide) _ Tryz.underlying40 rfl (by kernel_rfl) hT
  simp only [pu]
  refine kO 7 (.pointer (some ⟨g4, 4, none⟩)) rfl rfl rfl (fun _ => rfl) (fun qv L wx hT => ?_) ?_
  · refine lands_value (w := wx) ?_ hT; go_simp
  simp only [pu]
  refine kO 8 (.agg (r64 4 (F4 p.y))) rfl rfl rfl (fun _ => rfl) (fun qv L wx hT => ?_) ?_
  · exact lands_num 1 _ _ rfl _ 4 _ rfl _ (hT.k.blk _ m6) (by decide) _ Tryz.underlying40 rfl (by kernel_rfl) hT
  simp only [pu]
  refine kO 9 (.agg (r64 4 (F4 (mulP q.x p.y)))) rfl rfl rfl (fun _ => rfl) (fun qv L wx hT => ?_) ?_
  · exact hT.call (rmulP q.x p.y wx hq.x hp.y) (by go_simp)
  simp only [pu]
  refine kO 10 (.agg (r64 4 (F4 (addP (mulP p.x q.y) (mulP q.x p.y))))) rfl rfl rfl (fun _ => rfl) (fun qv L wx hT => ?_) ?_
  · exact hT.call (raddP (mulP p.x q.y) (mulP q.x p.y) wx (mulP_lt _ _) (mulP_lt _ _)) (by go_simp)
  simp only [pu]
  refine anyE_made (i := 11) rfl rfl (by kernel_rfl) (by kernel_rfl) (by kernel_rfl) (fun qv => ym_made (n := 9) ⟨11, 12, 40, r64 4 (F4 0), r64 4 (F4 (addP (mulP p.x q.y) (mulP q.x p.y))), ptr⟩ (by kernel_rfl) m0 (.inl (show waits .any _ 9 12 11 = true from (by kernel_rfl))) rfl (alloc_run _ _ rfl zero_fe)) ?_
  simp only [pu]
  refine anyE_take (i := 12) undef rfl rfl (by kernel_rfl) (by kernel_rfl) (by kernel_rfl) (fun qv => ym_stored ⟨11, 12, 40, r64 4 (F4 0), r64 4 (F4 (addP (mulP p.x q.y) (mulP q.x p.y))), ptr⟩ _ _ _ (by kernel_rfl) m0 rfl (by kernel_rfl) rfl rfl rfl rfl (by kernel_rfl) (by kernel_rfl) (row_one fun _ => rfl)) ?_
  simp only [pu]
  refine anyE_done (by kernel_rfl) (fun qv w37 hK => ?_) _
  have hE := hK.outs (by kernel_rfl) (by kernel_rfl)  (b := false) (c := false) (by kernel_rfl) (by kernel_rfl)
  clear hK h35 hn36
  obtain ⟨g38, eg38, hE'⟩ := hE.next
  clear hE
  replace eg38 : qv 11 = .pointer (some ⟨g38, 0, none⟩) := eg38
  have h37 : KD w.heap.size w [(g38, 40, r64 4 (F4 (addP (mulP p.x q.y) (mulP q.x p.y)))), (g34, 40, r64 4 (F4 (mulP p.z q.z))), (g27, 40, r64 4 (F4 (mulP dP (mulP p.t q.t)))), (g23, 40, r64 4 (F4 (mulP p.y q.y))), (g15, 40, r64 4 (F4 (mulP p.x q.x))), (g8, 84, nums 4 (qua 0 0 0 0)), (g6, 84, nums 4 (qua q.x q.y q.z q.t)), (g4, 84, nums 4 (qua p.x p.y p.z p.t)), (w.heap.size, 40, r64 4 (F4 dP))] w37 := hE'.k
  clear hE'
  clear n36
  rw [eg38]
  clear eg38
  clear qv
  repeat with_reducible (first | (apply wp_seq_k; intro _ _) | (go_at_K; go_step) | apply tn | apply wp_block | apply wp_skip | apply wp_exit | apply then_exit | apply block_normal | apply block_same | exact block_far rfl ?_)
  with_reducible apply wp_region_lit
  refine wpList_val (.agg (r64 4 (F4 (mulP p.y q.y)))) rfl (by exact lands_load _ _ rfl _ rfl _ _ _ (h37.blk _ m3) Tryz.underlying40 rfl (fe_size _) h37) ?_
  intro w39 h39
  simp only [pu]
  clear h37
  refine wpList_val (.agg (r64 4 (F4 (mulP p.x q.x)))) rfl (by exact lands_load _ _ rfl _ rfl _ _ _ (h39.blk _ m4) Tryz.underlying40 rfl (fe_size _) h39) ?_
  intro w40 h40
  simp only [pu]
  clear h39
  refine wpList_val (.agg (r64 4 (F4 (addP (mulP p.y q.y) (mulP p.x q.x))))) rfl (by exact h40.call (raddP (mulP p.y q.y) (mulP p.x q.x) w40 (mulP_lt _ _) (mulP_lt _ _)) (by go_simp)) ?_
  intro w41 h41
  simp only [pu]
  clear h40
  refine wpList_val (R := KD w.heap.size w [(w41.heap.size, 40, r64 4 (F4 0)), (g38, 40, r64 4 (F4 (addP (mulP p.x q.y) (mulP q.x p.y)))), (g34, 40, r64 4 (F4 (mulP p.z q.z))), (g27, 40, r64 4 (F4 (mulP dP (mulP p.t q.t)))), (g23, 40, r64 4 (F4 (mulP p.y q.y))), (g15, 40, r64 4 (F4 (mulP p.x q.x))), (g8, 84, nums 4 (qua 0 0 0 0)), (g6, 84, nums 4 (qua q.x q.y q.z q.t)), (g4, 84, nums 4 (qua p.x p.y p.z p.t)), (w.heap.size, 40, r64 4 (F4 dP))]) (.pointer (some ⟨w41.heap.size, 0, none⟩)) rfl (lands_run2 (alloc_run _ _ rfl zero_fe _) (h41.add _ _)) ?_
  intro w42 h42
  simp only [pu]
  clear h41
  generalize w41.heap.size = g43 at h42 ⊢
  refine wpList_val (R := KD w.heap.size w [(g43, 40, r64 4 (F4 (addP (mulP p.y q.y) (mulP p.x q.x)))), (g38, 40, r64 4 (F4 (addP (mulP p.x q.y) (mulP q.x p.y)))), (g34, 40, r64 4 (F4 (mulP p.z q.z))), (g27, 40, r64 4 (F4 (mulP dP (mulP p.t q.t)))), (g23, 40, r64 4 (F4 (mulP p.y q.y))), (g15, 40, r64 4 (F4 (mulP p.x q.x))), (g8, 84, nums 4 (qua 0 0 0 0)), (g6, 84, nums 4 (qua q.x q.y q.z q.t)), (g4, 84, nums 4 (qua p.x p.y p.z p.t)), (w.heap.size, 40, r64 4 (F4 dP))]) undef rfl (lands_store _ _ _ rfl g43 (r64 4 (F4 (addP (mulP p.y q.y) (mulP p.x q.x)))) rfl rfl _ _ (h42.blk _ m0) (by kernel_rfl) (by kernel_rfl) (row_one fun _ => rfl) (h42.put (k := 0) rfl _)) ?_
  intro w44 h44
  simp only [pu]
  clear h42
  refine wpList_nil ?_
  repeat with_reducible (first | (apply wp_seq_k; intro _ _) | (go_at_K; go_step) | apply tn | apply wp_block | apply wp_skip | apply wp_exit | apply then_exit | apply block_normal | apply block_same | exact block_far rfl ?_)
  with_reducible apply wp_region_lit
  refine wpList_val (.agg (r64 4 (F4 (mulP p.z q.z)))) rfl (by exact lands_load _ _ rfl _ rfl _ _ _ (h44.blk _ m2) Tryz.underlying40 rfl (fe_size _) h44) ?_
  intro w45 h45
  simp only [pu]
  clear h44
  refine wpList_val (.agg (r64 4 (F4 (mulP dP (mulP p.t q.t))))) rfl (by exact lands_load _ _ rfl _ rfl _ _ _ (h45.blk _ m3) Tryz.underlying40 rfl (fe_size _) h45) ?_
  intro w46 h46
  simp only [pu]
  clear h45
  refine wpList_val (.agg (r64 4 (F4 (subP (mulP p.z q.z) (mulP dP (mulP p.t q.t)))))) rfl (by exact h46.call (rsubP (mulP p.z q.z) (mulP dP (mulP p.t q.t)) w46 (mulP_lt _ _) (mulP_lt _ _)) (by go_simp)) ?_
  intro w47 h47
  simp only [pu]
  clear h46
  refine wpList_val (R := KD w.heap.size w [(w47.heap.size, 40, r64 4 (F4 0)), (g43, 40, r64 4 (F4 (addP (mulP p.y q.y) (mulP p.x q.x)))), (g38, 40, r64 4 (F4 (addP (mulP p.x q.y) (mulP q.x p.y)))), (g34, 40, r64 4 (F4 (mulP p.z q.z))), (g27, 40, r64 4 (F4 (mulP dP (mulP p.t q.t)))), (g23, 40, r64 4 (F4 (mulP p.y q.y))), (g15, 40, r64 4 (F4 (mulP p.x q.x))), (g8, 84, nums 4 (qua 0 0 0 0)), (g6, 84, nums 4 (qua q.x q.y q.z q.t)), (g4, 84, nums 4 (qua p.x p.y p.z p.t)), (w.heap.size, 40, r64 4 (F4 dP))]) (.pointer (some ⟨w47.heap.size, 0, none⟩)) rfl (lands_run2 (alloc_run _ _ rfl zero_fe _) (h47.add _ _)) ?_
  intro w48 h48
  simp only [pu]
  clear h47
  generalize w47.heap.size = g49 at h48 ⊢
  refine wpList_val (R := KD w.heap.size w [(g49, 40, r64 4 (F4 (subP (mulP p.z q.z) (mulP dP (mulP p.t q.t))))), (g43, 40, r64 4 (F4 (addP (mulP p.y q.y) (mulP p.x q.x)))), (g38, 40, r64 4 (F4 (addP (mulP p.x q.y) (mulP q.x p.y)))), (g34, 40, r64 4 (F4 (mulP p.z q.z))), (g27, 40, r64 4 (F4 (mulP dP (mulP p.t q.t)))), (g23, 40, r64 4 (F4 (mulP p.y q.y))), (g15, 40, r64 4 (F4 (mulP p.x q.x))), (g8, 84, nums 4 (qua 0 0 0 0)), (g6, 84, nums 4 (qua q.x q.y q.z q.t)), (g4, 84, nums 4 (qua p.x p.y p.z p.t)), (w.heap.size, 40, r64 4 (F4 dP))]) undef rfl (lands_store _ _ _ rfl g49 (r64 4 (F4 (subP (mulP p.z q.z) (mulP dP (mulP p.t q.t))))) rfl rfl _ _ (h48.blk _ m0) (by kernel_rfl) (by kernel_rfl) (row_one fun _ => rfl) (h48.put (k := 0) rfl _)) ?_
  intro w50 h50
  simp only [pu]
  clear h48
  refine wpList_nil ?_
  repeat with_reducible (first | (apply wp_seq_k; intro _ _) | (go_at_K; go_step) | apply tn | apply wp_block | apply wp_skip | apply wp_exit | apply then_exit | apply block_normal | apply block_same | exact block_far rfl ?_)
  with_reducible apply wp_region_lit
  refine wpList_val (.agg (r64 4 (F4 (mulP p.z q.z)))) rfl (by exact lands_load _ _ rfl _ rfl _ _ _ (h50.blk _ m3) Tryz.underlying40 rfl (fe_size _) h50) ?_
  intro w51 h51
  simp only [pu]
  clear h50
  refine wpList_val (.agg (r64 4 (F4 (mulP dP (mulP p.t q.t))))) rfl (by exact lands_load _ _ rfl _ rfl _ _ _ (h51.blk _ m4) Tryz.underlying40 rfl (fe_size _) h51) ?_
  intro w52 h52
  simp only [pu]
  clear h51
  refine wpList_val (.agg (r64 4 (F4 (addP (mulP p.z q.z) (mulP dP (mulP p.t q.t)))))) rfl (by exact h52.call (raddP (mulP p.z q.z) (mulP dP (mulP p.t q.t)) w52 (mulP_lt _ _) (mulP_lt _ _)) (by go_simp)) ?_
  intro w53 h53
  simp only [pu]
  clear h52
  refine wpList_val (R := KD w.heap.size w [(w53.heap.size, 40, r64 4 (F4 0)), (g49, 40, r64 4 (F4 (subP (mulP p.z q.z) (mulP dP (mulP p.t q.t))))), (g43, 40, r64 4 (F4 (addP (mulP p.y q.y) (mulP p.x q.x)))), (g38, 40, r64 4 (F4 (addP (mulP p.x q.y) (mulP q.x p.y)))), (g34, 40, r64 4 (F4 (mulP p.z q.z))), (g27, 40, r64 4 (F4 (mulP dP (mulP p.t q.t)))), (g23, 40, r64 4 (F4 (mulP p.y q.y))), (g15, 40, r64 4 (F4 (mulP p.x q.x))), (g8, 84, nums 4 (qua 0 0 0 0)), (g6, 84, nums 4 (qua q.x q.y q.z q.t)), (g4, 84, nums 4 (qua p.x p.y p.z p.t)), (w.heap.size, 40, r64 4 (F4 dP))]) (.pointer (some ⟨w53.heap.size, 0, none⟩)) rfl (lands_run2 (alloc_run _ _ rfl zero_fe _) (h53.add _ _)) ?_
  intro w54 h54
  simp only [pu]
  clear h53
  generalize w53.heap.size = g55 at h54 ⊢
  refine wpList_val (R := KD w.heap.size w [(g55, 40, r64 4 (F4 (addP (mulP p.z q.z) (mulP dP (mulP p.t q.t))))), (g49, 40, r64 4 (F4 (subP (mulP p.z q.z) (mulP dP (mulP p.t q.t))))), (g43, 40, r64 4 (F4 (addP (mulP p.y q.y) (mulP p.x q.x)))), (g38, 40, r64 4 (F4 (addP (mulP p.x q.y) (mulP q.x p.y)))), (g34, 40, r64 4 (F4 (mulP p.z q.z))), (g27, 40, r64 4 (F4 (mulP dP (mulP p.t q.t)))), (g23, 40, r64 4 (F4 (mulP p.y q.y))), (g15, 40, r64 4 (F4 (mulP p.x q.x))), (g8, 84, nums 4 (qua 0 0 0 0)), (g6, 84, nums 4 (qua q.x q.y q.z q.t)), (g4, 84, nums 4 (qua p.x p.y p.z p.t)), (w.heap.size, 40, r64 4 (F4 dP))]) undef rfl (lands_store _ _ _ rfl g55 (r64 4 (F4 (addP (mulP p.z q.z) (mulP dP (mulP p.t q.t))))) rfl rfl _ _ (h54.blk _ m0) (by kernel_rfl) (by kernel_rfl) (row_one fun _ => rfl) (h54.put (k := 0) rfl _)) ?_
  intro w56 h56
  simp only [pu]
  clear h54
  refine wpList_nil ?_
  repeat with_reducible (first | (apply wp_seq_k; intro _ _) | (go_at_K; go_step) | apply tn | apply wp_block | apply wp_skip | apply wp_exit | apply then_exit | apply block_normal | apply block_same | exact block_far rfl ?_)
  obtain ⟨n57, hn57⟩ : ∃ n, n = w56.heap.size := ⟨_, rfl⟩
  refine wp_region_anyE (KM w.heap.size n57 w (fun b _ => bif b then [(g55, 40, r64 4 (F4 (addP (mulP p.z q.z) (mulP dP (mulP p.t q.t))))), (g49, 40, r64 4 (F4 (subP (mulP p.z q.z) (mulP dP (mulP p.t q.t))))), (g43, 40, r64 4 (F4 (addP (mulP p.y q.y) (mulP p.x q.x)))), (g38, 40, r64 4 (F4 (addP (mulP p.x q.y) (mulP q.x p.y)))), (g34, 40, r64 4 (F4 (mulP p.z q.z))), (g27, 40, r64 4 (F4 (mulP dP (mulP p.t q.t)))), (g23, 40, r64 4 (F4 (mulP p.y q.y))), (g15, 40, r64 4 (F4 (mulP p.x q.x))), (g8, 84, nums 4 (qua (mulP (addP (mulP p.x q.y) (mulP q.x p.y)) (subP (mulP p.z q.z) (mulP dP (mulP p.t q.t)))) (mulP (addP (mulP p.y q.y) (mulP p.x q.x)) (addP (mulP p.z q.z) (mulP dP (mulP p.t q.t)))) (mulP (subP (mulP p.z q.z) (mulP dP (mulP p.t q.t))) (addP (mulP p.z q.z) (mulP dP (mulP p.t q.t)))) (mulP (addP (mulP p.x q.y) (mulP q.x p.y)) (addP (mulP p.y q.y) (mulP p.x q.x))))), (g6, 84, nums 4 (qua q.x q.y q.z q.t)), (g4, 84, nums 4 (qua p.x p.y p.z p.t)), (w.heap.size, 40, r64 4 (F4 dP))] else [(g55, 40, r64 4 (F4 (addP (mulP p.z q.z) (mulP dP (mulP p.t q.t))))), (g49, 40, r64 4 (F4 (subP (mulP p.z q.z) (mulP dP (mulP p.t q.t))))), (g43, 40, r64 4 (F4 (addP (mulP p.y q.y) (mulP p.x q.x)))), (g38, 40, r64 4 (F4 (addP (mulP p.x q.y) (mulP q.x p.y)))), (g34, 40, r64 4 (F4 (mulP p.z q.z))), (g27, 40, r64 4 (F4 (mulP dP (mulP p.t q.t)))), (g23, 40, r64 4 (F4 (mulP p.y q.y))), (g15, 40, r64 4 (F4 (mulP p.x q.x))), (g8, 84, nums 4 (qua 0 0 0 0)), (g6, 84, nums 4 (qua q.x q.y q.z q.t)), (g4, 84, nums 4 (qua p.x p.y p.z p.t)), (w.heap.size, 40, r64 4 (F4 dP))]) 13 1001 []) (fun _ => false) (by kernel_rfl) (KM.begin h56 hn57 (lows hn57 h56 (fun b _ => by cases b <;> simp only [cond_true, cond_false, List.map_cons, List.map_nil])) _) ?_
  refine kA 0 9 (.agg (r64 4 (F4 (addP (mulP p.x q.y) (mulP q.x p.y))))) rfl rfl rfl (fun _ => rfl) (fun qv L wx hk hT => ?_) ?_
  · exact lands_load _ _ rfl _ rfl _ _ _ (hk.blk _ m3) Tryz.underlying40 rfl (fe_size _) hT
  simp only [pu]
  refine kA 1 9 (.agg (r64 4 (F4 (subP (mulP p.z q.z) (mulP dP (mulP p.t q.t)))))) rfl rfl rfl (fun _ => rfl) (fun qv L wx hk hT => ?_) ?_
  · exact lands_load _ _ rfl _ rfl _ _ _ (hk.blk _ m1) Tryz.underlying40 rfl (fe_size _) hT
  simp only [pu]
  refine kO 2 (.agg (r64 4 (F4 (mulP (addP (mulP p.x q.y) (mulP q.x p.y)) (subP (mulP p.z q.z) (mulP dP (mulP p.t q.t))))))) rfl rfl rfl (fun _ => rfl) (fun qv L wx hT => ?_) ?_
  · exact hT.call (rmulP (addP (mulP p.x q.y) (mulP q.x p.y)) (subP (mulP p.z q.z) (mulP dP (mulP p.t q.t))) wx (addP_lt _ _) (subP_lt _ _)) (by go_simp)
  simp only [pu]
  refine kA 3 9 (.agg (r64 4 (F4 (addP (mulP p.y q.y) (mulP p.x q.x))))) rfl rfl rfl (fun _ => rfl) (fun qv L wx hk hT => ?_) ?_
  · exact lands_load _ _ rfl _ rfl _ _ _ (hk.blk _ m2) Tryz.underlying40 rfl (fe_size _) hT
  simp only [pu]
  refine kA 4 9 (.agg (r64 4 (F4 (addP (mulP p.z q.z) (mulP dP (mulP p.t q.t)))))) rfl rfl rfl (fun _ => rfl) (fun qv L wx hk hT => ?_) ?_
  · exact lands_load _ _ rfl _ rfl _ _ _ (hk.blk _ m0) Tryz.underlying40 rfl (fe_size _) hT
  simp only [pu]
  refine kO 5 (.agg (r64 4 (F4 (mulP (addP (mulP p.y q.y) (mulP p.x q.x)) (addP (mulP p.z q.z) (mulP dP (mulP p.t q.t))))))) rfl rfl rfl (fun _ => rfl) (fun qv L wx hT => ?_) ?_
  · exact hT.call (rmulP (addP (mulP p.y q.y) (mulP p.x q.x)) (addP (mulP p.z q.z) (mulP dP (mulP p.t q.t))) wx (addP_lt _ _) (addP_lt _ _)) (by go_simp)
  simp only [pu]
  refine kA 6 9 (.agg (r64 4 (F4 (subP (mulP p.z q.z) (mulP dP (mulP p.t q.t)))))) rfl rfl rfl (fun _ => rfl) (fun qv L wx hk hT => ?_) ?_
  · exact lands_load _ _ rfl _ rfl _ _ _ (hk.blk _ m1) Tryz.underlying40 rfl (fe_size _) hT
  simp only [pu]
  refine kA 7 9 (.agg (r64 4 (F4 (addP (mulP p.z q.z) (mulP dP (mulP p.t q.t)))))) rfl rfl rfl (fun _ => rfl) (fun qv L wx hk hT => ?_) ?_
  · exact lands_load _ _ rfl _ rfl _ _ _ (hk.blk _ m0) Tryz.underlying40 rfl (fe_size _) hT
  simp only [pu]
  refine kO 8 (.agg (r64 4 (F4 (mulP (subP (mulP p.z q.z) (mulP dP (mulP p.t q.t))) (addP (mulP p.z q.z) (mulP dP (mulP p.t q.t))))))) rfl rfl rfl (fun _ => rfl) (fun qv L wx hT => ?_) ?_
  · exact hT.call (rmulP (subP (mulP p.z q.z) (mulP dP (mulP p.t q.t))) (addP (mulP p.z q.z) (mulP dP (mulP p.t q.t))) wx (subP_lt _ _) (addP_lt _ _)) (by go_simp)
  simp only [pu]
  refine kA 9 9 (.agg (r64 4 (F4 (addP (mulP p.x q.y) (mulP q.x p.y))))) rfl rfl rfl (fun _ => rfl) (fun qv L wx hk hT => ?_) ?_
  · exact lands_load _ _ rfl _ rfl _ _ _ (hk.blk _ m3) Tryz.underlying40 rfl (fe_size _) hT
  simp only [pu]
  refine kA 10 9 (.agg (r64 4 (F4 (addP (mulP p.y q.y) (mulP p.x q.x))))) rfl rfl rfl (fun _ => rfl) (fun qv L wx hk hT => ?_) ?_
  · exact lands_load _ _ rfl _ rfl _ _ _ (hk.blk _ m2) Tryz.underlying40 rfl (fe_size _) hT
  simp only [pu]
  refine kO 11 (.agg (r64 4 (F4 (mulP (addP (mulP p.x q.y) (mulP q.x p.y)) (addP (mulP p.y q.y) (mulP p.x q.x)))))) rfl rfl rfl (fun _ => rfl) (fun qv L wx hT => ?_) ?_
  · exact hT.call (rmulP (addP (mulP p.x q.y) (mulP q.x p.y)) (addP (mulP p.y q.y) (mulP p.x q.x)) wx (addP_lt _ _) (addP_lt _ _)) (by go_simp)
  simp only [pu]
  refine kO 12 (.agg (nums 4 (qua (mulP (addP (mulP p.x q.y) (mulP q.x p.y)) (subP (mulP p.z q.z) (mulP dP (mulP p.t q.t)))) (mulP (addP (mulP p.y q.y) (mulP p.x q.x)) (addP (mulP p.z q.z) (mulP dP (mulP p.t q.t)))) (mulP (subP (mulP p.z q.z) (mulP dP (mulP p.t q.t))) (addP (mulP p.z q.z) (mulP dP (mulP p.t q.t)))) (mulP (addP (mulP p.x q.y) (mulP q.x p.y)) (addP (mulP p.y q.y) (mulP p.x q.x)))))) rfl rfl rfl (fun _ => rfl) (fun qv L wx hT => ?_) ?_
  · exact lands_built _ _ rfl _ rfl _ (by kernel_rfl) hT
  simp only [pu]
  refine anyE_take (i := 13) undef rfl rfl (by kernel_rfl) (by kernel_rfl) (by kernel_rfl) (fun qv => ym_first (k := 8) _ _ _ (by kernel_rfl) rfl rfl rfl rfl (by kernel_rfl) (by kernel_rfl) (row_one fun _ => rfl) (fun _ => rfl) (fun _ => rfl)) ?_
  simp only [pu]
  refine anyE_done (by kernel_rfl) (fun qv w58 hK => ?_) _
  have hE := hK.outs (by kernel_rfl) (by kernel_rfl)  (b := true) (c := false) (by kernel_rfl) (by kernel_rfl)
  clear hK h56 hn57
  have h58 : KD w.heap.size w [(g55, 40, r64 4 (F4 (addP (mulP p.z q.z) (mulP dP (mulP p.t q.t))))), (g49, 40, r64 4 (F4 (subP (mulP p.z q.z) (mulP dP (mulP p.t q.t))))), (g43, 40, r64 4 (F4 (addP (mulP p.y q.y) (mulP p.x q.x)))), (g38, 40, r64 4 (F4 (addP (mulP p.x q.y) (mulP q.x p.y)))), (g34, 40, r64 4 (F4 (mulP p.z q.z))), (g27, 40, r64 4 (F4 (mulP dP (mulP p.t q.t)))), (g23, 40, r64 4 (F4 (mulP p.y q.y))), (g15, 40, r64 4 (F4 (mulP p.x q.x))), (g8, 84, nums 4 (qua (mulP (addP (mulP p.x q.y) (mulP q.x p.y)) (subP (mulP p.z q.z) (mulP dP (mulP p.t q.t)))) (mulP (addP (mulP p.y q.y) (mulP p.x q.x)) (addP (mulP p.z q.z) (mulP dP (mulP p.t q.t)))) (mulP (subP (mulP p.z q.z) (mulP dP (mulP p.t q.t))) (addP (mulP p.z q.z) (mulP dP (mulP p.t q.t)))) (mulP (addP (mulP p.x q.y) (mulP q.x p.y)) (addP (mulP p.y q.y) (mulP p.x q.x))))), (g6, 84, nums 4 (qua q.x q.y q.z q.t)), (g4, 84, nums 4 (qua p.x p.y p.z p.t)), (w.heap.size, 40, r64 4 (F4 dP))] w58 := hE.k
  clear hE
  clear n57
  clear qv
  repeat with_reducible (first | (apply wp_seq_k; intro _ _) | (go_at_K; go_step) | apply tn | apply wp_block | apply wp_skip | apply wp_exit | apply then_exit | apply block_normal | apply block_same | exact block_far rfl ?_)
  with_reducible apply wp_ret
  repeat (first | with_reducible apply then_ret | with_reducible apply block_ret)
  exact bodyPost_ret (results_cell_row rfl _ _ g8 84 (nums 4 (qua (mulP (addP (mulP p.x q.y) (mulP q.x p.y)) (subP (mulP p.z q.z) (mulP dP (mulP p.t q.t)))) (mulP (addP (mulP p.y q.y) (mulP p.x q.x)) (addP (mulP p.z q.z) (mulP dP (mulP p.t q.t)))) (mulP (subP (mulP p.z q.z) (mulP dP (mulP p.t q.t))) (addP (mulP p.z q.z) (mulP dP (mulP p.t q.t)))) (mulP (addP (mulP p.x q.y) (mulP q.x p.y)) (addP (mulP p.y q.y) (mulP p.x q.x))))) (0, 0) _ rfl (h58.blk _ (.tail _ (.tail _ (m6)))) Tryz.underlying84 rfl (by kernel_rfl)) rfl ⟨by simp only [R4.sum], h58.b⟩
set_option maxRecDepth 100000 in
set_option maxHeartbeats 400000 in
theorem rwhole_any (p : R4) (hp : p.ok) (w : World) :
    Calls Tryz.prog 71 #[.agg (nums 4 (qua p.x p.y p.z p.t))] w fun e w' => e = .returned (.agg (nums 2 (two p.whole.x p.whole.y))) ∧ Below w.heap.size w w' := by
  go_enter Tryz.func71, Tryz.ntmps71
  repeat with_reducible (first | (apply wp_seq_k; intro _ _) | (go_at_K; go_step) | apply tn | apply wp_block | apply wp_skip | apply wp_exit | apply then_exit | apply block_normal | apply block_same | exact block_far rfl ?_)
  have h1 := KD.begin w
  with_reducible apply wp_region_lit
  refine wpList_val (R := KD w.heap.size w [(w.heap.size, 84, nums 4 (qua p.x p.y p.z p.t))]) (.pointer (some ⟨w.heap.size, 0, none⟩)) rfl (lands_run2 (box_run _ _ _ rfl rfl _) (h1.add _ _)) ?_
  intro w2 h2
  simp only [pu]
  clear h1
  refine wpList_val (R := KD w.heap.size w [(w2.heap.size, 42, nums 2 (two 0 0)), (w.heap.size, 84, nums 4 (qua p.x p.y p.z p.t))]) (.pointer (some ⟨w2.heap.size, 0, none⟩)) rfl (lands_run2 (alloc_run _ _ rfl zero_pt _) (h2.add _ _)) ?_
  intro w3 h3
  simp only [pu]
  clear h2
  generalize w2.heap.size = g4 at h3 ⊢
  refine wpList_nil ?_
  repeat with_reducible (first | (apply wp_seq_k; intro _ _) | (go_at_K; go_step) | apply tn | apply wp_block | apply wp_skip | apply wp_exit | apply then_exit | apply block_normal | apply block_same | exact block_far rfl ?_)
  with_reducible apply wp_region_lit
  refine wpList_val (.pointer (some ⟨w.heap.size, 8, none⟩)) rfl (by refine lands_value (w := w3) ?_ h3; go_simp) ?_
  intro w5 h5
  simp only [pu]
  clear h3
  refine wpList_val (.agg (r64 4 (F4 p.z))) rfl (by exact lands_num 2 _ _ rfl _ 4 _ rfl _ (h5.blk _ m1) (by decide) _ Tryz.underlying40 rfl (by kernel_rfl) h5) ?_
  intro w6 h6
  simp only [pu]
  clear h5
  refine wpList_val (.agg (r64 4 (F4 (vP p.z)))) rfl (by exact h6.call (rinvV p.z w6 hp.z) (by go_simp)) ?_
  intro w7 h7
  simp only [pu]
  clear h6
  refine wpList_val (R := KD w.heap.size w [(w7.heap.size, 40, r64 4 (F4 0)), (g4, 42, nums 2 (two 0 0)), (w.heap.size, 84, nums 4 (qua p.x p.y p.z p.t))]) (.pointer (some ⟨w7.heap.size, 0, none⟩)) rfl (lands_run2 (alloc_run _ _ rfl zero_fe _) (h7.add _ _)) ?_
  intro w8 h8
  simp only [pu]
  clear h7
  generalize w7.heap.size = g9 at h8 ⊢
  refine wpList_val (R := KD w.heap.size w [(g9, 40, r64 4 (F4 (vP p.z))), (g4, 42, nums 2 (two 0 0)), (w.heap.size, 84, nums 4 (qua p.x p.y p.z p.t))]) undef rfl (lands_store _ _ _ rfl g9 (r64 4 (F4 (vP p.z))) rfl rfl _ _ (h8.blk _ m0) (by kernel_rfl) (by kernel_rfl) (row_one fun _ => rfl) (h8.put (k := 0) rfl _)) ?_
  intro w10 h10
  simp only [pu]
  clear h8
  refine wpList_nil ?_
  repeat with_reducible (first | (apply wp_seq_k; intro _ _) | (go_at_K; go_step) | apply tn | apply wp_block | apply wp_skip | apply wp_exit | apply then_exit | apply block_normal | apply block_same | exact block_far rfl ?_)
  obtain ⟨n11, hn11⟩ : ∃ n, n = w10.heap.size := ⟨_, rfl⟩
  refine wp_region_anyE (KM w.heap.size n11 w (fun b _ => bif b then [(g9, 40, r64 4 (F4 (vP p.z))), (g4, 42, nums 2 (two (mulP p.x (vP p.z)) (mulP p.y (vP p.z)))), (w.heap.size, 84, nums 4 (qua p.x p.y p.z p.t))] else [(g9, 40, r64 4 (F4 (vP p.z))), (g4, 42, nums 2 (two 0 0)), (w.heap.size, 84, nums 4 (qua p.x p.y p.z p.t))]) 9 1001 []) (fun _ => false) (by kernel_rfl) (KM.begin h10 hn11 (lows hn11 h10 (fun b _ => by cases b <;> simp only [cond_true, cond_false, List.map_cons, List.map_nil])) _) ?_
  refine kO 0 (.pointer (some ⟨w.heap.size, 0, none⟩)) rfl rfl rfl (fun _ => rfl) (fun qv L wx hT => ?_) ?_
  · refine lands_value (w := wx) ?_ hT; go_simp
  simp only [pu]
  refine kA 1 9 (.agg (r64 4 (F4 p.x))) rfl rfl rfl (fun _ => rfl) (fun qv L wx hk hT => ?_) ?_
  · exact lands_num 0 _ _ rfl _ 4 _ rfl _ (hk.blk _ m2) (by decide) _ Tryz.underlying40 rfl (by kernel_rfl) hT
  simp only [pu]
  refine kA 2 9 (.agg (r64 4 (F4 (vP p.z)))) rfl rfl rfl (fun _ => rfl) (fun qv L wx hk hT => ?_) ?_
  · exact lands_load _ _ rfl _ rfl _ _ _ (hk.blk _ m0) Tryz.underlying40 rfl (fe_size _) hT
  simp only [pu]
  refine kO 3 (.agg (r64 4 (F4 (mulP p.x (vP p.z))))) rfl rfl rfl (fun _ => rfl) (fun qv L wx hT => ?_) ?_
  · exact hT.call (rmulP p.x (vP p.z) wx hp.x (vP_lt _)) (by go_simp)
  simp only [pu]
  refine kO 4 (.pointer (some ⟨w.heap.size, 4, none⟩)) rfl rfl rfl (fun _ => rfl) (fun qv L wx hT => ?_) ?_
  · refine lands_value (w := wx) ?_ hT; go_simp
  simp only [pu]
  refine kA 5 9 (.agg (r64 4 (F4 p.y))) rfl rfl rfl (fun _ => rfl) (fun qv L wx hk hT => ?_) ?_
  · exact lands_num 1 _ _ rfl _ 4 _ rfl _ (hk.blk _ m2) (by decide) _ Tryz.underlying40 rfl (by kernel_rfl) hT
  simp only [pu]
  refine kA 6 9 (.agg (r64 4 (F4 (vP p.z)))) rfl rfl rfl (fun _ => rfl) (fun qv L wx hk hT => ?_) ?_
  · exact lands_load _ _ rfl _ rfl _ _ _ (hk.blk _ m0) Tryz.underlying40 rfl (fe_size _) hT
  simp only [pu]
  refine kO 7 (.agg (r64 4 (F4 (mulP p.y (vP p.z))))) rfl rfl rfl (fun _ => rfl) (fun qv L wx hT => ?_) ?_
  · exact hT.call (rmulP p.y (vP p.z) wx hp.y (vP_lt _)) (by go_simp)
  simp only [pu]
  refine kO 8 (.agg (nums 2 (two (mulP p.x (vP p.z)) (mulP p.y (vP p.z))))) rfl rfl rfl (fun _ => rfl) (fun qv L wx hT => ?_) ?_
  · exact lands_built _ _ rfl _ rfl _ (by kernel_rfl) hT
  simp only [pu]
  refine anyE_take (i := 9) undef rfl rfl (by kernel_rfl) (by kernel_rfl) (by kernel_rfl) (fun qv => ym_first (k := 1) _ _ _ (by kernel_rfl) rfl rfl rfl rfl (by kernel_rfl) (by kernel_rfl) (row_one fun _ => rfl) (fun _ => rfl) (fun _ => rfl)) ?_
  simp only [pu]
  refine anyE_done (by kernel_rfl) (fun qv w12 hK => ?_) _
  have hE := hK.outs (by kernel_rfl) (by kernel_rfl)  (b := true) (c := false) (by kernel_rfl) (by kernel_rfl)
  clear hK h10 hn11
  have h12 : KD w.heap.size w [(g9, 40, r64 4 (F4 (vP p.z))), (g4, 42, nums 2 (two (mulP p.x (vP p.z)) (mulP p.y (vP p.z)))), (w.heap.size, 84, nums 4 (qua p.x p.y p.z p.t))] w12 := hE.k
  clear hE
  clear n11
  clear qv
  repeat with_reducible (first | (apply wp_seq_k; intro _ _) | (go_at_K; go_step) | apply tn | apply wp_block | apply wp_skip | apply wp_exit | apply then_exit | apply block_normal | apply block_same | exact block_far rfl ?_)
  with_reducible apply wp_ret
  repeat (first | with_reducible apply then_ret | with_reducible apply block_ret)
  exact bodyPost_ret (results_cell_row rfl _ _ g4 42 (nums 2 (two (mulP p.x (vP p.z)) (mulP p.y (vP p.z)))) (0, 0) _ rfl (h12.blk _ m1) Tryz.underlying42 rfl (by kernel_rfl)) rfl ⟨by simp only [R4.whole], h12.b⟩
set_option maxRecDepth 100000 in
set_option maxHeartbeats 400000 in
theorem radd_any (P : Pt) (hx : P.x < M256) (hy : P.y < M256) (Q : Pt) (kx : Q.x < M256) (ky : Q.y < M256) (w : World) :
    Calls Tryz.prog 36 #[.agg (nums 2 (two P.x P.y)), .agg (nums 2 (two Q.x Q.y))] w fun e w' => e = .returned (.agg (nums 2 (two (raddV P Q).x (raddV P Q).y))) ∧ Below w.heap.size w w' := by
  go_enter Tryz.func36, Tryz.ntmps36
  repeat with_reducible (first | (apply wp_seq_k; intro _ _) | (go_at_K; go_step) | apply tn | apply wp_block | apply wp_skip | apply wp_exit | apply then_exit | apply block_normal | apply block_same | exact block_far rfl ?_)
  have h1 := KD.begin w
  with_reducible apply wp_region_lit
  refine wpList_val (R := KD w.heap.size w [(w.heap.size, 42, nums 2 (two P.x P.y))]) (.pointer (some ⟨w.heap.size, 0, none⟩)) rfl (lands_run2 (box_run _ _ _ rfl rfl _) (h1.add _ _)) ?_
  intro w2 h2
  simp only [pu]
  clear h1
  refine wpList_val (R := KD w.heap.size w [(w2.heap.size, 42, nums 2 (two Q.x Q.y)), (w.heap.size, 42, nums 2 (two P.x P.y))]) (.pointer (some ⟨w2.heap.size, 0, none⟩)) rfl (lands_run2 (box_run _ _ _ rfl rfl _) (h2.add _ _)) ?_
  intro w3 h3
  simp only [pu]
  clear h2
  generalize w2.heap.size = g4 at h3 ⊢
  refine wpList_val (R := KD w.heap.size w [(w3.heap.size, 42, nums 2 (two 0 0)), (g4, 42, nums 2 (two Q.x Q.y)), (w.heap.size, 42, nums 2 (two P.x P.y))]) (.pointer (some ⟨w3.heap.size, 0, none⟩)) rfl (lands_run2 (alloc_run _ _ rfl zero_pt _) (h3.add _ _)) ?_
  intro w5 h5
  simp only [pu]
  clear h3
  generalize w3.heap.size = g6 at h5 ⊢
  refine wpList_nil ?_
  repeat with_reducible (first | (apply wp_seq_k; intro _ _) | (go_at_K; go_step) | apply tn | apply wp_block | apply wp_skip | apply wp_exit | apply then_exit | apply block_normal | apply block_same | exact block_far rfl ?_)
  obtain ⟨n7, hn7⟩ : ∃ n, n = w5.heap.size := ⟨_, rfl⟩
  refine wp_region_anyE (KM w.heap.size n7 w (fun b _ => bif b then [(g6, 42, nums 2 (two ((R4.whole (R4.sum (R4.mk ((cnt P).x) ((cnt P).y) 1 (mulP ((cnt P).x) ((cnt P).y))) (R4.mk ((cnt Q).x) ((cnt Q).y) 1 (mulP ((cnt Q).x) ((cnt Q).y))))).x) ((R4.whole (R4.sum (R4.mk ((cnt P).x) ((cnt P).y) 1 (mulP ((cnt P).x) ((cnt P).y))) (R4.mk ((cnt Q).x) ((cnt Q).y) 1 (mulP ((cnt Q).x) ((cnt Q).y))))).y))), (g4, 42, nums 2 (two Q.x Q.y)), (w.heap.size, 42, nums 2 (two P.x P.y))] else [(g6, 42, nums 2 (two 0 0)), (g4, 42, nums 2 (two Q.x Q.y)), (w.heap.size, 42, nums 2 (two P.x P.y))]) 9 1001 []) (fun _ => false) (by kernel_rfl) (KM.begin h5 hn7 (lows hn7 h5 (fun b _ => by cases b <;> simp only [cond_true, cond_false, List.map_cons, List.map_nil])) _) ?_
  refine kO 0 (.agg (r64 4 (F4 dP))) rfl rfl rfl (fun _ => rfl) (fun qv L wx hT => ?_) ?_
  · exact hT.call (rd_any wx) (by go_simp)
  simp only [pu]
  refine kA 1 9 (.agg (nums 2 (two P.x P.y))) rfl rfl rfl (fun _ => rfl) (fun qv L wx hk hT => ?_) ?_
  · exact lands_load _ _ rfl _ rfl _ _ _ (hk.blk _ m2) Tryz.underlying42 rfl (by kernel_rfl) hT
  simp only [pu]
  refine kO 2 (.agg (nums 2 (two ((cnt P).x) ((cnt P).y)))) rfl rfl rfl (fun _ => rfl) (fun qv L wx hT => ?_) ?_
  · exact hT.call (rmade_any P hx hy wx) (by go_simp)
  simp only [pu]
  refine kO 3 (.agg (nums 4 (qua ((cnt P).x) ((cnt P).y) 1 (mulP ((cnt P).x) ((cnt P).y))))) rfl rfl rfl (fun _ => rfl) (fun qv L wx hT => ?_) ?_
  · exact hT.call (rpart_any (cnt P) cnt_x_lt cnt_y_lt wx) (by go_simp)
  simp only [pu]
  refine kA 4 9 (.agg (nums 2 (two Q.x Q.y))) rfl rfl rfl (fun _ => rfl) (fun qv L wx hk hT => ?_) ?_
  · exact lands_load _ _ rfl _ rfl _ _ _ (hk.blk _ m1) Tryz.underlying42 rfl (by kernel_rfl) hT
  simp only [pu]
  refine kO 5 (.agg (nums 2 (two ((cnt Q).x) ((cnt Q).y)))) rfl rfl rfl (fun _ => rfl) (fun qv L wx hT => ?_) ?_
  · exact hT.call (rmade_any Q kx ky wx) (by go_simp)
  simp only [pu]
  refine kO 6 (.agg (nums 4 (qua ((cnt Q).x) ((cnt Q).y) 1 (mulP ((cnt Q).x) ((cnt Q).y))))) rfl rfl rfl (fun _ => rfl) (fun qv L wx hT => ?_) ?_
  · exact hT.call (rpart_any (cnt Q) cnt_x_lt cnt_y_lt wx) (by go_simp)
  simp only [pu]
  refine kO 7 (.agg (nums 4 (qua ((R4.sum (R4.mk ((cnt P).x) ((cnt P).y) 1 (mulP ((cnt P).x) ((cnt P).y))) (R4.mk ((cnt Q).x) ((cnt Q).y) 1 (mulP ((cnt Q).x) ((cnt Q).y)))).x) ((R4.sum (R4.mk ((cnt P).x) ((cnt P).y) 1 (mulP ((cnt P).x) ((cnt P).y))) (R4.mk ((cnt Q).x) ((cnt Q).y) 1 (mulP ((cnt Q).x) ((cnt Q).y)))).y) ((R4.sum (R4.mk ((cnt P).x) ((cnt P).y) 1 (mulP ((cnt P).x) ((cnt P).y))) (R4.mk ((cnt Q).x) ((cnt Q).y) 1 (mulP ((cnt Q).x) ((cnt Q).y)))).z) ((R4.sum (R4.mk ((cnt P).x) ((cnt P).y) 1 (mulP ((cnt P).x) ((cnt P).y))) (R4.mk ((cnt Q).x) ((cnt Q).y) 1 (mulP ((cnt Q).x) ((cnt Q).y)))).t)))) rfl rfl rfl (fun _ => rfl) (fun qv L wx hT => ?_) ?_
  · exact hT.call (rsum_any (R4.mk ((cnt P).x) ((cnt P).y) 1 (mulP ((cnt P).x) ((cnt P).y))) ⟨cnt_x_lt, cnt_y_lt, (show 1 < M256 by decide), (mulP_lt _ _)⟩ (R4.mk ((cnt Q).x) ((cnt Q).y) 1 (mulP ((cnt Q).x) ((cnt Q).y))) ⟨cnt_x_lt, cnt_y_lt, (show 1 < M256 by decide), (mulP_lt _ _)⟩ wx) (by go_simp)
  simp only [pu]
  refine kO 8 (.agg (nums 2 (two ((R4.whole (R4.sum (R4.mk ((cnt P).x) ((cnt P).y) 1 (mulP ((cnt P).x) ((cnt P).y))) (R4.mk ((cnt Q).x) ((cnt Q).y) 1 (mulP ((cnt Q).x) ((cnt Q).y))))).x) ((R4.whole (R4.sum (R4.mk ((cnt P).x) ((cnt P).y) 1 (mulP ((cnt P).x) ((cnt P).y))) (R4.mk ((cnt Q).x) ((cnt Q).y) 1 (mulP ((cnt Q).x) ((cnt Q).y))))).y)))) rfl rfl rfl (fun _ => rfl) (fun qv L wx hT => ?_) ?_
  · exact hT.call (rwhole_any (R4.sum (R4.mk ((cnt P).x) ((cnt P).y) 1 (mulP ((cnt P).x) ((cnt P).y))) (R4.mk ((cnt Q).x) ((cnt Q).y) 1 (mulP ((cnt Q).x) ((cnt Q).y)))) (R4.sum_ok) wx) (by go_simp)
  simp only [pu]
  refine anyE_take (i := 9) undef rfl rfl (by kernel_rfl) (by kernel_rfl) (by kernel_rfl) (fun qv => ym_first (k := 0) _ _ _ (by kernel_rfl) rfl rfl rfl rfl (by kernel_rfl) (by kernel_rfl) (row_one fun _ => rfl) (fun _ => rfl) (fun _ => rfl)) ?_
  simp only [pu]
  refine anyE_done (by kernel_rfl) (fun qv w8 hK => ?_) _
  have hE := hK.outs (by kernel_rfl) (by kernel_rfl)  (b := true) (c := false) (by kernel_rfl) (by kernel_rfl)
  clear hK h5 hn7
  have h8 : KD w.heap.size w [(g6, 42, nums 2 (two ((R4.whole (R4.sum (R4.mk ((cnt P).x) ((cnt P).y) 1 (mulP ((cnt P).x) ((cnt P).y))) (R4.mk ((cnt Q).x) ((cnt Q).y) 1 (mulP ((cnt Q).x) ((cnt Q).y))))).x) ((R4.whole (R4.sum (R4.mk ((cnt P).x) ((cnt P).y) 1 (mulP ((cnt P).x) ((cnt P).y))) (R4.mk ((cnt Q).x) ((cnt Q).y) 1 (mulP ((cnt Q).x) ((cnt Q).y))))).y))), (g4, 42, nums 2 (two Q.x Q.y)), (w.heap.size, 42, nums 2 (two P.x P.y))] w8 := hE.k
  clear hE
  clear n7
  clear qv
  repeat with_reducible (first | (apply wp_seq_k; intro _ _) | (go_at_K; go_step) | apply tn | apply wp_block | apply wp_skip | apply wp_exit | apply then_exit | apply block_normal | apply block_same | exact block_far rfl ?_)
  with_reducible apply wp_ret
  repeat (first | with_reducible apply then_ret | with_reducible apply block_ret)
  exact bodyPost_ret (results_cell_row rfl _ _ g6 42 (nums 2 (two ((R4.whole (R4.sum (R4.mk ((cnt P).x) ((cnt P).y) 1 (mulP ((cnt P).x) ((cnt P).y))) (R4.mk ((cnt Q).x) ((cnt Q).y) 1 (mulP ((cnt Q).x) ((cnt Q).y))))).x) ((R4.whole (R4.sum (R4.mk ((cnt P).x) ((cnt P).y) 1 (mulP ((cnt P).x) ((cnt P).y))) (R4.mk ((cnt Q).x) ((cnt Q).y) 1 (mulP ((cnt Q).x) ((cnt Q).y))))).y))) (0, 0) _ rfl (h8.blk _ m0) Tryz.underlying42 rfl (by kernel_rfl)) rfl ⟨by simp only [raddV], h8.b⟩
set_option maxRecDepth 100000 in
set_option maxHeartbeats 400000 in
theorem rneg_any (P : Pt) (hx : P.x < M256) (hy : P.y < M256) (w : World) :
    Calls Tryz.prog 34 #[.agg (nums 2 (two P.x P.y))] w fun e w' => e = .returned (.agg (nums 2 (two (pneg (cnt P)).x (pneg (cnt P)).y))) ∧ Below w.heap.size w w' := by
  go_enter Tryz.func34, Tryz.ntmps34
  repeat with_reducible (first | (apply wp_seq_k; intro _ _) | (go_at_K; go_step) | apply tn | apply wp_block | apply wp_skip | apply wp_exit | apply then_exit | apply block_normal | apply block_same | exact block_far rfl ?_)
  have h1 := KD.begin w
  with_reducible apply wp_region_lit
  refine wpList_val (R := KD w.heap.size w [(w.heap.size, 42, nums 2 (two P.x P.y))]) (.pointer (some ⟨w.heap.size, 0, none⟩)) rfl (lands_run2 (box_run _ _ _ rfl rfl _) (h1.add _ _)) ?_
  intro w2 h2
  simp only [pu]
  clear h1
  refine wpList_val (R := KD w.heap.size w [(w2.heap.size, 42, nums 2 (two 0 0)), (w.heap.size, 42, nums 2 (two P.x P.y))]) (.pointer (some ⟨w2.heap.size, 0, none⟩)) rfl (lands_run2 (alloc_run _ _ rfl zero_pt _) (h2.add _ _)) ?_
  intro w3 h3
  simp only [pu]
  clear h2
  generalize w2.heap.size = g4 at h3 ⊢
  refine wpList_nil ?_
  repeat with_reducible (first | (apply wp_seq_k; intro _ _) | (go_at_K; go_step) | apply tn | apply wp_block | apply wp_skip | apply wp_exit | apply then_exit | apply block_normal | apply block_same | exact block_far rfl ?_)
  with_reducible apply wp_region_lit
  refine wpList_val (.agg (nums 2 (two P.x P.y))) rfl (by exact lands_load _ _ rfl _ rfl _ _ _ (h3.blk _ m1) Tryz.underlying42 rfl (by kernel_rfl) h3) ?_
  intro w5 h5
  simp only [pu]
  clear h3
  refine wpList_val (.agg (nums 2 (two ((cnt P).x) ((cnt P).y)))) rfl (by exact h5.call (rmade_any P hx hy w5) (by go_simp)) ?_
  intro w6 h6
  simp only [pu]
  clear h5
  refine wpList_val (R := KD w.heap.size w [(w6.heap.size, 42, nums 2 (two 0 0)), (g4, 42, nums 2 (two 0 0)), (w.heap.size, 42, nums 2 (two P.x P.y))]) (.pointer (some ⟨w6.heap.size, 0, none⟩)) rfl (lands_run2 (alloc_run _ _ rfl zero_pt _) (h6.add _ _)) ?_
  intro w7 h7
  simp only [pu]
  clear h6
  generalize w6.heap.size = g8 at h7 ⊢
  refine wpList_val (R := KD w.heap.size w [(g8, 42, nums 2 (two ((cnt P).x) ((cnt P).y))), (g4, 42, nums 2 (two 0 0)), (w.heap.size, 42, nums 2 (two P.x P.y))]) undef rfl (lands_store _ _ _ rfl g8 (nums 2 (two ((cnt P).x) ((cnt P).y))) rfl rfl _ _ (h7.blk _ m0) (by kernel_rfl) (by kernel_rfl) (row_one fun _ => rfl) (h7.put (k := 0) rfl _)) ?_
  intro w9 h9
  simp only [pu]
  clear h7
  refine wpList_nil ?_
  repeat with_reducible (first | (apply wp_seq_k; intro _ _) | (go_at_K; go_step) | apply tn | apply wp_block | apply wp_skip | apply wp_exit | apply then_exit | apply block_normal | apply block_same | exact block_far rfl ?_)
  obtain ⟨n10, hn10⟩ : ∃ n, n = w9.heap.size := ⟨_, rfl⟩
  refine wp_region_anyE (KM w.heap.size n10 w (fun b _ => bif b then [(g8, 42, nums 2 (two ((cnt P).x) ((cnt P).y))), (g4, 42, nums 2 (two (negP ((cnt P).x)) ((cnt P).y))), (w.heap.size, 42, nums 2 (two P.x P.y))] else [(g8, 42, nums 2 (two ((cnt P).x) ((cnt P).y))), (g4, 42, nums 2 (two 0 0)), (w.heap.size, 42, nums 2 (two P.x P.y))]) 6 1001 []) (fun _ => false) (by kernel_rfl) (KM.begin h9 hn10 (lows hn10 h9 (fun b _ => by cases b <;> simp only [cond_true, cond_false, List.map_cons, List.map_nil])) _) ?_
  refine kO 0 (.pointer (some ⟨g8, 0, none⟩)) rfl rfl rfl (fun _ => rfl) (fun qv L wx hT => ?_) ?_
  · refine lands_value (w := wx) ?_ hT; go_simp
  simp only [pu]
  refine kA 1 9 (.agg (r64 4 (F4 ((cnt P).x)))) rfl rfl rfl (fun _ => rfl) (fun qv L wx hk hT => ?_) ?_
  · exact lands_num 0 _ _ rfl _ 2 _ rfl _ (hk.blk _ m0) (by decide) _ Tryz.underlying40 rfl (by kernel_rfl) hT
  simp only [pu]
  refine kO 2 (.agg (r64 4 (F4 (negP ((cnt P).x))))) rfl rfl rfl (fun _ => rfl) (fun qv L wx hT => ?_) ?_
  · exact hT.call (rnegP ((cnt P).x) wx cnt_x_lt) (by go_simp)
  simp only [pu]
  refine kO 3 (.pointer (some ⟨g8, 4, none⟩)) rfl rfl rfl (fun _ => rfl) (fun qv L wx hT => ?_) ?_
  · refine lands_value (w := wx) ?_ hT; go_simp
  simp only [pu]
  refine kA 4 9 (.agg (r64 4 (F4 ((cnt P).y)))) rfl rfl rfl (fun _ => rfl) (fun qv L wx hk hT => ?_) ?_
  · exact lands_num 1 _ _ rfl _ 2 _ rfl _ (hk.blk _ m0) (by decide) _ Tryz.underlying40 rfl (by kernel_rfl) hT
  simp only [pu]
  refine kO 5 (.agg (nums 2 (two (negP ((cnt P).x)) ((cnt P).y)))) rfl rfl rfl (fun _ => rfl) (fun qv L wx hT => ?_) ?_
  · exact lands_built _ _ rfl _ rfl _ (by kernel_rfl) hT
  simp only [pu]
  refine anyE_take (i := 6) undef rfl rfl (by kernel_rfl) (by kernel_rfl) (by kernel_rfl) (fun qv => ym_first (k := 1) _ _ _ (by kernel_rfl) rfl rfl rfl rfl (by kernel_rfl) (by kernel_rfl) (row_one fun _ => rfl) (fun _ => rfl) (fun _ => rfl)) ?_
  simp only [pu]
  refine anyE_done (by kernel_rfl) (fun qv w11 hK => ?_) _
  have hE := hK.outs (by kernel_rfl) (by kernel_rfl)  (b := true) (c := false) (by kernel_rfl) (by kernel_rfl)
  clear hK h9 hn10
  have h11 : KD w.heap.size w [(g8, 42, nums 2 (two ((cnt P).x) ((cnt P).y))), (g4, 42, nums 2 (two (negP ((cnt P).x)) ((cnt P).y))), (w.heap.size, 42, nums 2 (two P.x P.y))] w11 := hE.k
  clear hE
  clear n10
  clear qv
  repeat with_reducible (first | (apply wp_seq_k; intro _ _) | (go_at_K; go_step) | apply tn | apply wp_block | apply wp_skip | apply wp_exit | apply then_exit | apply block_normal | apply block_same | exact block_far rfl ?_)
  with_reducible apply wp_ret
  repeat (first | with_reducible apply then_ret | with_reducible apply block_ret)
  exact bodyPost_ret (results_cell_row rfl _ _ g4 42 (nums 2 (two (negP ((cnt P).x)) ((cnt P).y))) (0, 0) _ rfl (h11.blk _ m1) Tryz.underlying42 rfl (by kernel_rfl)) rfl ⟨by simp only [pneg], h11.b⟩
set_option maxRecDepth 100000 in
set_option maxHeartbeats 400000 in
theorem rroot5_any (y : Nat) (hy : y < M256) (x : Nat) (b : Bool) (hr : rV (subP (mulP y y) 1) (addP (mulP dP (mulP y y)) 1) = (x, b)) (w : World) :
    Calls Tryz.prog 64 #[.agg (r64 4 (F4 y))] w fun e w' => e = .returned (.tuple #[.agg (r64 4 (F4 x)), .bool b]) ∧ Below w.heap.size w w' := by
  go_enter Tryz.func64, Tryz.ntmps64
  repeat with_reducible (first | (apply wp_seq_k; intro _ _) | (go_at_K; go_step) | apply tn | apply wp_block | apply wp_skip | apply wp_exit | apply then_exit | apply block_normal | apply block_same | exact block_far rfl ?_)
  have h1 := KD.begin w
  with_reducible apply wp_region_lit
  refine wpList_val (R := KD w.heap.size w [(w.heap.size, 40, r64 4 (F4 y))]) (.pointer (some ⟨w.heap.size, 0, none⟩)) rfl (lands_run2 (box_run _ _ _ rfl rfl _) (h1.add _ _)) ?_
  intro w2 h2
  simp only [pu]
  clear h1
  refine wpList_val (R := KD w.heap.size w [(w2.heap.size, 40, r64 4 (F4 0)), (w.heap.size, 40, r64 4 (F4 y))]) (.pointer (some ⟨w2.heap.size, 0, none⟩)) rfl (lands_run2 (alloc_run _ _ rfl zero_fe _) (h2.add _ _)) ?_
  intro w3 h3
  simp only [pu]
  clear h2
  generalize w2.heap.size = g4 at h3 ⊢
  refine wpList_val (.bool false) rfl (by refine lands_value (w := w3) ?_ h3; go_simp <;> rfl) ?_
  intro w5 h5
  simp only [pu]
  clear h3
  refine wpList_nil ?_
  repeat with_reducible (first | (apply wp_seq_k; intro _ _) | (go_at_K; go_step) | apply tn | apply wp_block | apply wp_skip | apply wp_exit | apply then_exit | apply block_normal | apply block_same | exact block_far rfl ?_)
  with_reducible apply wp_region_lit
  refine wpList_val (.agg (r64 4 (F4 y))) rfl (by exact lands_load _ _ rfl _ rfl _ _ _ (h5.blk _ m1) Tryz.underlying40 rfl (fe_size _) h5) ?_
  intro w6 h6
  simp only [pu]
  clear h5
  refine wpList_val (.agg (r64 4 (F4 y))) rfl (by exact lands_load _ _ rfl _ rfl _ _ _ (h6.blk _ m1) Tryz.underlying40 rfl (fe_size _) h6) ?_
  intro w7 h7
  simp only [pu]
  clear h6
  refine wpList_val (.agg (r64 4 (F4 (mulP y y)))) rfl (by exact h7.call (rmulP y y w7 hy hy) (by go_simp)) ?_
  intro w8 h8
  simp only [pu]
  clear h7
  refine wpList_val (R := KD w.heap.size w [(w8.heap.size, 40, r64 4 (F4 0)), (g4, 40, r64 4 (F4 0)), (w.heap.size, 40, r64 4 (F4 y))]) (.pointer (some ⟨w8.heap.size, 0, none⟩)) rfl (lands_run2 (alloc_run _ _ rfl zero_fe _) (h8.add _ _)) ?_
  intro w9 h9
  simp only [pu]
  clear h8
  generalize w8.heap.size = g10 at h9 ⊢
  refine wpList_val (R := KD w.heap.size w [(g10, 40, r64 4 (F4 (mulP y y))), (g4, 40, r64 4 (F4 0)), (w.heap.size, 40, r64 4 (F4 y))]) undef rfl (lands_store _ _ _ rfl g10 (r64 4 (F4 (mulP y y))) rfl rfl _ _ (h9.blk _ m0) (by kernel_rfl) (by kernel_rfl) (row_one fun _ => rfl) (h9.put (k := 0) rfl _)) ?_
  intro w11 h11
  simp only [pu]
  clear h9
  refine wpList_nil ?_
  repeat with_reducible (first | (apply wp_seq_k; intro _ _) | (go_at_K; go_step) | apply tn | apply wp_block | apply wp_skip | apply wp_exit | apply then_exit | apply block_normal | apply block_same | exact block_far rfl ?_)
  with_reducible apply wp_region_lit
  refine wpList_val (.agg (r64 4 (F4 1))) rfl (by exact h11.call (rsmall_nat 1 w11 (by decide)) (by go_simp)) ?_
  intro w12 h12
  simp only [pu]
  clear h11
  refine wpList_val (R := KD w.heap.size w [(w12.heap.size, 40, r64 4 (F4 0)), (g10, 40, r64 4 (F4 (mulP y y))), (g4, 40, r64 4 (F4 0)), (w.heap.size, 40, r64 4 (F4 y))]) (.pointer (some ⟨w12.heap.size, 0, none⟩)) rfl (lands_run2 (alloc_run _ _ rfl zero_fe _) (h12.add _ _)) ?_
  intro w13 h13
  simp only [pu]
  clear h12
  generalize w12.heap.size = g14 at h13 ⊢
  refine wpList_val (R := KD w.heap.size w [(g14, 40, r64 4 (F4 1)), (g10, 40, r64 4 (F4 (mulP y y))), (g4, 40, r64 4 (F4 0)), (w.heap.size, 40, r64 4 (F4 y))]) undef rfl (lands_store _ _ _ rfl g14 (r64 4 (F4 1)) rfl rfl _ _ (h13.blk _ m0) (by kernel_rfl) (by kernel_rfl) (row_one fun _ => rfl) (h13.put (k := 0) rfl _)) ?_
  intro w15 h15
  simp only [pu]
  clear h13
  refine wpList_nil ?_
  repeat with_reducible (first | (apply wp_seq_k; intro _ _) | (go_at_K; go_step) | apply tn | apply wp_block | apply wp_skip | apply wp_exit | apply then_exit | apply block_normal | apply block_same | exact block_far rfl ?_)
  obtain ⟨n16, hn16⟩ : ∃ n, n = w15.heap.size := ⟨_, rfl⟩
  refine wp_region_anyE (KM w.heap.size n16 w (fun b _ => bif b then [(g14, 40, r64 4 (F4 1)), (g10, 40, r64 4 (F4 (mulP y y))), (g4, 40, r64 4 (F4 x)), (w.heap.size, 40, r64 4 (F4 y))] else [(g14, 40, r64 4 (F4 1)), (g10, 40, r64 4 (F4 (mulP y y))), (g4, 40, r64 4 (F4 0)), (w.heap.size, 40, r64 4 (F4 y))]) 11 1001 []) (fun _ => false) (by kernel_rfl) (KM.begin h15 hn16 (lows hn16 h15 (fun b _ => by cases b <;> simp only [cond_true, cond_false, List.map_cons, List.map_nil])) _) ?_
  refine kA 0 9 (.agg (r64 4 (F4 (mulP y y)))) rfl rfl rfl (fun _ => rfl) (fun qv L wx hk hT => ?_) ?_
  · exact lands_load _ _ rfl _ rfl _ _ _ (hk.blk _ m1) Tryz.underlying40 rfl (fe_size _) hT
  simp only [pu]
  refine kA 1 9 (.agg (r64 4 (F4 1))) rfl rfl rfl (fun _ => rfl) (fun qv L wx hk hT => ?_) ?_
  · exact lands_load _ _ rfl _ rfl _ _ _ (hk.blk _ m0) Tryz.underlying40 rfl (fe_size _) hT
  simp only [pu]
  refine kO 2 (.agg (r64 4 (F4 (subP (mulP y y) 1)))) rfl rfl rfl (fun _ => rfl) (fun qv L wx hT => ?_) ?_
  · exact hT.call (rsubP (mulP y y) 1 wx (mulP_lt _ _) (by decide)) (by go_simp)
  simp only [pu]
  refine kO 3 (.agg (r64 4 (F4 dP))) rfl rfl rfl (fun _ => rfl) (fun qv L wx hT => ?_) ?_
  · exact hT.call (rd_any wx) (by go_simp)
  simp only [pu]
  refine kA 4 9 (.agg (r64 4 (F4 (mulP y y)))) rfl rfl rfl (fun _ => rfl) (fun qv L wx hk hT => ?_) ?_
  · exact lands_load _ _ rfl _ rfl _ _ _ (hk.blk _ m1) Tryz.underlying40 rfl (fe_size _) hT
  simp only [pu]
  refine kO 5 (.agg (r64 4 (F4 (mulP dP (mulP y y))))) rfl rfl rfl (fun _ => rfl) (fun qv L wx hT => ?_) ?_
  · exact hT.call (rmulP dP (mulP y y) wx dP_lt (mulP_lt _ _)) (by go_simp)
  simp only [pu]
  refine kA 6 9 (.agg (r64 4 (F4 1))) rfl rfl rfl (fun _ => rfl) (fun qv L wx hk hT => ?_) ?_
  · exact lands_load _ _ rfl _ rfl _ _ _ (hk.blk _ m0) Tryz.underlying40 rfl (fe_size _) hT
  simp only [pu]
  refine kO 7 (.agg (r64 4 (F4 (addP (mulP dP (mulP y y)) 1)))) rfl rfl rfl (fun _ => rfl) (fun qv L wx hT => ?_) ?_
  · exact hT.call (raddP (mulP dP (mulP y y)) 1 wx (mulP_lt _ _) (by decide)) (by go_simp)
  simp only [pu]
  refine kO 8 (.tuple #[.agg (r64 4 (F4 x)), .bool b]) rfl rfl rfl (fun _ => rfl) (fun qv L wx hT => ?_) ?_
  · exact hT.call (rroot_is (subP (mulP y y) 1) (addP (mulP dP (mulP y y)) 1) wx (subP_lt _ _) (addP_lt _ _) x b hr) (by go_simp)
  simp only [pu]
  refine kO 9 (.agg (r64 4 (F4 x))) rfl rfl rfl (fun _ => rfl) (fun qv L wx hT => ?_) ?_
  · refine lands_value (w := wx) ?_ hT; go_simp <;> rfl
  simp only [pu]
  refine kO 10 (.bool b) rfl rfl rfl (fun _ => rfl) (fun qv L wx hT => ?_) ?_
  · refine lands_value (w := wx) ?_ hT; go_simp <;> rfl
  simp only [pu]
  refine anyE_take (i := 11) undef rfl rfl (by kernel_rfl) (by kernel_rfl) (by kernel_rfl) (fun qv => ym_first (k := 2) _ _ _ (by kernel_rfl) rfl rfl rfl rfl (by kernel_rfl) (by kernel_rfl) (row_one fun _ => rfl) (fun _ => rfl) (fun _ => rfl)) ?_
  simp only [pu]
  refine kO 12 (.bool b) rfl rfl rfl (fun _ => rfl) (fun qv L wx hT => ?_) ?_
  · refine lands_value (w := wx) ?_ hT; go_simp <;> rfl
  simp only [pu]
  refine anyE_done (by kernel_rfl) (fun qv w17 hK => ?_) _
  have hE := hK.outs (by kernel_rfl) (by kernel_rfl)  (b := true) (c := false) (by kernel_rfl) (by kernel_rfl)
  clear hK h15 hn16
  have h17 : KD w.heap.size w [(g14, 40, r64 4 (F4 1)), (g10, 40, r64 4 (F4 (mulP y y))), (g4, 40, r64 4 (F4 x)), (w.heap.size, 40, r64 4 (F4 y))] w17 := hE.k
  clear hE
  clear n16
  clear qv
  repeat with_reducible (first | (apply wp_seq_k; intro _ _) | (go_at_K; go_step) | apply tn | apply wp_block | apply wp_skip | apply wp_exit | apply then_exit | apply block_normal | apply block_same | exact block_far rfl ?_)
  with_reducible apply wp_ret
  repeat (first | with_reducible apply then_ret | with_reducible apply block_ret)
  exact bodyPost_ret (results_cell_row_slot rfl _ _ g4 40 (r64 4 (F4 x)) (0, 0) _ _ rfl (h17.blk _ m2) Tryz.underlying40 rfl (by kernel_rfl) rfl) rfl ⟨rfl, h17.b⟩
theorem rbase_mul (w : World) : Calls Tryz.prog 72 #[.agg (r64 4 (F4 4)), .agg (r64 4 (F4 (vP 5)))] w fun e w' => e = .returned (.agg (r64 4 (F4 byP))) ∧ Below w.heap.size w w' := by
  have h := rmulP 4 (vP 5) w (by decide) (vP_lt _)
  rwa [by_is] at h
set_option maxRecDepth 100000 in
set_option maxHeartbeats 400000 in
theorem rbase_any (w : World) :
    Calls Tryz.prog 33 #[] w fun e w' => e = .returned (.agg (nums 2 (two bP.x bP.y))) ∧ Below w.heap.size w w' := by
  go_enter Tryz.func33, Tryz.ntmps33
  repeat with_reducible (first | (apply wp_seq_k; intro _ _) | (go_at_K; go_step) | apply tn | apply wp_block | apply wp_skip | apply wp_exit | apply then_exit | apply block_normal | apply block_same | exact block_far rfl ?_)
  have h1 := KD.begin w
  with_reducible apply wp_region_lit
  refine wpList_val (R := KD w.heap.size w [(w.heap.size, 42, nums 2 (two 0 0))]) (.pointer (some ⟨w.heap.size, 0, none⟩)) rfl (lands_run2 (alloc_run _ _ rfl zero_pt _) (h1.add _ _)) ?_
  intro w2 h2
  simp only [pu]
  clear h1
  refine wpList_nil ?_
  repeat with_reducible (first | (apply wp_seq_k; intro _ _) | (go_at_K; go_step) | apply tn | apply wp_block | apply wp_skip | apply wp_exit | apply then_exit | apply block_normal | apply block_same | exact block_far rfl ?_)
  with_reducible apply wp_region_lit
  refine wpList_val (.agg (r64 4 (F4 4))) rfl (by exact h2.call (rsmall_nat 4 w2 (by decide)) (by go_simp)) ?_
  intro w3 h3
  simp only [pu]
  clear h2
  refine wpList_val (.agg (r64 4 (F4 5))) rfl (by exact h3.call (rsmall_nat 5 w3 (by decide)) (by go_simp)) ?_
  intro w4 h4
  simp only [pu]
  clear h3
  refine wpList_val (.agg (r64 4 (F4 (vP 5)))) rfl (by exact h4.call (rinvV 5 w4 (by decide)) (by go_simp)) ?_
  intro w5 h5
  simp only [pu]
  clear h4
  refine wpList_val (.agg (r64 4 (F4 byP))) rfl (by exact h5.call (rbase_mul w5) (by go_simp)) ?_
  intro w6 h6
  simp only [pu]
  clear h5
  refine wpList_val (R := KD w.heap.size w [(w6.heap.size, 40, r64 4 (F4 0)), (w.heap.size, 42, nums 2 (two 0 0))]) (.pointer (some ⟨w6.heap.size, 0, none⟩)) rfl (lands_run2 (alloc_run _ _ rfl zero_fe _) (h6.add _ _)) ?_
  intro w7 h7
  simp only [pu]
  clear h6
  generalize w6.heap.size = g8 at h7 ⊢
  refine wpList_val (R := KD w.heap.size w [(g8, 40, r64 4 (F4 byP)), (w.heap.size, 42, nums 2 (two 0 0))]) undef rfl (lands_store _ _ _ rfl g8 (r64 4 (F4 byP)) rfl rfl _ _ (h7.blk _ m0) (by kernel_rfl) (by kernel_rfl) (row_one fun _ => rfl) (h7.put (k := 0) rfl _)) ?_
  intro w9 h9
  simp only [pu]
  clear h7
  refine wpList_nil ?_
  repeat with_reducible (first | (apply wp_seq_k; intro _ _) | (go_at_K; go_step) | apply tn | apply wp_block | apply wp_skip | apply wp_exit | apply then_exit | apply block_normal | apply block_same | exact block_far rfl ?_)
  with_reducible apply wp_region_lit
  refine wpList_val (.agg (r64 4 (F4 byP))) rfl (by exact lands_load _ _ rfl _ rfl _ _ _ (h9.blk _ m0) Tryz.underlying40 rfl (fe_size _) h9) ?_
  intro w10 h10
  simp only [pu]
  clear h9
  refine wpList_val (.tuple #[.agg (r64 4 (F4 bxP)), .bool true]) rfl (by exact h10.call (rroot5_any byP byP_lt bxP true root_base w10) (by go_simp)) ?_
  intro w11 h11
  simp only [pu]
  clear h10
  refine wpList_val (.tuple #[.agg (r64 4 (F4 bxP)), .bool true]) rfl (by refine lands_value (w := w11) ?_ h11; go_simp <;> rfl) ?_
  intro w12 h12
  simp only [pu]
  clear h11
  refine wpList_val (.agg (r64 4 (F4 bxP))) rfl (by refine lands_value (w := w12) ?_ h12; go_simp <;> rfl) ?_
  intro w13 h13
  simp only [pu]
  clear h12
  refine wpList_val (.bool true) rfl (by refine lands_value (w := w13) ?_ h13; go_simp <;> rfl) ?_
  intro w14 h14
  simp only [pu]
  clear h13
  refine wpList_val (R := KD w.heap.size w [(w14.heap.size, 40, r64 4 (F4 0)), (g8, 40, r64 4 (F4 byP)), (w.heap.size, 42, nums 2 (two 0 0))]) (.pointer (some ⟨w14.heap.size, 0, none⟩)) rfl (lands_run2 (alloc_run _ _ rfl zero_fe _) (h14.add _ _)) ?_
  intro w15 h15
  simp only [pu]
  clear h14
  generalize w14.heap.size = g16 at h15 ⊢
  refine wpList_val (R := KD w.heap.size w [(g16, 40, r64 4 (F4 bxP)), (g8, 40, r64 4 (F4 byP)), (w.heap.size, 42, nums 2 (two 0 0))]) undef rfl (lands_store _ _ _ rfl g16 (r64 4 (F4 bxP)) rfl rfl _ _ (h15.blk _ m0) (by kernel_rfl) (by kernel_rfl) (row_one fun _ => rfl) (h15.put (k := 0) rfl _)) ?_
  intro w17 h17
  simp only [pu]
  clear h15
  refine wpList_val (.bool true) rfl (by refine lands_value (w := w17) ?_ h17; go_simp <;> rfl) ?_
  intro w18 h18
  simp only [pu]
  clear h17
  refine wpList_nil ?_
  repeat with_reducible (first | (apply wp_seq_k; intro _ _) | (go_at_K; go_step) | apply tn | apply wp_block | apply wp_skip | apply wp_exit | apply then_exit | apply block_normal | apply block_same | exact block_far rfl ?_)
  with_reducible apply wp_region_lit
  refine wpList_val (.agg (r64 4 (F4 bxP))) rfl (by exact lands_load _ _ rfl _ rfl _ _ _ (h18.blk _ m0) Tryz.underlying40 rfl (fe_size _) h18) ?_
  intro w19 h19
  simp only [pu]
  clear h18
  refine wpList_val (.agg (r64 4 (F4 byP))) rfl (by exact lands_load _ _ rfl _ rfl _ _ _ (h19.blk _ m1) Tryz.underlying40 rfl (fe_size _) h19) ?_
  intro w20 h20
  simp only [pu]
  clear h19
  refine wpList_val (.agg (nums 2 (two bxP byP))) rfl (by exact lands_built _ _ rfl _ rfl _ (by kernel_rfl) h20) ?_
  intro w21 h21
  simp only [pu]
  clear h20
  refine wpList_val (R := KD w.heap.size w [(g16, 40, r64 4 (F4 bxP)), (g8, 40, r64 4 (F4 byP)), (w.heap.size, 42, nums 2 (two bxP byP))]) undef rfl (lands_store _ _ _ rfl w.heap.size (nums 2 (two bxP byP)) rfl rfl _ _ (h21.blk _ m2) (by kernel_rfl) (by kernel_rfl) (row_one fun _ => rfl) (h21.put (k := 2) rfl _)) ?_
  intro w22 h22
  simp only [pu]
  clear h21
  refine wpList_nil ?_
  repeat with_reducible (first | (apply wp_seq_k; intro _ _) | (go_at_K; go_step) | apply tn | apply wp_block | apply wp_skip | apply wp_exit | apply then_exit | apply block_normal | apply block_same | exact block_far rfl ?_)
  with_reducible apply wp_ret
  repeat (first | with_reducible apply then_ret | with_reducible apply block_ret)
  exact bodyPost_ret (results_cell_row rfl _ _ w.heap.size 42 (nums 2 (two bxP byP)) (0, 0) _ rfl (h22.blk _ m2) Tryz.underlying42 rfl (by kernel_rfl)) rfl ⟨rfl, h22.b⟩
end Go.Proofs.YtggalphgnloneaaGreat
