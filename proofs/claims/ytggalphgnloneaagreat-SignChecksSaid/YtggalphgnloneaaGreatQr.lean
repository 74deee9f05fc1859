/- The reference of layer 5: D, Zero, On, made; points of fractions; Add, Neg, root, Base. (written by mkQ.py) -/
import Derived.Test.YtggalphgnloneaaGreatQa
namespace Go.Proofs.YtggalphgnloneaaGreat
open Go.RowKit
set_option maxRecDepth 100000 in
set_option maxHeartbeats 400000 in
theorem rd_any (w : World) :
    Calls Tryz.prog 66 #[] w fun e w' => e = .returned (.agg (r64 4 (F4 dP))) ∧ Below w.heap.size w w' := by
  go_enter Tryz.func66, Tryz.ntmps66
  with_reducible (apply wp_seq_k; intro _ _)
  have h1 := KD.begin w
  with_reducible apply wp_region_lit
  refine wA h1 (alloc_run _ _ rfl zero_fe _) fun w2 h2 => ?_
  simp only [pu]
  clear h1
  refine wpList_nil ?_
  with_reducible (apply tn; go_at_K; go_step; apply wp_seq_k; intro _ _)
  with_reducible apply wp_region_lit
  refine wC h2 (rsmall_nat 121665 w2 (by decide)) fun w3 h3 => ?_
  simp only [pu]
  clear h2
  refine wC h3 (rnegP 121665 w3 (by decide)) fun w4 h4 => ?_
  simp only [pu]
  clear h3
  refine wC h4 (rsmall_nat 121666 w4 (by decide)) fun w5 h5 => ?_
  simp only [pu]
  clear h4
  refine wC h5 (rinvV 121666 w5 (by decide)) fun w6 h6 => ?_
  simp only [pu]
  clear h5
  refine wC h6 (rmulP (negP 121665) (vP 121666) w6 (negP_lt _) (vP_lt _)) fun w7 h7 => ?_
  simp only [pu]
  clear h6
  refine wpList_val (R := KD w.heap.size w [(w.heap.size, 40, r64 4 (F4 (mulP (negP 121665) (vP 121666))))]) undef rfl (lands_store _ _ _ rfl w.heap.size (r64 4 (F4 (mulP (negP 121665) (vP 121666)))) rfl rfl _ _ (h7.blk _ m0) (by kernel_rfl) (by kernel_rfl) (row_one fun _ => rfl) (h7.put (k := 0) rfl _)) ?_
  intro w8 h8
  simp only [pu]
  clear h7
  refine wpList_nil ?_
  with_reducible (apply tn; go_at_K; go_step)
  with_reducible apply wp_ret
  repeat (first | with_reducible apply then_ret | with_reducible apply block_ret)
  exact bodyPost_ret (results_cell_row rfl _ _ w.heap.size 40 (r64 4 (F4 (mulP (negP 121665) (vP 121666)))) (0, 0) _ rfl (h8.blk _ m0) Tryz.underlying40 rfl (by kernel_rfl)) rfl ⟨by rw [d_is], h8.b⟩
set_option maxRecDepth 100000 in
set_option maxHeartbeats 400000 in
theorem rzero_any (w : World) :
    Calls Tryz.prog 69 #[] w fun e w' => e = .returned (.agg (nums 2 (two pZ.x pZ.y))) ∧ Below w.heap.size w w' := by
  go_enter Tryz.func69, Tryz.ntmps69
  with_reducible (apply wp_seq_k; intro _ _)
  have h1 := KD.begin w
  with_reducible apply wp_region_lit
  refine wA h1 (alloc_run _ _ rfl zero_pt _) fun w2 h2 => ?_
  simp only [pu]
  clear h1
  refine wpList_nil ?_
  with_reducible (apply tn; go_at_K; go_step; apply wp_seq_k; intro _ _)
  with_reducible apply wp_region_lit
  refine wC h2 (rsmall_nat 1 w2 (by decide)) fun w3 h3 => ?_
  simp only [pu]
  clear h2
  refine wL (.agg (nums 2 (two 0 1))) (by exact lands_built _ _ rfl _ rfl _ (by kernel_rfl) rfl) ?_
  simp only [pu]
  refine wpList_val (R := KD w.heap.size w [(w.heap.size, 42, nums 2 (two 0 1))]) undef rfl (lands_store _ _ _ rfl w.heap.size (nums 2 (two 0 1)) rfl rfl _ _ (h3.blk _ m0) (by kernel_rfl) (by kernel_rfl) (row_one fun _ => rfl) (h3.put (k := 0) rfl _)) ?_
  intro w4 h4
  simp only [pu]
  clear h3
  refine wpList_nil ?_
  with_reducible (apply tn; go_at_K; go_step)
  with_reducible apply wp_ret
  repeat (first | with_reducible apply then_ret | with_reducible apply block_ret)
  exact bodyPost_ret (results_cell_row rfl _ _ w.heap.size 42 (nums 2 (two 0 1)) (0, 0) _ rfl (h4.blk _ m0) Tryz.underlying42 rfl (by kernel_rfl)) rfl ⟨rfl, h4.b⟩
set_option maxRecDepth 100000 in
set_option maxHeartbeats 400000 in
theorem ron1_any (P : Pt) (hx : P.x < M256) (hy : P.y < M256) (c : Bool) (hc : decide (subP (mulP P.y P.y) (mulP P.x P.x) = addP 1 (mulP dP (mulP (mulP P.x P.x) (mulP P.y P.y)))) = c) (w : World) :
    Calls Tryz.prog 110 #[.agg (r64 4 (F4 dP)), .agg (nums 2 (two P.x P.y))] w fun e w' => e = .returned (.bool c) ∧ Below w.heap.size w w' := by
  go_enter Tryz.func110, Tryz.ntmps110
  with_reducible (apply wp_seq_k; intro _ _)
  have h1 := KD.begin w
  with_reducible apply wp_region_lit
  refine wA h1 (box_run _ _ _ rfl rfl _) fun w2 h2 => ?_
  simp only [pu]
  clear h1
  refine wA h2 (box_run _ _ _ rfl rfl _) fun w3 h3 => ?_
  simp only [pu]
  clear h2
  generalize w2.heap.size = g4 at h3 ⊢
  refine wV (.bool false) ?_
  simp only [pu]
  refine wpList_nil ?_
  with_reducible (apply tn; go_at_K; go_step; apply wp_seq_k; intro _ _)
  with_reducible apply wp_region_lit
  refine wV (.pointer (some ⟨g4, 0, none⟩)) ?_
  simp only [pu]
  refine wL (.agg (r64 4 (F4 P.x))) (by exact lands_num 0 _ _ rfl _ 2 _ rfl _ (h3.blk _ m0) (by decide) _ Tryz.underlying40 rfl (by kernel_rfl) rfl) ?_
  simp only [pu]
  refine wV (.pointer (some ⟨g4, 0, none⟩)) ?_
  simp only [pu]
  refine wL (.agg (r64 4 (F4 P.x))) (by exact lands_num 0 _ _ rfl _ 2 _ rfl _ (h3.blk _ m0) (by decide) _ Tryz.underlying40 rfl (by kernel_rfl) rfl) ?_
  simp only [pu]
  refine wC h3 (rmulP P.x P.x w3 hx hx) fun w5 h5 => ?_
  simp only [pu]
  clear h3
  refine wA h5 (alloc_run _ _ rfl zero_fe _) fun w6 h6 => ?_
  simp only [pu]
  clear h5
  generalize w5.heap.size = g7 at h6 ⊢
  refine wpList_val (R := KD w.heap.size w [(g7, 40, r64 4 (F4 (mulP P.x P.x))), (g4, 42, nums 2 (two P.x P.y)), (w.heap.size, 40, r64 4 (F4 dP))]) undef rfl (lands_store _ _ _ rfl g7 (r64 4 (F4 (mulP P.x P.x))) rfl rfl _ _ (h6.blk _ m0) (by kernel_rfl) (by kernel_rfl) (row_one fun _ => rfl) (h6.put (k := 0) rfl _)) ?_
  intro w8 h8
  simp only [pu]
  clear h6
  refine wpList_nil ?_
  with_reducible (apply tn; go_at_K; go_step; apply wp_seq_k; intro _ _)
  with_reducible apply wp_region_lit
  refine wV (.pointer (some ⟨g4, 4, none⟩)) ?_
  simp only [pu]
  refine wL (.agg (r64 4 (F4 P.y))) (by exact lands_num 1 _ _ rfl _ 2 _ rfl _ (h8.blk _ m1) (by decide) _ Tryz.underlying40 rfl (by kernel_rfl) rfl) ?_
  simp only [pu]
  refine wV (.pointer (some ⟨g4, 4, none⟩)) ?_
  simp only [pu]
  refine wL (.agg (r64 4 (F4 P.y))) (by exact lands_num 1 _ _ rfl _ 2 _ rfl _ (h8.blk _ m1) (by decide) _ Tryz.underlying40 rfl (by kernel_rfl) rfl) ?_
  simp only [pu]
  refine wC h8 (rmulP P.y P.y w8 hy hy) fun w9 h9 => ?_
  simp only [pu]
  clear h8
  refine wA h9 (alloc_run _ _ rfl zero_fe _) fun w10 h10 => ?_
  simp only [pu]
  clear h9
  generalize w9.heap.size = g11 at h10 ⊢
  refine wpList_val (R := KD w.heap.size w [(g11, 40, r64 4 (F4 (mulP P.y P.y))), (g7, 40, r64 4 (F4 (mulP P.x P.x))), (g4, 42, nums 2 (two P.x P.y)), (w.heap.size, 40, r64 4 (F4 dP))]) undef rfl (lands_store _ _ _ rfl g11 (r64 4 (F4 (mulP P.y P.y))) rfl rfl _ _ (h10.blk _ m0) (by kernel_rfl) (by kernel_rfl) (row_one fun _ => rfl) (h10.put (k := 0) rfl _)) ?_
  intro w12 h12
  simp only [pu]
  clear h10
  refine wpList_nil ?_
  with_reducible (apply tn; go_at_K; go_step; apply wp_seq_k; intro _ _)
  obtain ⟨n13, hn13⟩ : ∃ n, n = w12.heap.size := ⟨_, rfl⟩
  refine wp_region_anyE (KM w.heap.size n13 w (fun _ _ => [(g11, 40, r64 4 (F4 (mulP P.y P.y))), (g7, 40, r64 4 (F4 (mulP P.x P.x))), (g4, 42, nums 2 (two P.x P.y)), (w.heap.size, 40, r64 4 (F4 dP))]) 1000 1001 []) (fun _ => false) (by kernel_rfl) (KM.begin h12 hn13 (lows hn13 h12 (fun _ _ => rfl)) _) ?_
  refine kW 0 (.agg (r64 4 (F4 (mulP P.y P.y)))) rfl (fun qv L wx hT => ?_) ?_
  · exact lands_load _ _ rfl _ rfl _ _ _ (hT.k.blk _ m0) Tryz.underlying40 rfl (fe_size _) hT
  simp only [pu]
  refine kW 1 (.agg (r64 4 (F4 (mulP P.x P.x)))) rfl (fun qv L wx hT => ?_) ?_
  · exact lands_load _ _ rfl _ rfl _ _ _ (hT.k.blk _ m1) Tryz.underlying40 rfl (fe_size _) hT
  simp only [pu]
  refine kC 2 rfl (fun wx => rsubP (mulP P.y P.y) (mulP P.x P.x) wx (mulP_lt _ _) (mulP_lt _ _)) ?_
  simp only [pu]
  refine kC 3 rfl (fun wx => rsmall_nat 1 wx (by decide)) ?_
  simp only [pu]
  refine kW 4 (.agg (r64 4 (F4 dP))) rfl (fun qv L wx hT => ?_) ?_
  · exact lands_load _ _ rfl _ rfl _ _ _ (hT.k.blk _ m3) Tryz.underlying40 rfl (fe_size _) hT
  simp only [pu]
  refine kW 5 (.agg (r64 4 (F4 (mulP P.x P.x)))) rfl (fun qv L wx hT => ?_) ?_
  · exact lands_load _ _ rfl _ rfl _ _ _ (hT.k.blk _ m1) Tryz.underlying40 rfl (fe_size _) hT
  simp only [pu]
  refine kW 6 (.agg (r64 4 (F4 (mulP P.y P.y)))) rfl (fun qv L wx hT => ?_) ?_
  · exact lands_load _ _ rfl _ rfl _ _ _ (hT.k.blk _ m0) Tryz.underlying40 rfl (fe_size _) hT
  simp only [pu]
  refine kC 7 rfl (fun wx => rmulP (mulP P.x P.x) (mulP P.y P.y) wx (mulP_lt _ _) (mulP_lt _ _)) ?_
  simp only [pu]
  refine kC 8 rfl (fun wx => rmulP dP (mulP (mulP P.x P.x) (mulP P.y P.y)) wx dP_lt (mulP_lt _ _)) ?_
  simp only [pu]
  refine kC 9 rfl (fun wx => raddP 1 (mulP dP (mulP (mulP P.x P.x) (mulP P.y P.y))) wx (by decide) (mulP_lt _ _)) ?_
  simp only [pu]
  refine kW 10 (.bool c) rfl (fun qv L wx hT => ?_) ?_
  · exact lands_eql _ _ rfl (subP (mulP P.y P.y) (mulP P.x P.x)) (addP 1 (mulP dP (mulP (mulP P.x P.x) (mulP P.y P.y)))) rfl rfl (subP_lt _ _) (addP_lt _ _) c hc hT
  simp only [pu]
  refine kV 11 (.bool c) rfl ?_
  simp only [pu]
  refine anyE_done (by kernel_rfl) (fun qv w14 hK => ?_) _
  have hE := hK.outs (by kernel_rfl) (by kernel_rfl)  (b := false) (c := false) (by kernel_rfl) (by kernel_rfl)
  clear hK h12 hn13
  have h14 : KD w.heap.size w [(g11, 40, r64 4 (F4 (mulP P.y P.y))), (g7, 40, r64 4 (F4 (mulP P.x P.x))), (g4, 42, nums 2 (two P.x P.y)), (w.heap.size, 40, r64 4 (F4 dP))] w14 := hE.k
  clear hE
  clear n13
  clear qv
  with_reducible (apply tn; go_at_K; go_step)
  with_reducible apply wp_ret
  repeat (first | with_reducible apply then_ret | with_reducible apply block_ret)
  exact bodyPost_ret (results_tmp rfl _ _ _) rfl ⟨rfl, h14.b⟩
set_option maxRecDepth 100000 in
set_option maxHeartbeats 400000 in
theorem ron_ff (P : Pt) (hx : P.x < M256) (hy : P.y < M256) (hrx : ¬ P.x % pP = P.x) (hry : ¬ P.y % pP = P.y) (w : World) :
    Calls Tryz.prog 75 #[.agg (nums 2 (two P.x P.y))] w fun e w' => e = .returned (.bool false) ∧ Below w.heap.size w w' := by
  go_enter Tryz.func75, Tryz.ntmps75
  with_reducible (apply wp_seq_k; intro _ _)
  have h1 := KD.begin w
  with_reducible apply wp_region_lit
  refine wA h1 (box_run _ _ _ rfl rfl _) fun w2 h2 => ?_
  simp only [pu]
  clear h1
  refine wV (.bool false) ?_
  simp only [pu]
  refine wpList_nil ?_
  with_reducible (apply tn; go_at_K; go_step; apply wp_seq_k; intro _ _)
  with_reducible apply wp_region_lit
  refine wV (.pointer (some ⟨w.heap.size, 0, none⟩)) ?_
  simp only [pu]
  refine wL (.agg (r64 4 (F4 P.x))) (by exact lands_num 0 _ _ rfl _ 2 _ rfl _ (h2.blk _ m0) (by decide) _ Tryz.underlying40 rfl (by kernel_rfl) rfl) ?_
  simp only [pu]
  refine wC h2 (rright_false P.x w2 hx hrx) fun w3 h3 => ?_
  simp only [pu]
  clear h2
  refine wV (.bool false) ?_
  simp only [pu]
  refine wpList_nil ?_
  with_reducible (apply tn; go_at_K; go_step; apply wp_seq_k; intro _ _)
  with_reducible apply wp_region_lit
  refine wV (.pointer (some ⟨w.heap.size, 4, none⟩)) ?_
  simp only [pu]
  refine wL (.agg (r64 4 (F4 P.y))) (by exact lands_num 1 _ _ rfl _ 2 _ rfl _ (h3.blk _ m0) (by decide) _ Tryz.underlying40 rfl (by kernel_rfl) rfl) ?_
  simp only [pu]
  refine wC h3 (rright_false P.y w3 hy hry) fun w4 h4 => ?_
  simp only [pu]
  clear h3
  refine wV (.bool false) ?_
  simp only [pu]
  refine wpList_nil ?_
  with_reducible (apply tn; go_at_K; go_step; apply wp_seq_k; intro _ _)
  obtain ⟨n5, hn5⟩ : ∃ n, n = w4.heap.size := ⟨_, rfl⟩
  refine wp_region_anyE (KM w.heap.size n5 w (fun _ _ => [(w.heap.size, 42, nums 2 (two P.x P.y))]) 1000 1001 []) (fun _ => false) (by kernel_rfl) (KM.begin h4 hn5 (lows hn5 h4 (fun _ _ => rfl)) _) ?_
  refine kV 0 (.bool false) rfl ?_
  simp only [pu]
  refine kV 1 (.bool false) rfl ?_
  simp only [pu]
  refine anyE_take (i := 2) undef rfl rfl (by kernel_rfl) (by kernel_rfl) (by kernel_rfl) (fun qv => ym_skip rfl rfl) ?_
  simp only [pu]
  refine kV 3 (.bool false) rfl ?_
  simp only [pu]
  refine kV 4 (.bool false) rfl ?_
  simp only [pu]
  refine anyE_take (i := 5) undef rfl rfl (by kernel_rfl) (by kernel_rfl) (by kernel_rfl) (fun qv => ym_skip rfl rfl) ?_
  simp only [pu]
  refine anyE_take (i := 6) undef rfl rfl (by kernel_rfl) (by kernel_rfl) (by kernel_rfl) (fun qv => ym_skip rfl rfl) ?_
  simp only [pu]
  refine anyE_take (i := 7) undef rfl rfl (by kernel_rfl) (by kernel_rfl) (by kernel_rfl) (fun qv => ym_skip rfl rfl) ?_
  simp only [pu]
  refine kV 8 (.bool false) rfl ?_
  simp only [pu]
  refine kV 9 (.bool false) rfl ?_
  simp only [pu]
  refine anyE_done (by kernel_rfl) (fun qv w6 hK => ?_) _
  have hE := hK.outs (by kernel_rfl) (by kernel_rfl)  (b := false) (c := false) (by kernel_rfl) (by kernel_rfl)
  clear hK h4 hn5
  have h6 : KD w.heap.size w [(w.heap.size, 42, nums 2 (two P.x P.y))] w6 := hE.k
  clear hE
  clear n5
  clear qv
  with_reducible (apply tn; go_at_K; go_step)
  with_reducible apply wp_ret
  repeat (first | with_reducible apply then_ret | with_reducible apply block_ret)
  exact bodyPost_ret (results_tmp rfl _ _ _) rfl ⟨rfl, h6.b⟩
set_option maxRecDepth 100000 in
set_option maxHeartbeats 400000 in
theorem ron_ft (P : Pt) (hx : P.x < M256) (hy : P.y < M256) (hrx : ¬ P.x % pP = P.x) (hry : P.y % pP = P.y) (w : World) :
    Calls Tryz.prog 75 #[.agg (nums 2 (two P.x P.y))] w fun e w' => e = .returned (.bool false) ∧ Below w.heap.size w w' := by
  go_enter Tryz.func75, Tryz.ntmps75
  with_reducible (apply wp_seq_k; intro _ _)
  have h1 := KD.begin w
  with_reducible apply wp_region_lit
  refine wA h1 (box_run _ _ _ rfl rfl _) fun w2 h2 => ?_
  simp only [pu]
  clear h1
  refine wV (.bool false) ?_
  simp only [pu]
  refine wpList_nil ?_
  with_reducible (apply tn; go_at_K; go_step; apply wp_seq_k; intro _ _)
  with_reducible apply wp_region_lit
  refine wV (.pointer (some ⟨w.heap.size, 0, none⟩)) ?_
  simp only [pu]
  refine wL (.agg (r64 4 (F4 P.x))) (by exact lands_num 0 _ _ rfl _ 2 _ rfl _ (h2.blk _ m0) (by decide) _ Tryz.underlying40 rfl (by kernel_rfl) rfl) ?_
  simp only [pu]
  refine wC h2 (rright_false P.x w2 hx hrx) fun w3 h3 => ?_
  simp only [pu]
  clear h2
  refine wV (.bool false) ?_
  simp only [pu]
  refine wpList_nil ?_
  with_reducible (apply tn; go_at_K; go_step; apply wp_seq_k; intro _ _)
  with_reducible apply wp_region_lit
  refine wV (.pointer (some ⟨w.heap.size, 4, none⟩)) ?_
  simp only [pu]
  refine wL (.agg (r64 4 (F4 P.y))) (by exact lands_num 1 _ _ rfl _ 2 _ rfl _ (h3.blk _ m0) (by decide) _ Tryz.underlying40 rfl (by kernel_rfl) rfl) ?_
  simp only [pu]
  refine wC h3 (rright_true P.y w3 hy hry) fun w4 h4 => ?_
  simp only [pu]
  clear h3
  refine wV (.bool true) ?_
  simp only [pu]
  refine wpList_nil ?_
  with_reducible (apply tn; go_at_K; go_step; apply wp_seq_k; intro _ _)
  obtain ⟨n5, hn5⟩ : ∃ n, n = w4.heap.size := ⟨_, rfl⟩
  refine wp_region_anyE (KM w.heap.size n5 w (fun _ _ => [(w.heap.size, 42, nums 2 (two P.x P.y))]) 1000 1001 []) (fun _ => false) (by kernel_rfl) (KM.begin h4 hn5 (lows hn5 h4 (fun _ _ => rfl)) _) ?_
  refine kV 0 (.bool false) rfl ?_
  simp only [pu]
  refine kV 1 (.bool false) rfl ?_
  simp only [pu]
  refine anyE_take (i := 2) undef rfl rfl (by kernel_rfl) (by kernel_rfl) (by kernel_rfl) (fun qv => ym_skip rfl rfl) ?_
  simp only [pu]
  refine kV 3 (.bool false) rfl ?_
  simp only [pu]
  refine kV 4 (.bool false) rfl ?_
  simp only [pu]
  refine anyE_take (i := 5) undef rfl rfl (by kernel_rfl) (by kernel_rfl) (by kernel_rfl) (fun qv => ym_skip rfl rfl) ?_
  simp only [pu]
  refine anyE_take (i := 6) undef rfl rfl (by kernel_rfl) (by kernel_rfl) (by kernel_rfl) (fun qv => ym_skip rfl rfl) ?_
  simp only [pu]
  refine anyE_take (i := 7) undef rfl rfl (by kernel_rfl) (by kernel_rfl) (by kernel_rfl) (fun qv => ym_skip rfl rfl) ?_
  simp only [pu]
  refine kV 8 (.bool false) rfl ?_
  simp only [pu]
  refine kV 9 (.bool false) rfl ?_
  simp only [pu]
  refine anyE_done (by kernel_rfl) (fun qv w6 hK => ?_) _
  have hE := hK.outs (by kernel_rfl) (by kernel_rfl)  (b := false) (c := false) (by kernel_rfl) (by kernel_rfl)
  clear hK h4 hn5
  have h6 : KD w.heap.size w [(w.heap.size, 42, nums 2 (two P.x P.y))] w6 := hE.k
  clear hE
  clear n5
  clear qv
  with_reducible (apply tn; go_at_K; go_step)
  with_reducible apply wp_ret
  repeat (first | with_reducible apply then_ret | with_reducible apply block_ret)
  exact bodyPost_ret (results_tmp rfl _ _ _) rfl ⟨rfl, h6.b⟩
set_option maxRecDepth 100000 in
set_option maxHeartbeats 400000 in
theorem ron_tf (P : Pt) (hx : P.x < M256) (hy : P.y < M256) (hrx : P.x % pP = P.x) (hry : ¬ P.y % pP = P.y) (w : World) :
    Calls Tryz.prog 75 #[.agg (nums 2 (two P.x P.y))] w fun e w' => e = .returned (.bool false) ∧ Below w.heap.size w w' := by
  go_enter Tryz.func75, Tryz.ntmps75
  with_reducible (apply wp_seq_k; intro _ _)
  have h1 := KD.begin w
  with_reducible apply wp_region_lit
  refine wA h1 (box_run _ _ _ rfl rfl _) fun w2 h2 => ?_
  simp only [pu]
  clear h1
  refine wV (.bool false) ?_
  simp only [pu]
  refine wpList_nil ?_
  with_reducible (apply tn; go_at_K; go_step; apply wp_seq_k; intro _ _)
  with_reducible apply wp_region_lit
  refine wV (.pointer (some ⟨w.heap.size, 0, none⟩)) ?_
  simp only [pu]
  refine wL (.agg (r64 4 (F4 P.x))) (by exact lands_num 0 _ _ rfl _ 2 _ rfl _ (h2.blk _ m0) (by decide) _ Tryz.underlying40 rfl (by kernel_rfl) rfl) ?_
  simp only [pu]
  refine wC h2 (rright_true P.x w2 hx hrx) fun w3 h3 => ?_
  simp only [pu]
  clear h2
  refine wV (.bool true) ?_
  simp only [pu]
  refine wpList_nil ?_
  with_reducible (apply tn; go_at_K; go_step; apply wp_seq_k; intro _ _)
  with_reducible apply wp_region_lit
  refine wV (.pointer (some ⟨w.heap.size, 4, none⟩)) ?_
  simp only [pu]
  refine wL (.agg (r64 4 (F4 P.y))) (by exact lands_num 1 _ _ rfl _ 2 _ rfl _ (h3.blk _ m0) (by decide) _ Tryz.underlying40 rfl (by kernel_rfl) rfl) ?_
  simp only [pu]
  refine wC h3 (rright_false P.y w3 hy hry) fun w4 h4 => ?_
  simp only [pu]
  clear h3
  refine wV (.bool false) ?_
  simp only [pu]
  refine wpList_nil ?_
  with_reducible (apply tn; go_at_K; go_step; apply wp_seq_k; intro _ _)
  obtain ⟨n5, hn5⟩ : ∃ n, n = w4.heap.size := ⟨_, rfl⟩
  refine wp_region_anyE (KM w.heap.size n5 w (fun _ _ => [(w.heap.size, 42, nums 2 (two P.x P.y))]) 1000 1001 []) (fun _ => false) (by kernel_rfl) (KM.begin h4 hn5 (lows hn5 h4 (fun _ _ => rfl)) _) ?_
  refine kV 0 (.bool true) rfl ?_
  simp only [pu]
  refine kV 1 (.bool true) rfl ?_
  simp only [pu]
  refine kV 2 (.bool false) rfl ?_
  simp only [pu]
  refine kV 3 (.bool false) rfl ?_
  simp only [pu]
  refine kV 4 (.bool false) rfl ?_
  simp only [pu]
  refine anyE_take (i := 5) undef rfl rfl (by kernel_rfl) (by kernel_rfl) (by kernel_rfl) (fun qv => ym_skip rfl rfl) ?_
  simp only [pu]
  refine anyE_take (i := 6) undef rfl rfl (by kernel_rfl) (by kernel_rfl) (by kernel_rfl) (fun qv => ym_skip rfl rfl) ?_
  simp only [pu]
  refine anyE_take (i := 7) undef rfl rfl (by kernel_rfl) (by kernel_rfl) (by kernel_rfl) (fun qv => ym_skip rfl rfl) ?_
  simp only [pu]
  refine kV 8 (.bool false) rfl ?_
  simp only [pu]
  refine kV 9 (.bool false) rfl ?_
  simp only [pu]
  refine anyE_done (by kernel_rfl) (fun qv w6 hK => ?_) _
  have hE := hK.outs (by kernel_rfl) (by kernel_rfl)  (b := false) (c := false) (by kernel_rfl) (by kernel_rfl)
  clear hK h4 hn5
  have h6 : KD w.heap.size w [(w.heap.size, 42, nums 2 (two P.x P.y))] w6 := hE.k
  clear hE
  clear n5
  clear qv
  with_reducible (apply tn; go_at_K; go_step)
  with_reducible apply wp_ret
  repeat (first | with_reducible apply then_ret | with_reducible apply block_ret)
  exact bodyPost_ret (results_tmp rfl _ _ _) rfl ⟨rfl, h6.b⟩
set_option maxRecDepth 100000 in
set_option maxHeartbeats 400000 in
theorem ron_tt (P : Pt) (hx : P.x < M256) (hy : P.y < M256) (hrx : P.x % pP = P.x) (hry : P.y % pP = P.y) (c : Bool) (hc : decide (subP (mulP P.y P.y) (mulP P.x P.x) = addP 1 (mulP dP (mulP (mulP P.x P.x) (mulP P.y P.y)))) = c) (w : World) :
    Calls Tryz.prog 75 #[.agg (nums 2 (two P.x P.y))] w fun e w' => e = .returned (.bool c) ∧ Below w.heap.size w w' := by
  go_enter Tryz.func75, Tryz.ntmps75
  with_reducible (apply wp_seq_k; intro _ _)
  have h1 := KD.begin w
  with_reducible apply wp_region_lit
  refine wA h1 (box_run _ _ _ rfl rfl _) fun w2 h2 => ?_
  simp only [pu]
  clear h1
  refine wV (.bool false) ?_
  simp only [pu]
  refine wpList_nil ?_
  with_reducible (apply tn; go_at_K; go_step; apply wp_seq_k; intro _ _)
  with_reducible apply wp_region_lit
  refine wV (.pointer (some ⟨w.heap.size, 0, none⟩)) ?_
  simp only [pu]
  refine wL (.agg (r64 4 (F4 P.x))) (by exact lands_num 0 _ _ rfl _ 2 _ rfl _ (h2.blk _ m0) (by decide) _ Tryz.underlying40 rfl (by kernel_rfl) rfl) ?_
  simp only [pu]
  refine wC h2 (rright_true P.x w2 hx hrx) fun w3 h3 => ?_
  simp only [pu]
  clear h2
  refine wV (.bool true) ?_
  simp only [pu]
  refine wpList_nil ?_
  with_reducible (apply tn; go_at_K; go_step; apply wp_seq_k; intro _ _)
  with_reducible apply wp_region_lit
  refine wV (.pointer (some ⟨w.heap.size, 4, none⟩)) ?_
  simp only [pu]
  refine wL (.agg (r64 4 (F4 P.y))) (by exact lands_num 1 _ _ rfl _ 2 _ rfl _ (h3.blk _ m0) (by decide) _ Tryz.underlying40 rfl (by kernel_rfl) rfl) ?_
  simp only [pu]
  refine wC h3 (rright_true P.y w3 hy hry) fun w4 h4 => ?_
  simp only [pu]
  clear h3
  refine wV (.bool true) ?_
  simp only [pu]
  refine wpList_nil ?_
  with_reducible (apply tn; go_at_K; go_step; apply wp_seq_k; intro _ _)
  obtain ⟨n5, hn5⟩ : ∃ n, n = w4.heap.size := ⟨_, rfl⟩
  refine wp_region_anyE (KM w.heap.size n5 w (fun _ _ => [(w.heap.size, 42, nums 2 (two P.x P.y))]) 1000 1001 []) (fun _ => false) (by kernel_rfl) (KM.begin h4 hn5 (lows hn5 h4 (fun _ _ => rfl)) _) ?_
  refine kV 0 (.bool true) rfl ?_
  simp only [pu]
  refine kV 1 (.bool true) rfl ?_
  simp only [pu]
  refine kV 2 (.bool true) rfl ?_
  simp only [pu]
  refine kV 3 (.bool true) rfl ?_
  simp only [pu]
  refine kV 4 (.bool true) rfl ?_
  simp only [pu]
  refine kC 5 rfl (fun wx => rd_any wx) ?_
  simp only [pu]
  refine kW 6 (.agg (nums 2 (two P.x P.y))) rfl (fun qv L wx hT => ?_) ?_
  · exact lands_load _ _ rfl _ rfl _ _ _ (hT.k.blk _ m0) Tryz.underlying42 rfl (by kernel_rfl) hT
  simp only [pu]
  refine kC 7 rfl (fun wx => ron1_any P hx hy c hc wx) ?_
  simp only [pu]
  refine kV 8 (.bool c) rfl ?_
  simp only [pu]
  refine kV 9 (.bool c) rfl ?_
  simp only [pu]
  refine anyE_done (by kernel_rfl) (fun qv w6 hK => ?_) _
  have hE := hK.outs (by kernel_rfl) (by kernel_rfl)  (b := false) (c := false) (by kernel_rfl) (by kernel_rfl)
  clear hK h4 hn5
  have h6 : KD w.heap.size w [(w.heap.size, 42, nums 2 (two P.x P.y))] w6 := hE.k
  clear hE
  clear n5
  clear qv
  with_reducible (apply tn; go_at_K; go_step)
  with_reducible apply wp_ret
  repeat (first | with_reducible apply then_ret | with_reducible apply block_ret)
  exact bodyPost_ret (results_tmp rfl _ _ _) rfl ⟨rfl, h6.b⟩
theorem ron_any (P : Pt) (hx : P.x < M256) (hy : P.y < M256) (w : World) :
    Calls Tryz.prog 75 #[.agg (nums 2 (two P.x P.y))] w fun e w' => e = .returned (.bool (onB P)) ∧ Below w.heap.size w w' := by
  unfold onB
  by_cases h1 : P.x % pP = P.x
  · by_cases h2 : P.y % pP = P.y
    · rw [decide_eq_true h1, decide_eq_true h2, Bool.true_and, Bool.true_and]; exact ron_tt P hx hy h1 h2 _ rfl w
    · rw [decide_eq_false h2, Bool.and_false, Bool.false_and]; exact ron_tf P hx hy h1 h2 w
  · by_cases h2 : P.y % pP = P.y
    · rw [decide_eq_false h1, Bool.false_and, Bool.false_and]; exact ron_ft P hx hy h1 h2 w
    · rw [decide_eq_false h1, Bool.false_and, Bool.false_and]; exact ron_ff P hx hy h1 h2 w
theorem ron_is (P : Pt) (hx : P.x < M256) (hy : P.y < M256) (b : Bool) (h : onB P = b) (w : World) :
    Calls Tryz.prog 75 #[.agg (nums 2 (two P.x P.y))] w fun e w' => e = .returned (.bool b) ∧ Below w.heap.size w w' := h ▸ ron_any P hx hy w
set_option maxRecDepth 100000 in
set_option maxHeartbeats 400000 in
theorem rmade_t (P : Pt) (hx : P.x < M256) (hy : P.y < M256) (ho : onB P = true) (w : World) :
    Calls Tryz.prog 68 #[.agg (nums 2 (two P.x P.y))] w fun e w' => e = .returned (.agg (nums 2 (two P.x P.y))) ∧ Below w.heap.size w w' := by
  go_enter Tryz.func68, Tryz.ntmps68
  with_reducible (apply wp_seq_k; intro _ _)
  have h1 := KD.begin w
  with_reducible apply wp_region_lit
  refine wA h1 (box_run _ _ _ rfl rfl _) fun w2 h2 => ?_
  simp only [pu]
  clear h1
  refine wA h2 (alloc_run _ _ rfl zero_pt _) fun w3 h3 => ?_
  simp only [pu]
  clear h2
  generalize w2.heap.size = g4 at h3 ⊢
  refine wpList_nil ?_
  with_reducible (apply tn; go_at_K; go_step; apply wp_seq_k; intro _ _; apply wp_seq_k; intro _ _)
  with_reducible apply wp_region_lit
  refine wL (.agg (nums 2 (two P.x P.y))) (by exact lands_load _ _ rfl _ rfl _ _ _ (h3.blk _ m1) Tryz.underlying42 rfl (by kernel_rfl) rfl) ?_
  simp only [pu]
  refine wC h3 (ron_is P hx hy true ho w3) fun w5 h5 => ?_
  simp only [pu]
  clear h3
  refine wpList_nil ?_
  with_reducible (apply tn; go_at_K; go_step)
  refine wp_cond_true rfl ?_
  with_reducible (apply wp_seq_k; intro _ _)
  with_reducible apply wp_region_lit
  refine wL (.agg (nums 2 (two P.x P.y))) (by exact lands_load _ _ rfl _ rfl _ _ _ (h5.blk _ m1) Tryz.underlying42 rfl (by kernel_rfl) rfl) ?_
  simp only [pu]
  refine wpList_val (R := KD w.heap.size w [(g4, 42, nums 2 (two P.x P.y)), (w.heap.size, 42, nums 2 (two P.x P.y))]) undef rfl (lands_store _ _ _ rfl g4 (nums 2 (two P.x P.y)) rfl rfl _ _ (h5.blk _ m0) (by kernel_rfl) (by kernel_rfl) (row_one fun _ => rfl) (h5.put (k := 0) rfl _)) ?_
  intro w6 h6
  simp only [pu]
  clear h5
  refine wpList_nil ?_
  with_reducible (apply tn; go_at_K; go_step)
  with_reducible apply wp_ret
  repeat (first | with_reducible apply then_ret | with_reducible apply block_ret)
  exact bodyPost_ret (results_cell_row rfl _ _ g4 42 (nums 2 (two P.x P.y)) (0, 0) _ rfl (h6.blk _ m0) Tryz.underlying42 rfl (by kernel_rfl)) rfl ⟨rfl, h6.b⟩
set_option maxRecDepth 100000 in
set_option maxHeartbeats 400000 in
theorem rmade_f (P : Pt) (hx : P.x < M256) (hy : P.y < M256) (ho : onB P = false) (w : World) :
    Calls Tryz.prog 68 #[.agg (nums 2 (two P.x P.y))] w fun e w' => e = .returned (.agg (nums 2 (two pZ.x pZ.y))) ∧ Below w.heap.size w w' := by
  go_enter Tryz.func68, Tryz.ntmps68
  with_reducible (apply wp_seq_k; intro _ _)
  have h1 := KD.begin w
  with_reducible apply wp_region_lit
  refine wA h1 (box_run _ _ _ rfl rfl _) fun w2 h2 => ?_
  simp only [pu]
  clear h1
  refine wA h2 (alloc_run _ _ rfl zero_pt _) fun w3 h3 => ?_
  simp only [pu]
  clear h2
  generalize w2.heap.size = g4 at h3 ⊢
  refine wpList_nil ?_
  with_reducible (apply tn; go_at_K; go_step; apply wp_seq_k; intro _ _; apply wp_seq_k; intro _ _)
  with_reducible apply wp_region_lit
  refine wL (.agg (nums 2 (two P.x P.y))) (by exact lands_load _ _ rfl _ rfl _ _ _ (h3.blk _ m1) Tryz.underlying42 rfl (by kernel_rfl) rfl) ?_
  simp only [pu]
  refine wC h3 (ron_is P hx hy false ho w3) fun w5 h5 => ?_
  simp only [pu]
  clear h3
  refine wpList_nil ?_
  with_reducible (apply tn; go_at_K; go_step)
  refine wp_cond_false rfl ?_
  with_reducible (apply wp_skip; apply tn; go_at_K; go_step; apply wp_seq_k; intro _ _)
  with_reducible apply wp_region_lit
  refine wC h5 (rzero_any w5) fun w6 h6 => ?_
  simp only [pu]
  clear h5
  refine wpList_val (R := KD w.heap.size w [(g4, 42, nums 2 (two pZ.x pZ.y)), (w.heap.size, 42, nums 2 (two P.x P.y))]) undef rfl (lands_store _ _ _ rfl g4 (nums 2 (two pZ.x pZ.y)) rfl rfl _ _ (h6.blk _ m0) (by kernel_rfl) (by kernel_rfl) (row_one fun _ => rfl) (h6.put (k := 0) rfl _)) ?_
  intro w7 h7
  simp only [pu]
  clear h6
  refine wpList_nil ?_
  with_reducible (apply tn; go_at_K; go_step)
  with_reducible apply wp_ret
  repeat (first | with_reducible apply then_ret | with_reducible apply block_ret)
  exact bodyPost_ret (results_cell_row rfl _ _ g4 42 (nums 2 (two pZ.x pZ.y)) (0, 0) _ rfl (h7.blk _ m0) Tryz.underlying42 rfl (by kernel_rfl)) rfl ⟨rfl, h7.b⟩
theorem rmade_any (P : Pt) (hx : P.x < M256) (hy : P.y < M256) (w : World) :
    Calls Tryz.prog 68 #[.agg (nums 2 (two P.x P.y))] w fun e w' => e = .returned (.agg (nums 2 (two (cnt P).x (cnt P).y))) ∧ Below w.heap.size w w' := by
  cases h : onB P with
  | true => rw [cnt_on h]; exact rmade_t P hx hy h w
  | false => rw [cnt_off h]; exact rmade_f P hx hy h w
set_option maxRecDepth 100000 in
set_option maxHeartbeats 400000 in
theorem rpart_any (P : Pt) (hx : P.x < M256) (hy : P.y < M256) (w : World) :
    Calls Tryz.prog 67 #[.agg (nums 2 (two P.x P.y))] w fun e w' => e = .returned (.agg (nums 4 (qua P.x P.y 1 (mulP P.x P.y)))) ∧ Below w.heap.size w w' := by
  go_enter Tryz.func67, Tryz.ntmps67
  with_reducible (apply wp_seq_k; intro _ _)
  have h1 := KD.begin w
  with_reducible apply wp_region_lit
  refine wA h1 (box_run _ _ _ rfl rfl _) fun w2 h2 => ?_
  simp only [pu]
  clear h1
  refine wA h2 (alloc_run _ _ rfl zero_pa _) fun w3 h3 => ?_
  simp only [pu]
  clear h2
  generalize w2.heap.size = g4 at h3 ⊢
  refine wpList_nil ?_
  with_reducible (apply tn; go_at_K; go_step; apply wp_seq_k; intro _ _)
  obtain ⟨n5, hn5⟩ : ∃ n, n = w3.heap.size := ⟨_, rfl⟩
  refine wp_region_anyE (KM w.heap.size n5 w (fun b _ => bif b then [(g4, 84, nums 4 (qua P.x P.y 1 (mulP P.x P.y))), (w.heap.size, 42, nums 2 (two P.x P.y))] else [(g4, 84, nums 4 (qua 0 0 0 0)), (w.heap.size, 42, nums 2 (two P.x P.y))]) 11 1001 []) (fun _ => false) (by kernel_rfl) (KM.begin h3 hn5 (lows hn5 h3 (fun b _ => by cases b <;> simp only [cond_true, cond_false, List.map_cons, List.map_nil])) _) ?_
  refine kV 0 (.pointer (some ⟨w.heap.size, 0, none⟩)) rfl ?_
  simp only [pu]
  refine kA 1 9 (.agg (r64 4 (F4 P.x))) rfl rfl rfl (fun _ => rfl) (fun qv L wx hk hT => ?_) ?_
  · exact lands_num 0 _ _ rfl _ 2 _ rfl _ (hk.blk _ m1) (by decide) _ Tryz.underlying40 rfl (by kernel_rfl) hT
  simp only [pu]
  refine kV 2 (.pointer (some ⟨w.heap.size, 4, none⟩)) rfl ?_
  simp only [pu]
  refine kA 3 9 (.agg (r64 4 (F4 P.y))) rfl rfl rfl (fun _ => rfl) (fun qv L wx hk hT => ?_) ?_
  · exact lands_num 1 _ _ rfl _ 2 _ rfl _ (hk.blk _ m1) (by decide) _ Tryz.underlying40 rfl (by kernel_rfl) hT
  simp only [pu]
  refine kC 4 rfl (fun wx => rsmall_nat 1 wx (by decide)) ?_
  simp only [pu]
  refine kV 5 (.pointer (some ⟨w.heap.size, 0, none⟩)) rfl ?_
  simp only [pu]
  refine kA 6 9 (.agg (r64 4 (F4 P.x))) rfl rfl rfl (fun _ => rfl) (fun qv L wx hk hT => ?_) ?_
  · exact lands_num 0 _ _ rfl _ 2 _ rfl _ (hk.blk _ m1) (by decide) _ Tryz.underlying40 rfl (by kernel_rfl) hT
  simp only [pu]
  refine kV 7 (.pointer (some ⟨w.heap.size, 4, none⟩)) rfl ?_
  simp only [pu]
  refine kA 8 9 (.agg (r64 4 (F4 P.y))) rfl rfl rfl (fun _ => rfl) (fun qv L wx hk hT => ?_) ?_
  · exact lands_num 1 _ _ rfl _ 2 _ rfl _ (hk.blk _ m1) (by decide) _ Tryz.underlying40 rfl (by kernel_rfl) hT
  simp only [pu]
  refine kC 9 rfl (fun wx => rmulP P.x P.y wx hx hy) ?_
  simp only [pu]
  refine kW 10 (.agg (nums 4 (qua P.x P.y 1 (mulP P.x P.y)))) rfl (fun qv L wx hT => ?_) ?_
  · exact lands_built _ _ rfl _ rfl _ (by kernel_rfl) hT
  simp only [pu]
  refine anyE_take (i := 11) undef rfl rfl (by kernel_rfl) (by kernel_rfl) (by kernel_rfl) (fun qv => ym_first (k := 0) _ _ _ (by kernel_rfl) rfl rfl rfl rfl (by kernel_rfl) (by kernel_rfl) (row_one fun _ => rfl) (fun _ => rfl) (fun _ => rfl)) ?_
  simp only [pu]
  refine anyE_done (by kernel_rfl) (fun qv w6 hK => ?_) _
  have hE := hK.outs (by kernel_rfl) (by kernel_rfl)  (b := true) (c := false) (by kernel_rfl) (by kernel_rfl)
  clear hK h3 hn5
  have h6 : KD w.heap.size w [(g4, 84, nums 4 (qua P.x P.y 1 (mulP P.x P.y))), (w.heap.size, 42, nums 2 (two P.x P.y))] w6 := hE.k
  clear hE
  clear n5
  clear qv
  with_reducible (apply tn; go_at_K; go_step)
  with_reducible apply wp_ret
  repeat (first | with_reducible apply then_ret | with_reducible apply block_ret)
  exact bodyPost_ret (results_cell_row rfl _ _ g4 84 (nums 4 (qua P.x P.y 1 (mulP P.x P.y))) (0, 0) _ rfl (h6.blk _ m0) Tryz.underlying84 rfl (by kernel_rfl)) rfl ⟨rfl, h6.b⟩
set_option maxRecDepth 100000 in
set_option maxHeartbeats 4000000 in
theorem rsum_any (p : R4) (hp : p.ok) (q : R4) (hq : q.ok) (w : World) :
    Calls Tryz.prog 70 #[.agg (r64 4 (F4 dP)), .agg (nums 4 (qua p.x p.y p.z p.t)), .agg (nums 4 (qua q.x q.y q.z q.t))] w fun e w' => e = .returned (.agg (nums 4 (qua (p.sum q).x (p.sum q).y (p.sum q).z (p.sum q).t))) ∧ Below w.heap.size w w' := by
  go_enter Tryz.func70, Tryz.ntmps70
  with_reducible (apply wp_seq_k; intro _ _)
  have h1 := KD.begin w
  with_reducible apply wp_region_lit
  refine wA h1 (box_run _ _ _ rfl rfl _) fun w2 h2 => ?_
  simp only [pu]
  clear h1
  refine wA h2 (box_run _ _ _ rfl rfl _) fun w3 h3 => ?_
  simp only [pu]
  clear h2
  generalize w2.heap.size = g4 at h3 ⊢
  refine wA h3 (box_run _ _ _ rfl rfl _) fun w5 h5 => ?_
  simp only [pu]
  clear h3
  generalize w3.heap.size = g6 at h5 ⊢
  refine wA h5 (alloc_run _ _ rfl zero_pa _) fun w7 h7 => ?_
  simp only [pu]
  clear h5
  generalize w5.heap.size = g8 at h7 ⊢
  refine wpList_nil ?_
  with_reducible (apply tn; go_at_K; go_step; apply wp_seq_k; intro _ _)
  with_reducible apply wp_region_lit
  refine wV (.pointer (some ⟨g4, 0, none⟩)) ?_
  simp only [pu]
  refine wL (.agg (r64 4 (F4 p.x))) (by exact lands_num 0 _ _ rfl _ 4 _ rfl _ (h7.blk _ m2) (by decide) _ Tryz.underlying40 rfl (by kernel_rfl) rfl) ?_
  simp only [pu]
  refine wV (.pointer (some ⟨g6, 0, none⟩)) ?_
  simp only [pu]
  refine wL (.agg (r64 4 (F4 q.x))) (by exact lands_num 0 _ _ rfl _ 4 _ rfl _ (h7.blk _ m1) (by decide) _ Tryz.underlying40 rfl (by kernel_rfl) rfl) ?_
  simp only [pu]
  refine wC h7 (rmulP p.x q.x w7 hp.x hq.x) fun w9 h9 => ?_
  simp only [pu]
  clear h7
  refine wA h9 (alloc_run _ _ rfl zero_fe _) fun w10 h10 => ?_
  simp only [pu]
  clear h9
  generalize w9.heap.size = g11 at h10 ⊢
  refine wpList_val (R := KD w.heap.size w [(g11, 40, r64 4 (F4 (mulP p.x q.x))), (g8, 84, nums 4 (qua 0 0 0 0)), (g6, 84, nums 4 (qua q.x q.y q.z q.t)), (g4, 84, nums 4 (qua p.x p.y p.z p.t)), (w.heap.size, 40, r64 4 (F4 dP))]) undef rfl (lands_store _ _ _ rfl g11 (r64 4 (F4 (mulP p.x q.x))) rfl rfl _ _ (h10.blk _ m0) (by kernel_rfl) (by kernel_rfl) (row_one fun _ => rfl) (h10.put (k := 0) rfl _)) ?_
  intro w12 h12
  simp only [pu]
  clear h10
  refine wpList_nil ?_
  with_reducible (apply tn; go_at_K; go_step; apply wp_seq_k; intro _ _)
  with_reducible apply wp_region_lit
  refine wV (.pointer (some ⟨g4, 4, none⟩)) ?_
  simp only [pu]
  refine wL (.agg (r64 4 (F4 p.y))) (by exact lands_num 1 _ _ rfl _ 4 _ rfl _ (h12.blk _ m3) (by decide) _ Tryz.underlying40 rfl (by kernel_rfl) rfl) ?_
  simp only [pu]
  refine wV (.pointer (some ⟨g6, 4, none⟩)) ?_
  simp only [pu]
  refine wL (.agg (r64 4 (F4 q.y))) (by exact lands_num 1 _ _ rfl _ 4 _ rfl _ (h12.blk _ m2) (by decide) _ Tryz.underlying40 rfl (by kernel_rfl) rfl) ?_
  simp only [pu]
  refine wC h12 (rmulP p.y q.y w12 hp.y hq.y) fun w13 h13 => ?_
  simp only [pu]
  clear h12
  refine wA h13 (alloc_run _ _ rfl zero_fe _) fun w14 h14 => ?_
  simp only [pu]
  clear h13
  generalize w13.heap.size = g15 at h14 ⊢
  refine wpList_val (R := KD w.heap.size w [(g15, 40, r64 4 (F4 (mulP p.y q.y))), (g11, 40, r64 4 (F4 (mulP p.x q.x))), (g8, 84, nums 4 (qua 0 0 0 0)), (g6, 84, nums 4 (qua q.x q.y q.z q.t)), (g4, 84, nums 4 (qua p.x p.y p.z p.t)), (w.heap.size, 40, r64 4 (F4 dP))]) undef rfl (lands_store _ _ _ rfl g15 (r64 4 (F4 (mulP p.y q.y))) rfl rfl _ _ (h14.blk _ m0) (by kernel_rfl) (by kernel_rfl) (row_one fun _ => rfl) (h14.put (k := 0) rfl _)) ?_
  intro w16 h16
  simp only [pu]
  clear h14
  refine wpList_nil ?_
  with_reducible (apply tn; go_at_K; go_step; apply wp_seq_k; intro _ _)
  obtain ⟨n17, hn17⟩ : ∃ n, n = w16.heap.size := ⟨_, rfl⟩
  refine wp_region_anyE (KM w.heap.size n17 w (fun _ _ => [(g15, 40, r64 4 (F4 (mulP p.y q.y))), (g11, 40, r64 4 (F4 (mulP p.x q.x))), (g8, 84, nums 4 (qua 0 0 0 0)), (g6, 84, nums 4 (qua q.x q.y q.z q.t)), (g4, 84, nums 4 (qua p.x p.y p.z p.t)), (w.heap.size, 40, r64 4 (F4 dP))]) 1000 1001 [⟨7, 8, 40, r64 4 (F4 0), r64 4 (F4 (mulP dP (mulP p.t q.t))), ptr⟩]) (fun i => i == 7) (by kernel_rfl) (KM.begin h16 hn17 (lows hn17 h16 (fun _ _ => rfl)) _) ?_
  refine kW 0 (.agg (r64 4 (F4 dP))) rfl (fun qv L wx hT => ?_) ?_
  · exact lands_load _ _ rfl _ rfl _ _ _ (hT.k.blk _ m5) Tryz.underlying40 rfl (fe_size _) hT
  simp only [pu]
  refine kV 1 (.pointer (some ⟨g4, 12, none⟩)) rfl ?_
  simp only [pu]
  refine kW 2 (.agg (r64 4 (F4 p.t))) rfl (fun qv L wx hT => ?_) ?_
  · exact lands_num 3 _ _ rfl _ 4 _ rfl _ (hT.k.blk _ m4) (by decide) _ Tryz.underlying40 rfl (by kernel_rfl) hT
  simp only [pu]
  refine kV 3 (.pointer (some ⟨g6, 12, none⟩)) rfl ?_
  simp only [pu]
  refine kW 4 (.agg (r64 4 (F4 q.t))) rfl (fun qv L wx hT => ?_) ?_
  · exact lands_num 3 _ _ rfl _ 4 _ rfl _ (hT.k.blk _ m3) (by decide) _ Tryz.underlying40 rfl (by kernel_rfl) hT
  simp only [pu]
  refine kC 5 rfl (fun wx => rmulP p.t q.t wx hp.t hq.t) ?_
  simp only [pu]
  refine kC 6 rfl (fun wx => rmulP dP (mulP p.t q.t) wx dP_lt (mulP_lt _ _)) ?_
  simp only [pu]
  refine anyE_made (i := 7) rfl rfl (by kernel_rfl) (by kernel_rfl) (by kernel_rfl) (fun qv => ym_made (n := 9) ⟨7, 8, 40, r64 4 (F4 0), r64 4 (F4 (mulP dP (mulP p.t q.t))), ptr⟩ (by kernel_rfl) m0 (.inl (show waits .any _ 9 8 7 = true from (by kernel_rfl))) rfl (alloc_run _ _ rfl zero_fe)) ?_
  simp only [pu]
  refine anyE_take (i := 8) undef rfl rfl (by kernel_rfl) (by kernel_rfl) (by kernel_rfl) (fun qv => ym_stored ⟨7, 8, 40, r64 4 (F4 0), r64 4 (F4 (mulP dP (mulP p.t q.t))), ptr⟩ _ _ _ (by kernel_rfl) m0 rfl (by kernel_rfl) rfl rfl rfl rfl (by kernel_rfl) (by kernel_rfl) (row_one fun _ => rfl)) ?_
  simp only [pu]
  refine anyE_done (by kernel_rfl) (fun qv w18 hK => ?_) _
  have hE := hK.outs (by kernel_rfl) (by kernel_rfl)  (b := false) (c := false) (by kernel_rfl) (by kernel_rfl)
  clear hK h16 hn17
  obtain ⟨g19, eg19, hE'⟩ := hE.next
  clear hE
  replace eg19 : qv 7 = .pointer (some ⟨g19, 0, none⟩) := eg19
  have h18 : KD w.heap.size w [(g19, 40, r64 4 (F4 (mulP dP (mulP p.t q.t)))), (g15, 40, r64 4 (F4 (mulP p.y q.y))), (g11, 40, r64 4 (F4 (mulP p.x q.x))), (g8, 84, nums 4 (qua 0 0 0 0)), (g6, 84, nums 4 (qua q.x q.y q.z q.t)), (g4, 84, nums 4 (qua p.x p.y p.z p.t)), (w.heap.size, 40, r64 4 (F4 dP))] w18 := hE'.k
  clear hE'
  clear n17
  rw [eg19]
  clear eg19
  clear qv
  with_reducible (apply tn; go_at_K; go_step; apply wp_seq_k; intro _ _)
  with_reducible apply wp_region_lit
  refine wV (.pointer (some ⟨g4, 8, none⟩)) ?_
  simp only [pu]
  refine wL (.agg (r64 4 (F4 p.z))) (by exact lands_num 2 _ _ rfl _ 4 _ rfl _ (h18.blk _ m5) (by decide) _ Tryz.underlying40 rfl (by kernel_rfl) rfl) ?_
  simp only [pu]
  refine wV (.pointer (some ⟨g6, 8, none⟩)) ?_
  simp only [pu]
  refine wL (.agg (r64 4 (F4 q.z))) (by exact lands_num 2 _ _ rfl _ 4 _ rfl _ (h18.blk _ m4) (by decide) _ Tryz.underlying40 rfl (by kernel_rfl) rfl) ?_
  simp only [pu]
  refine wC h18 (rmulP p.z q.z w18 hp.z hq.z) fun w20 h20 => ?_
  simp only [pu]
  clear h18
  refine wA h20 (alloc_run _ _ rfl zero_fe _) fun w21 h21 => ?_
  simp only [pu]
  clear h20
  generalize w20.heap.size = g22 at h21 ⊢
  refine wpList_val (R := KD w.heap.size w [(g22, 40, r64 4 (F4 (mulP p.z q.z))), (g19, 40, r64 4 (F4 (mulP dP (mulP p.t q.t)))), (g15, 40, r64 4 (F4 (mulP p.y q.y))), (g11, 40, r64 4 (F4 (mulP p.x q.x))), (g8, 84, nums 4 (qua 0 0 0 0)), (g6, 84, nums 4 (qua q.x q.y q.z q.t)), (g4, 84, nums 4 (qua p.x p.y p.z p.t)), (w.heap.size, 40, r64 4 (F4 dP))]) undef rfl (lands_store _ _ _ rfl g22 (r64 4 (F4 (mulP p.z q.z))) rfl rfl _ _ (h21.blk _ m0) (by kernel_rfl) (by kernel_rfl) (row_one fun _ => rfl) (h21.put (k := 0) rfl _)) ?_
  intro w23 h23
  simp only [pu]
  clear h21
  refine wpList_nil ?_
  with_reducible (apply tn; go_at_K; go_step; apply wp_seq_k; intro _ _)
  obtain ⟨n24, hn24⟩ : ∃ n, n = w23.heap.size := ⟨_, rfl⟩
  refine wp_region_anyE (KM w.heap.size n24 w (fun _ _ => [(g22, 40, r64 4 (F4 (mulP p.z q.z))), (g19, 40, r64 4 (F4 (mulP dP (mulP p.t q.t)))), (g15, 40, r64 4 (F4 (mulP p.y q.y))), (g11, 40, r64 4 (F4 (mulP p.x q.x))), (g8, 84, nums 4 (qua 0 0 0 0)), (g6, 84, nums 4 (qua q.x q.y q.z q.t)), (g4, 84, nums 4 (qua p.x p.y p.z p.t)), (w.heap.size, 40, r64 4 (F4 dP))]) 1000 1001 [⟨11, 12, 40, r64 4 (F4 0), r64 4 (F4 (addP (mulP p.x q.y) (mulP q.x p.y))), ptr⟩]) (fun i => i == 11) (by kernel_rfl) (KM.begin h23 hn24 (lows hn24 h23 (fun _ _ => rfl)) _) ?_
  refine kV 0 (.pointer (some ⟨g4, 0, none⟩)) rfl ?_
  simp only [pu]
  refine kW 1 (.agg (r64 4 (F4 p.x))) rfl (fun qv L wx hT => ?_) ?_
  · exact lands_num 0 _ _ rfl _ 4 _ rfl _ (hT.k.blk _ m6) (by decide) _ Tryz.underlying40 rfl (by kernel_rfl) hT
  simp only [pu]
  refine kV 2 (.pointer (some ⟨g6, 4, none⟩)) rfl ?_
  simp only [pu]
  refine kW 3 (.agg (r64 4 (F4 q.y))) rfl (fun qv L wx hT => ?_) ?_
  · exact lands_num 1 _ _ rfl _ 4 _ rfl _ (hT.k.blk _ m5) (by decide) _ Tryz.underlying40 rfl (by kernel_rfl) hT
  simp only [pu]
  refine kC 4 rfl (fun wx => rmulP p.x q.y wx hp.x hq.y) ?_
  simp only [pu]
  refine kV 5 (.pointer (some ⟨g6, 0, none⟩)) rfl ?_
  simp only [pu]
  refine kW 6 (.agg (r64 4 (F4 q.x))) rfl (fun qv L wx hT => ?_) ?_
  · exact lands_num 0 _ _ rfl _ 4 _ rfl _ (hT.k.blk _ m5) (by decide) _ Tryz.underlying40 rfl (by kernel_rfl) hT
  simp only [pu]
  refine kV 7 (.pointer (some ⟨g4, 4, none⟩)) rfl ?_
  simp only [pu]
  refine kW 8 (.agg (r64 4 (F4 p.y))) rfl (fun qv L wx hT => ?_) ?_
  · exact lands_num 1 _ _ rfl _ 4 _ rfl _ (hT.k.blk _ m6) (by decide) _ Tryz.underlying40 rfl (by kernel_rfl) hT
  simp only [pu]
  refine kC 9 rfl (fun wx => rmulP q.x p.y wx hq.x hp.y) ?_
  simp only [pu]
  refine kC 10 rfl (fun wx => raddP (mulP p.x q.y) (mulP q.x p.y) wx (mulP_lt _ _) (mulP_lt _ _)) ?_
  simp only [pu]
  refine anyE_made (i := 11) rfl rfl (by kernel_rfl) (by kernel_rfl) (by kernel_rfl) (fun qv => ym_made (n := 9) ⟨11, 12, 40, r64 4 (F4 0), r64 4 (F4 (addP (mulP p.x q.y) (mulP q.x p.y))), ptr⟩ (by kernel_rfl) m0 (.inl (show waits .any _ 9 12 11 = true from (by kernel_rfl))) rfl (alloc_run _ _ rfl zero_fe)) ?_
  simp only [pu]
  refine anyE_take (i := 12) undef rfl rfl (by kernel_rfl) (by kernel_rfl) (by kernel_rfl) (fun qv => ym_stored ⟨11, 12, 40, r64 4 (F4 0), r64 4 (F4 (addP (mulP p.x q.y) (mulP q.x p.y))), ptr⟩ _ _ _ (by kernel_rfl) m0 rfl (by kernel_rfl) rfl rfl rfl rfl (by kernel_rfl) (by kernel_rfl) (row_one fun _ => rfl)) ?_
  simp only [pu]
  refine anyE_done (by kernel_rfl) (fun qv w25 hK => ?_) _
  have hE := hK.outs (by kernel_rfl) (by kernel_rfl)  (b := false) (c := false) (by kernel_rfl) (by kernel_rfl)
  clear hK h23 hn24
  obtain ⟨g26, eg26, hE'⟩ := hE.next
  clear hE
  replace eg26 : qv 11 = .pointer (some ⟨g26, 0, none⟩) := eg26
  have h25 : KD w.heap.size w [(g26, 40, r64 4 (F4 (addP (mulP p.x q.y) (mulP q.x p.y)))), (g22, 40, r64 4 (F4 (mulP p.z q.z))), (g19, 40, r64 4 (F4 (mulP dP (mulP p.t q.t)))), (g15, 40, r64 4 (F4 (mulP p.y q.y))), (g11, 40, r64 4 (F4 (mulP p.x q.x))), (g8, 84, nums 4 (qua 0 0 0 0)), (g6, 84, nums 4 (qua q.x q.y q.z q.t)), (g4, 84, nums 4 (qua p.x p.y p.z p.t)), (w.heap.size, 40, r64 4 (F4 dP))] w25 := hE'.k
  clear hE'
  clear n24
  rw [eg26]
  clear eg26
  clear qv
  with_reducible (apply tn; go_at_K; go_step; apply wp_seq_k; intro _ _)
  with_reducible apply wp_region_lit
  refine wL (.agg (r64 4 (F4 (mulP p.y q.y)))) (by exact lands_load _ _ rfl _ rfl _ _ _ (h25.blk _ m3) Tryz.underlying40 rfl (fe_size _) rfl) ?_
  simp only [pu]
  refine wL (.agg (r64 4 (F4 (mulP p.x q.x)))) (by exact lands_load _ _ rfl _ rfl _ _ _ (h25.blk _ m4) Tryz.underlying40 rfl (fe_size _) rfl) ?_
  simp only [pu]
  refine wC h25 (raddP (mulP p.y q.y) (mulP p.x q.x) w25 (mulP_lt _ _) (mulP_lt _ _)) fun w27 h27 => ?_
  simp only [pu]
  clear h25
  refine wA h27 (alloc_run _ _ rfl zero_fe _) fun w28 h28 => ?_
  simp only [pu]
  clear h27
  generalize w27.heap.size = g29 at h28 ⊢
  refine wpList_val (R := KD w.heap.size w [(g29, 40, r64 4 (F4 (addP (mulP p.y q.y) (mulP p.x q.x)))), (g26, 40, r64 4 (F4 (addP (mulP p.x q.y) (mulP q.x p.y)))), (g22, 40, r64 4 (F4 (mulP p.z q.z))), (g19, 40, r64 4 (F4 (mulP dP (mulP p.t q.t)))), (g15, 40, r64 4 (F4 (mulP p.y q.y))), (g11, 40, r64 4 (F4 (mulP p.x q.x))), (g8, 84, nums 4 (qua 0 0 0 0)), (g6, 84, nums 4 (qua q.x q.y q.z q.t)), (g4, 84, nums 4 (qua p.x p.y p.z p.t)), (w.heap.size, 40, r64 4 (F4 dP))]) undef rfl (lands_store _ _ _ rfl g29 (r64 4 (F4 (addP (mulP p.y q.y) (mulP p.x q.x)))) rfl rfl _ _ (h28.blk _ m0) (by kernel_rfl) (by kernel_rfl) (row_one fun _ => rfl) (h28.put (k := 0) rfl _)) ?_
  intro w30 h30
  simp only [pu]
  clear h28
  refine wpList_nil ?_
  with_reducible (apply tn; go_at_K; go_step; apply wp_seq_k; intro _ _)
  with_reducible apply wp_region_lit
  refine wL (.agg (r64 4 (F4 (mulP p.z q.z)))) (by exact lands_load _ _ rfl _ rfl _ _ _ (h30.blk _ m2) Tryz.underlying40 rfl (fe_size _) rfl) ?_
  simp only [pu]
  refine wL (.agg (r64 4 (F4 (mulP dP (mulP p.t q.t))))) (by exact lands_load _ _ rfl _ rfl _ _ _ (h30.blk _ m3) Tryz.underlying40 rfl (fe_size _) rfl) ?_
  simp only [pu]
  refine wC h30 (rsubP (mulP p.z q.z) (mulP dP (mulP p.t q.t)) w30 (mulP_lt _ _) (mulP_lt _ _)) fun w31 h31 => ?_
  simp only [pu]
  clear h30
  refine wA h31 (alloc_run _ _ rfl zero_fe _) fun w32 h32 => ?_
  simp only [pu]
  clear h31
  generalize w31.heap.size = g33 at h32 ⊢
  refine wpList_val (R := KD w.heap.size w [(g33, 40, r64 4 (F4 (subP (mulP p.z q.z) (mulP dP (mulP p.t q.t))))), (g29, 40, r64 4 (F4 (addP (mulP p.y q.y) (mulP p.x q.x)))), (g26, 40, r64 4 (F4 (addP (mulP p.x q.y) (mulP q.x p.y)))), (g22, 40, r64 4 (F4 (mulP p.z q.z))), (g19, 40, r64 4 (F4 (mulP dP (mulP p.t q.t)))), (g15, 40, r64 4 (F4 (mulP p.y q.y))), (g11, 40, r64 4 (F4 (mulP p.x q.x))), (g8, 84, nums 4 (qua 0 0 0 0)), (g6, 84, nums 4 (qua q.x q.y q.z q.t)), (g4, 84, nums 4 (qua p.x p.y p.z p.t)), (w.heap.size, 40, r64 4 (F4 dP))]) undef rfl (lands_store _ _ _ rfl g33 (r64 4 (F4 (subP (mulP p.z q.z) (mulP dP (mulP p.t q.t))))) rfl rfl _ _ (h32.blk _ m0) (by kernel_rfl) (by kernel_rfl) (row_one fun _ => rfl) (h32.put (k := 0) rfl _)) ?_
  intro w34 h34
  simp only [pu]
  clear h32
  refine wpList_nil ?_
  with_reducible (apply tn; go_at_K; go_step; apply wp_seq_k; intro _ _)
  with_reducible apply wp_region_lit
  refine wL (.agg (r64 4 (F4 (mulP p.z q.z)))) (by exact lands_load _ _ rfl _ rfl _ _ _ (h34.blk _ m3) Tryz.underlying40 rfl (fe_size _) rfl) ?_
  simp only [pu]
  refine wL (.agg (r64 4 (F4 (mulP dP (mulP p.t q.t))))) (by exact lands_load _ _ rfl _ rfl _ _ _ (h34.blk _ m4) Tryz.underlying40 rfl (fe_size _) rfl) ?_
  simp only [pu]
  refine wC h34 (raddP (mulP p.z q.z) (mulP dP (mulP p.t q.t)) w34 (mulP_lt _ _) (mulP_lt _ _)) fun w35 h35 => ?_
  simp only [pu]
  clear h34
  refine wA h35 (alloc_run _ _ rfl zero_fe _) fun w36 h36 => ?_
  simp only [pu]
  clear h35
  generalize w35.heap.size = g37 at h36 ⊢
  refine wpList_val (R := KD w.heap.size w [(g37, 40, r64 4 (F4 (addP (mulP p.z q.z) (mulP dP (mulP p.t q.t))))), (g33, 40, r64 4 (F4 (subP (mulP p.z q.z) (mulP dP (mulP p.t q.t))))), (g29, 40, r64 4 (F4 (addP (mulP p.y q.y) (mulP p.x q.x)))), (g26, 40, r64 4 (F4 (addP (mulP p.x q.y) (mulP q.x p.y)))), (g22, 40, r64 4 (F4 (mulP p.z q.z))), (g19, 40, r64 4 (F4 (mulP dP (mulP p.t q.t)))), (g15, 40, r64 4 (F4 (mulP p.y q.y))), (g11, 40, r64 4 (F4 (mulP p.x q.x))), (g8, 84, nums 4 (qua 0 0 0 0)), (g6, 84, nums 4 (qua q.x q.y q.z q.t)), (g4, 84, nums 4 (qua p.x p.y p.z p.t)), (w.heap.size, 40, r64 4 (F4 dP))]) undef rfl (lands_store _ _ _ rfl g37 (r64 4 (F4 (addP (mulP p.z q.z) (mulP dP (mulP p.t q.t))))) rfl rfl _ _ (h36.blk _ m0) (by kernel_rfl) (by kernel_rfl) (row_one fun _ => rfl) (h36.put (k := 0) rfl _)) ?_
  intro w38 h38
  simp only [pu]
  clear h36
  refine wpList_nil ?_
  with_reducible (apply tn; go_at_K; go_step; apply wp_seq_k; intro _ _)
  obtain ⟨n39, hn39⟩ : ∃ n, n = w38.heap.size := ⟨_, rfl⟩
  refine wp_region_anyE (KM w.heap.size n39 w (fun b _ => bif b then [(g37, 40, r64 4 (F4 (addP (mulP p.z q.z) (mulP dP (mulP p.t q.t))))), (g33, 40, r64 4 (F4 (subP (mulP p.z q.z) (mulP dP (mulP p.t q.t))))), (g29, 40, r64 4 (F4 (addP (mulP p.y q.y) (mulP p.x q.x)))), (g26, 40, r64 4 (F4 (addP (mulP p.x q.y) (mulP q.x p.y)))), (g22, 40, r64 4 (F4 (mulP p.z q.z))), (g19, 40, r64 4 (F4 (mulP dP (mulP p.t q.t)))), (g15, 40, r64 4 (F4 (mulP p.y q.y))), (g11, 40, r64 4 (F4 (mulP p.x q.x))), (g8, 84, nums 4 (qua (mulP (addP (mulP p.x q.y) (mulP q.x p.y)) (subP (mulP p.z q.z) (mulP dP (mulP p.t q.t)))) (mulP (addP (mulP p.y q.y) (mulP p.x q.x)) (addP (mulP p.z q.z) (mulP dP (mulP p.t q.t)))) (mulP (subP (mulP p.z q.z) (mulP dP (mulP p.t q.t))) (addP (mulP p.z q.z) (mulP dP (mulP p.t q.t)))) (mulP (addP (mulP p.x q.y) (mulP q.x p.y)) (addP (mulP p.y q.y) (mulP p.x q.x))))), (g6, 84, nums 4 (qua q.x q.y q.z q.t)), (g4, 84, nums 4 (qua p.x p.y p.z p.t)), (w.heap.size, 40, r64 4 (F4 dP))] else [(g37, 40, r64 4 (F4 (addP (mulP p.z q.z) (mulP dP (mulP p.t q.t))))), (g33, 40, r64 4 (F4 (subP (mulP p.z q.z) (mulP dP (mulP p.t q.t))))), (g29, 40, r64 4 (F4 (addP (mulP p.y q.y) (mulP p.x q.x)))), (g26, 40, r64 4 (F4 (addP (mulP p.x q.y) (mulP q.x p.y)))), (g22, 40, r64 4 (F4 (mulP p.z q.z))), (g19, 40, r64 4 (F4 (mulP dP (mulP p.t q.t)))), (g15, 40, r64 4 (F4 (mulP p.y q.y))), (g11, 40, r64 4 (F4 (mulP p.x q.x))), (g8, 84, nums 4 (qua 0 0 0 0)), (g6, 84, nums 4 (qua q.x q.y q.z q.t)), (g4, 84, nums 4 (qua p.x p.y p.z p.t)), (w.heap.size, 40, r64 4 (F4 dP))]) 13 1001 []) (fun _ => false) (by kernel_rfl) (KM.begin h38 hn39 (lows hn39 h38 (fun b _ => by cases b <;> simp only [cond_true, cond_false, List.map_cons, List.map_nil])) _) ?_
  refine kA 0 9 (.agg (r64 4 (F4 (addP (mulP p.x q.y) (mulP q.x p.y))))) rfl rfl rfl (fun _ => rfl) (fun qv L wx hk hT => ?_) ?_
  · exact lands_load _ _ rfl _ rfl _ _ _ (hk.blk _ m3) Tryz.underlying40 rfl (fe_size _) hT
  simp only [pu]
  refine kA 1 9 (.agg (r64 4 (F4 (subP (mulP p.z q.z) (mulP dP (mulP p.t q.t)))))) rfl rfl rfl (fun _ => rfl) (fun qv L wx hk hT => ?_) ?_
  · exact lands_load _ _ rfl _ rfl _ _ _ (hk.blk _ m1) Tryz.underlying40 rfl (fe_size _) hT
  simp only [pu]
  refine kC 2 rfl (fun wx => rmulP (addP (mulP p.x q.y) (mulP q.x p.y)) (subP (mulP p.z q.z) (mulP dP (mulP p.t q.t))) wx (addP_lt _ _) (subP_lt _ _)) ?_
  simp only [pu]
  refine kA 3 9 (.agg (r64 4 (F4 (addP (mulP p.y q.y) (mulP p.x q.x))))) rfl rfl rfl (fun _ => rfl) (fun qv L wx hk hT => ?_) ?_
  · exact lands_load _ _ rfl _ rfl _ _ _ (hk.blk _ m2) Tryz.underlying40 rfl (fe_size _) hT
  simp only [pu]
  refine kA 4 9 (.agg (r64 4 (F4 (addP (mulP p.z q.z) (mulP dP (mulP p.t q.t)))))) rfl rfl rfl (fun _ => rfl) (fun qv L wx hk hT => ?_) ?_
  · exact lands_load _ _ rfl _ rfl _ _ _ (hk.blk _ m0) Tryz.underlying40 rfl (fe_size _) hT
  simp only [pu]
  refine kC 5 rfl (fun wx => rmulP (addP (mulP p.y q.y) (mulP p.x q.x)) (addP (mulP p.z q.z) (mulP dP (mulP p.t q.t))) wx (addP_lt _ _) (addP_lt _ _)) ?_
  simp only [pu]
  refine kA 6 9 (.agg (r64 4 (F4 (subP (mulP p.z q.z) (mulP dP (mulP p.t q.t)))))) rfl rfl rfl (fun _ => rfl) (fun qv L wx hk hT => ?_) ?_
  · exact lands_load _ _ rfl _ rfl _ _ _ (hk.blk _ m1) Tryz.underlying40 rfl (fe_size _) hT
  simp only [pu]
  refine kA 7 9 (.agg (r64 4 (F4 (addP (mulP p.z q.z) (mulP dP (mulP p.t q.t)))))) rfl rfl rfl (fun _ => rfl) (fun qv L wx hk hT => ?_) ?_
  · exact lands_load _ _ rfl _ rfl _ _ _ (hk.blk _ m0) Tryz.underlying40 rfl (fe_size _) hT
  simp only [pu]
  refine kC 8 rfl (fun wx => rmulP (subP (mulP p.z q.z) (mulP dP (mulP p.t q.t))) (addP (mulP p.z q.z) (mulP dP (mulP p.t q.t))) wx (subP_lt _ _) (addP_lt _ _)) ?_
  simp only [pu]
  refine kA 9 9 (.agg (r64 4 (F4 (addP (mulP p.x q.y) (mulP q.x p.y))))) rfl rfl rfl (fun _ => rfl) (fun qv L wx hk hT => ?_) ?_
  · exact lands_load _ _ rfl _ rfl _ _ _ (hk.blk _ m3) Tryz.underlying40 rfl (fe_size _) hT
  simp only [pu]
  refine kA 10 9 (.agg (r64 4 (F4 (addP (mulP p.y q.y) (mulP p.x q.x))))) rfl rfl rfl (fun _ => rfl) (fun qv L wx hk hT => ?_) ?_
  · exact lands_load _ _ rfl _ rfl _ _ _ (hk.blk _ m2) Tryz.underlying40 rfl (fe_size _) hT
  simp only [pu]
  refine kC 11 rfl (fun wx => rmulP (addP (mulP p.x q.y) (mulP q.x p.y)) (addP (mulP p.y q.y) (mulP p.x q.x)) wx (addP_lt _ _) (addP_lt _ _)) ?_
  simp only [pu]
  refine kW 12 (.agg (nums 4 (qua (mulP (addP (mulP p.x q.y) (mulP q.x p.y)) (subP (mulP p.z q.z) (mulP dP (mulP p.t q.t)))) (mulP (addP (mulP p.y q.y) (mulP p.x q.x)) (addP (mulP p.z q.z) (mulP dP (mulP p.t q.t)))) (mulP (subP (mulP p.z q.z) (mulP dP (mulP p.t q.t))) (addP (mulP p.z q.z) (mulP dP (mulP p.t q.t)))) (mulP (addP (mulP p.x q.y) (mulP q.x p.y)) (addP (mulP p.y q.y) (mulP p.x q.x)))))) rfl (fun qv L wx hT => ?_) ?_
  · exact lands_built _ _ rfl _ rfl _ (by kernel_rfl) hT
  simp only [pu]
  refine anyE_take (i := 13) undef rfl rfl (by kernel_rfl) (by kernel_rfl) (by kernel_rfl) (fun qv => ym_first (k := 8) _ _ _ (by kernel_rfl) rfl rfl rfl rfl (by kernel_rfl) (by kernel_rfl) (row_one fun _ => rfl) (fun _ => rfl) (fun _ => rfl)) ?_
  simp only [pu]
  refine anyE_done (by kernel_rfl) (fun qv w40 hK => ?_) _
  have hE := hK.outs (by kernel_rfl) (by kernel_rfl)  (b := true) (c := false) (by kernel_rfl) (by kernel_rfl)
  clear hK h38 hn39
  have h40 : KD w.heap.size w [(g37, 40, r64 4 (F4 (addP (mulP p.z q.z) (mulP dP (mulP p.t q.t))))), (g33, 40, r64 4 (F4 (subP (mulP p.z q.z) (mulP dP (mulP p.t q.t))))), (g29, 40, r64 4 (F4 (addP (mulP p.y q.y) (mulP p.x q.x)))), (g26, 40, r64 4 (F4 (addP (mulP p.x q.y) (mulP q.x p.y)))), (g22, 40, r64 4 (F4 (mulP p.z q.z))), (g19, 40, r64 4 (F4 (mulP dP (mulP p.t q.t)))), (g15, 40, r64 4 (F4 (mulP p.y q.y))), (g11, 40, r64 4 (F4 (mulP p.x q.x))), (g8, 84, nums 4 (qua (mulP (addP (mulP p.x q.y) (mulP q.x p.y)) (subP (mulP p.z q.z) (mulP dP (mulP p.t q.t)))) (mulP (addP (mulP p.y q.y) (mulP p.x q.x)) (addP (mulP p.z q.z) (mulP dP (mulP p.t q.t)))) (mulP (subP (mulP p.z q.z) (mulP dP (mulP p.t q.t))) (addP (mulP p.z q.z) (mulP dP (mulP p.t q.t)))) (mulP (addP (mulP p.x q.y) (mulP q.x p.y)) (addP (mulP p.y q.y) (mulP p.x q.x))))), (g6, 84, nums 4 (qua q.x q.y q.z q.t)), (g4, 84, nums 4 (qua p.x p.y p.z p.t)), (w.heap.size, 40, r64 4 (F4 dP))] w40 := hE.k
  clear hE
  clear n39
  clear qv
  with_reducible (apply tn; go_at_K; go_step)
  with_reducible apply wp_ret
  repeat (first | with_reducible apply then_ret | with_reducible apply block_ret)
  exact bodyPost_ret (results_cell_row rfl _ _ g8 84 (nums 4 (qua (mulP (addP (mulP p.x q.y) (mulP q.x p.y)) (subP (mulP p.z q.z) (mulP dP (mulP p.t q.t)))) (mulP (addP (mulP p.y q.y) (mulP p.x q.x)) (addP (mulP p.z q.z) (mulP dP (mulP p.t q.t)))) (mulP (subP (mulP p.z q.z) (mulP dP (mulP p.t q.t))) (addP (mulP p.z q.z) (mulP dP (mulP p.t q.t)))) (mulP (addP (mulP p.x q.y) (mulP q.x p.y)) (addP (mulP p.y q.y) (mulP p.x q.x))))) (0, 0) _ rfl (h40.blk _ (.tail _ (.tail _ (m6)))) Tryz.underlying84 rfl (by kernel_rfl)) rfl ⟨by simp only [R4.sum], h40.b⟩
set_option maxRecDepth 100000 in
set_option maxHeartbeats 400000 in
theorem rwhole_any (p : R4) (hp : p.ok) (w : World) :
    Calls Tryz.prog 71 #[.agg (nums 4 (qua p.x p.y p.z p.t))] w fun e w' => e = .returned (.agg (nums 2 (two p.whole.x p.whole.y))) ∧ Below w.heap.size w w' := by
  go_enter Tryz.func71, Tryz.ntmps71
  with_reducible (apply wp_seq_k; intro _ _)
  have h1 := KD.begin w
  with_reducible apply wp_region_lit
  refine wA h1 (box_run _ _ _ rfl rfl _) fun w2 h2 => ?_
  simp only [pu]
  clear h1
  refine wA h2 (alloc_run _ _ rfl zero_pt _) fun w3 h3 => ?_
  simp only [pu]
  clear h2
  generalize w2.heap.size = g4 at h3 ⊢
  refine wpList_nil ?_
  with_reducible (apply tn; go_at_K; go_step; apply wp_seq_k; intro _ _)
  with_reducible apply wp_region_lit
  refine wV (.pointer (some ⟨w.heap.size, 8, none⟩)) ?_
  simp only [pu]
  refine wL (.agg (r64 4 (F4 p.z))) (by exact lands_num 2 _ _ rfl _ 4 _ rfl _ (h3.blk _ m1) (by decide) _ Tryz.underlying40 rfl (by kernel_rfl) rfl) ?_
  simp only [pu]
  refine wC h3 (rinvV p.z w3 hp.z) fun w5 h5 => ?_
  simp only [pu]
  clear h3
  refine wA h5 (alloc_run _ _ rfl zero_fe _) fun w6 h6 => ?_
  simp only [pu]
  clear h5
  generalize w5.heap.size = g7 at h6 ⊢
  refine wpList_val (R := KD w.heap.size w [(g7, 40, r64 4 (F4 (vP p.z))), (g4, 42, nums 2 (two 0 0)), (w.heap.size, 84, nums 4 (qua p.x p.y p.z p.t))]) undef rfl (lands_store _ _ _ rfl g7 (r64 4 (F4 (vP p.z))) rfl rfl _ _ (h6.blk _ m0) (by kernel_rfl) (by kernel_rfl) (row_one fun _ => rfl) (h6.put (k := 0) rfl _)) ?_
  intro w8 h8
  simp only [pu]
  clear h6
  refine wpList_nil ?_
  with_reducible (apply tn; go_at_K; go_step; apply wp_seq_k; intro _ _)
  obtain ⟨n9, hn9⟩ : ∃ n, n = w8.heap.size := ⟨_, rfl⟩
  refine wp_region_anyE (KM w.heap.size n9 w (fun b _ => bif b then [(g7, 40, r64 4 (F4 (vP p.z))), (g4, 42, nums 2 (two (mulP p.x (vP p.z)) (mulP p.y (vP p.z)))), (w.heap.size, 84, nums 4 (qua p.x p.y p.z p.t))] else [(g7, 40, r64 4 (F4 (vP p.z))), (g4, 42, nums 2 (two 0 0)), (w.heap.size, 84, nums 4 (qua p.x p.y p.z p.t))]) 9 1001 []) (fun _ => false) (by kernel_rfl) (KM.begin h8 hn9 (lows hn9 h8 (fun b _ => by cases b <;> simp only [cond_true, cond_false, List.map_cons, List.map_nil])) _) ?_
  refine kV 0 (.pointer (some ⟨w.heap.size, 0, none⟩)) rfl ?_
  simp only [pu]
  refine kA 1 9 (.agg (r64 4 (F4 p.x))) rfl rfl rfl (fun _ => rfl) (fun qv L wx hk hT => ?_) ?_
  · exact lands_num 0 _ _ rfl _ 4 _ rfl _ (hk.blk _ m2) (by decide) _ Tryz.underlying40 rfl (by kernel_rfl) hT
  simp only [pu]
  refine kA 2 9 (.agg (r64 4 (F4 (vP p.z)))) rfl rfl rfl (fun _ => rfl) (fun qv L wx hk hT => ?_) ?_
  · exact lands_load _ _ rfl _ rfl _ _ _ (hk.blk _ m0) Tryz.underlying40 rfl (fe_size _) hT
  simp only [pu]
  refine kC 3 rfl (fun wx => rmulP p.x (vP p.z) wx hp.x (vP_lt _)) ?_
  simp only [pu]
  refine kV 4 (.pointer (some ⟨w.heap.size, 4, none⟩)) rfl ?_
  simp only [pu]
  refine kA 5 9 (.agg (r64 4 (F4 p.y))) rfl rfl rfl (fun _ => rfl) (fun qv L wx hk hT => ?_) ?_
  · exact lands_num 1 _ _ rfl _ 4 _ rfl _ (hk.blk _ m2) (by decide) _ Tryz.underlying40 rfl (by kernel_rfl) hT
  simp only [pu]
  refine kA 6 9 (.agg (r64 4 (F4 (vP p.z)))) rfl rfl rfl (fun _ => rfl) (fun qv L wx hk hT => ?_) ?_
  · exact lands_load _ _ rfl _ rfl _ _ _ (hk.blk _ m0) Tryz.underlying40 rfl (fe_size _) hT
  simp only [pu]
  refine kC 7 rfl (fun wx => rmulP p.y (vP p.z) wx hp.y (vP_lt _)) ?_
  simp only [pu]
  refine kW 8 (.agg (nums 2 (two (mulP p.x (vP p.z)) (mulP p.y (vP p.z))))) rfl (fun qv L wx hT => ?_) ?_
  · exact lands_built _ _ rfl _ rfl _ (by kernel_rfl) hT
  simp only [pu]
  refine anyE_take (i := 9) undef rfl rfl (by kernel_rfl) (by kernel_rfl) (by kernel_rfl) (fun qv => ym_first (k := 1) _ _ _ (by kernel_rfl) rfl rfl rfl rfl (by kernel_rfl) (by kernel_rfl) (row_one fun _ => rfl) (fun _ => rfl) (fun _ => rfl)) ?_
  simp only [pu]
  refine anyE_done (by kernel_rfl) (fun qv w10 hK => ?_) _
  have hE := hK.outs (by kernel_rfl) (by kernel_rfl)  (b := true) (c := false) (by kernel_rfl) (by kernel_rfl)
  clear hK h8 hn9
  have h10 : KD w.heap.size w [(g7, 40, r64 4 (F4 (vP p.z))), (g4, 42, nums 2 (two (mulP p.x (vP p.z)) (mulP p.y (vP p.z)))), (w.heap.size, 84, nums 4 (qua p.x p.y p.z p.t))] w10 := hE.k
  clear hE
  clear n9
  clear qv
  with_reducible (apply tn; go_at_K; go_step)
  with_reducible apply wp_ret
  repeat (first | with_reducible apply then_ret | with_reducible apply block_ret)
  exact bodyPost_ret (results_cell_row rfl _ _ g4 42 (nums 2 (two (mulP p.x (vP p.z)) (mulP p.y (vP p.z)))) (0, 0) _ rfl (h10.blk _ m1) Tryz.underlying42 rfl (by kernel_rfl)) rfl ⟨by simp only [R4.whole], h10.b⟩
set_option maxRecDepth 100000 in
set_option maxHeartbeats 400000 in
theorem radd_any (P : Pt) (hx : P.x < M256) (hy : P.y < M256) (Q : Pt) (kx : Q.x < M256) (ky : Q.y < M256) (w : World) :
    Calls Tryz.prog 36 #[.agg (nums 2 (two P.x P.y)), .agg (nums 2 (two Q.x Q.y))] w fun e w' => e = .returned (.agg (nums 2 (two (raddV P Q).x (raddV P Q).y))) ∧ Below w.heap.size w w' := by
  go_enter Tryz.func36, Tryz.ntmps36
  with_reducible (apply wp_seq_k; intro _ _)
  have h1 := KD.begin w
  with_reducible apply wp_region_lit
  refine wA h1 (box_run _ _ _ rfl rfl _) fun w2 h2 => ?_
  simp only [pu]
  clear h1
  refine wA h2 (box_run _ _ _ rfl rfl _) fun w3 h3 => ?_
  simp only [pu]
  clear h2
  generalize w2.heap.size = g4 at h3 ⊢
  refine wA h3 (alloc_run _ _ rfl zero_pt _) fun w5 h5 => ?_
  simp only [pu]
  clear h3
  generalize w3.heap.size = g6 at h5 ⊢
  refine wpList_nil ?_
  with_reducible (apply tn; go_at_K; go_step; apply wp_seq_k; intro _ _)
  obtain ⟨n7, hn7⟩ : ∃ n, n = w5.heap.size := ⟨_, rfl⟩
  refine wp_region_anyE (KM w.heap.size n7 w (fun b _ => bif b then [(g6, 42, nums 2 (two ((R4.whole (R4.sum (R4.mk ((cnt P).x) ((cnt P).y) 1 (mulP ((cnt P).x) ((cnt P).y))) (R4.mk ((cnt Q).x) ((cnt Q).y) 1 (mulP ((cnt Q).x) ((cnt Q).y))))).x) ((R4.whole (R4.sum (R4.mk ((cnt P).x) ((cnt P).y) 1 (mulP ((cnt P).x) ((cnt P).y))) (R4.mk ((cnt Q).x) ((cnt Q).y) 1 (mulP ((cnt Q).x) ((cnt Q).y))))).y))), (g4, 42, nums 2 (two Q.x Q.y)), (w.heap.size, 42, nums 2 (two P.x P.y))] else [(g6, 42, nums 2 (two 0 0)), (g4, 42, nums 2 (two Q.x Q.y)), (w.heap.size, 42, nums 2 (two P.x P.y))]) 9 1001 []) (fun _ => false) (by kernel_rfl) (KM.begin h5 hn7 (lows hn7 h5 (fun b _ => by cases b <;> simp only [cond_true, cond_false, List.map_cons, List.map_nil])) _) ?_
  refine kC 0 rfl (fun wx => rd_any wx) ?_
  simp only [pu]
  refine kA 1 9 (.agg (nums 2 (two P.x P.y))) rfl rfl rfl (fun _ => rfl) (fun qv L wx hk hT => ?_) ?_
  · exact lands_load _ _ rfl _ rfl _ _ _ (hk.blk _ m2) Tryz.underlying42 rfl (by kernel_rfl) hT
  simp only [pu]
  refine kC 2 rfl (fun wx => rmade_any P hx hy wx) ?_
  simp only [pu]
  refine kC 3 rfl (fun wx => rpart_any (cnt P) cnt_x_lt cnt_y_lt wx) ?_
  simp only [pu]
  refine kA 4 9 (.agg (nums 2 (two Q.x Q.y))) rfl rfl rfl (fun _ => rfl) (fun qv L wx hk hT => ?_) ?_
  · exact lands_load _ _ rfl _ rfl _ _ _ (hk.blk _ m1) Tryz.underlying42 rfl (by kernel_rfl) hT
  simp only [pu]
  refine kC 5 rfl (fun wx => rmade_any Q kx ky wx) ?_
  simp only [pu]
  refine kC 6 rfl (fun wx => rpart_any (cnt Q) cnt_x_lt cnt_y_lt wx) ?_
  simp only [pu]
  refine kC 7 rfl (fun wx => rsum_any (R4.mk ((cnt P).x) ((cnt P).y) 1 (mulP ((cnt P).x) ((cnt P).y))) ⟨cnt_x_lt, cnt_y_lt, (show 1 < M256 by decide), (mulP_lt _ _)⟩ (R4.mk ((cnt Q).x) ((cnt Q).y) 1 (mulP ((cnt Q).x) ((cnt Q).y))) ⟨cnt_x_lt, cnt_y_lt, (show 1 < M256 by decide), (mulP_lt _ _)⟩ wx) ?_
  simp only [pu]
  refine kC 8 rfl (fun wx => rwhole_any (R4.sum (R4.mk ((cnt P).x) ((cnt P).y) 1 (mulP ((cnt P).x) ((cnt P).y))) (R4.mk ((cnt Q).x) ((cnt Q).y) 1 (mulP ((cnt Q).x) ((cnt Q).y)))) (R4.sum_ok) wx) ?_
  simp only [pu]
  refine anyE_take (i := 9) undef rfl rfl (by kernel_rfl) (by kernel_rfl) (by kernel_rfl) (fun qv => ym_first (k := 0) _ _ _ (by kernel_rfl) rfl rfl rfl rfl (by kernel_rfl) (by kernel_rfl) (row_one fun _ => rfl) (fun _ => rfl) (fun _ => rfl)) ?_
  simp only [pu]
  refine anyE_done (by kernel_rfl) (fun qv w8 hK => ?_) _
  have hE := hK.outs (by kernel_rfl) (by kernel_rfl)  (b := true) (c := false) (by kernel_rfl) (by kernel_rfl)
  clear hK h5 hn7
  have h8 : KD w.heap.size w [(g6, 42, nums 2 (two ((R4.whole (R4.sum (R4.mk ((cnt P).x) ((cnt P).y) 1 (mulP ((cnt P).x) ((cnt P).y))) (R4.mk ((cnt Q).x) ((cnt Q).y) 1 (mulP ((cnt Q).x) ((cnt Q).y))))).x) ((R4.whole (R4.sum (R4.mk ((cnt P).x) ((cnt P).y) 1 (mulP ((cnt P).x) ((cnt P).y))) (R4.mk ((cnt Q).x) ((cnt Q).y) 1 (mulP ((cnt Q).x) ((cnt Q).y))))).y))), (g4, 42, nums 2 (two Q.x Q.y)), (w.heap.size, 42, nums 2 (two P.x P.y))] w8 := hE.k
  clear hE
  clear n7
  clear qv
  with_reducible (apply tn; go_at_K; go_step)
  with_reducible apply wp_ret
  repeat (first | with_reducible apply then_ret | with_reducible apply block_ret)
  exact bodyPost_ret (results_cell_row rfl _ _ g6 42 (nums 2 (two ((R4.whole (R4.sum (R4.mk ((cnt P).x) ((cnt P).y) 1 (mulP ((cnt P).x) ((cnt P).y))) (R4.mk ((cnt Q).x) ((cnt Q).y) 1 (mulP ((cnt Q).x) ((cnt Q).y))))).x) ((R4.whole (R4.sum (R4.mk ((cnt P).x) ((cnt P).y) 1 (mulP ((cnt P).x) ((cnt P).y))) (R4.mk ((cnt Q).x) ((cnt Q).y) 1 (mulP ((cnt Q).x) ((cnt Q).y))))).y))) (0, 0) _ rfl (h8.blk _ m0) Tryz.underlying42 rfl (by kernel_rfl)) rfl ⟨by simp only [raddV], h8.b⟩
set_option maxRecDepth 100000 in
set_option maxHeartbeats 400000 in
theorem rneg_any (P : Pt) (hx : P.x < M256) (hy : P.y < M256) (w : World) :
    Calls Tryz.prog 34 #[.agg (nums 2 (two P.x P.y))] w fun e w' => e = .returned (.agg (nums 2 (two (pneg (cnt P)).x (pneg (cnt P)).y))) ∧ Below w.heap.size w w' := by
  go_enter Tryz.func34, Tryz.ntmps34
  with_reducible (apply wp_seq_k; intro _ _)
  have h1 := KD.begin w
  with_reducible apply wp_region_lit
  refine wA h1 (box_run _ _ _ rfl rfl _) fun w2 h2 => ?_
  simp only [pu]
  clear h1
  refine wA h2 (alloc_run _ _ rfl zero_pt _) fun w3 h3 => ?_
  simp only [pu]
  clear h2
  generalize w2.heap.size = g4 at h3 ⊢
  refine wpList_nil ?_
  with_reducible (apply tn; go_at_K; go_step; apply wp_seq_k; intro _ _)
  with_reducible apply wp_region_lit
  refine wL (.agg (nums 2 (two P.x P.y))) (by exact lands_load _ _ rfl _ rfl _ _ _ (h3.blk _ m1) Tryz.underlying42 rfl (by kernel_rfl) rfl) ?_
  simp only [pu]
  refine wC h3 (rmade_any P hx hy w3) fun w5 h5 => ?_
  simp only [pu]
  clear h3
  refine wA h5 (alloc_run _ _ rfl zero_pt _) fun w6 h6 => ?_
  simp only [pu]
  clear h5
  generalize w5.heap.size = g7 at h6 ⊢
  refine wpList_val (R := KD w.heap.size w [(g7, 42, nums 2 (two ((cnt P).x) ((cnt P).y))), (g4, 42, nums 2 (two 0 0)), (w.heap.size, 42, nums 2 (two P.x P.y))]) undef rfl (lands_store _ _ _ rfl g7 (nums 2 (two ((cnt P).x) ((cnt P).y))) rfl rfl _ _ (h6.blk _ m0) (by kernel_rfl) (by kernel_rfl) (row_one fun _ => rfl) (h6.put (k := 0) rfl _)) ?_
  intro w8 h8
  simp only [pu]
  clear h6
  refine wpList_nil ?_
  with_reducible (apply tn; go_at_K; go_step; apply wp_seq_k; intro _ _)
  obtain ⟨n9, hn9⟩ : ∃ n, n = w8.heap.size := ⟨_, rfl⟩
  refine wp_region_anyE (KM w.heap.size n9 w (fun b _ => bif b then [(g7, 42, nums 2 (two ((cnt P).x) ((cnt P).y))), (g4, 42, nums 2 (two (negP ((cnt P).x)) ((cnt P).y))), (w.heap.size, 42, nums 2 (two P.x P.y))] else [(g7, 42, nums 2 (two ((cnt P).x) ((cnt P).y))), (g4, 42, nums 2 (two 0 0)), (w.heap.size, 42, nums 2 (two P.x P.y))]) 6 1001 []) (fun _ => false) (by kernel_rfl) (KM.begin h8 hn9 (lows hn9 h8 (fun b _ => by cases b <;> simp only [cond_true, cond_false, List.map_cons, List.map_nil])) _) ?_
  refine kV 0 (.pointer (some ⟨g7, 0, none⟩)) rfl ?_
  simp only [pu]
  refine kA 1 9 (.agg (r64 4 (F4 ((cnt P).x)))) rfl rfl rfl (fun _ => rfl) (fun qv L wx hk hT => ?_) ?_
  · exact lands_num 0 _ _ rfl _ 2 _ rfl _ (hk.blk _ m0) (by decide) _ Tryz.underlying40 rfl (by kernel_rfl) hT
  simp only [pu]
  refine kC 2 rfl (fun wx => rnegP ((cnt P).x) wx cnt_x_lt) ?_
  simp only [pu]
  refine kV 3 (.pointer (some ⟨g7, 4, none⟩)) rfl ?_
  simp only [pu]
  refine kA 4 9 (.agg (r64 4 (F4 ((cnt P).y)))) rfl rfl rfl (fun _ => rfl) (fun qv L wx hk hT => ?_) ?_
  · exact lands_num 1 _ _ rfl _ 2 _ rfl _ (hk.blk _ m0) (by decide) _ Tryz.underlying40 rfl (by kernel_rfl) hT
  simp only [pu]
  refine kW 5 (.agg (nums 2 (two (negP ((cnt P).x)) ((cnt P).y)))) rfl (fun qv L wx hT => ?_) ?_
  · exact lands_built _ _ rfl _ rfl _ (by kernel_rfl) hT
  simp only [pu]
  refine anyE_take (i := 6) undef rfl rfl (by kernel_rfl) (by kernel_rfl) (by kernel_rfl) (fun qv => ym_first (k := 1) _ _ _ (by kernel_rfl) rfl rfl rfl rfl (by kernel_rfl) (by kernel_rfl) (row_one fun _ => rfl) (fun _ => rfl) (fun _ => rfl)) ?_
  simp only [pu]
  refine anyE_done (by kernel_rfl) (fun qv w10 hK => ?_) _
  have hE := hK.outs (by kernel_rfl) (by kernel_rfl)  (b := true) (c := false) (by kernel_rfl) (by kernel_rfl)
  clear hK h8 hn9
  have h10 : KD w.heap.size w [(g7, 42, nums 2 (two ((cnt P).x) ((cnt P).y))), (g4, 42, nums 2 (two (negP ((cnt P).x)) ((cnt P).y))), (w.heap.size, 42, nums 2 (two P.x P.y))] w10 := hE.k
  clear hE
  clear n9
  clear qv
  with_reducible (apply tn; go_at_K; go_step)
  with_reducible apply wp_ret
  repeat (first | with_reducible apply then_ret | with_reducible apply block_ret)
  exact bodyPost_ret (results_cell_row rfl _ _ g4 42 (nums 2 (two (negP ((cnt P).x)) ((cnt P).y))) (0, 0) _ rfl (h10.blk _ m1) Tryz.underlying42 rfl (by kernel_rfl)) rfl ⟨by simp only [pneg], h10.b⟩
set_option maxRecDepth 100000 in
set_option maxHeartbeats 400000 in
theorem rroot5_any (y : Nat) (hy : y < M256) (x : Nat) (b : Bool) (hr : rV (subP (mulP y y) 1) (addP (mulP dP (mulP y y)) 1) = (x, b)) (w : World) :
    Calls Tryz.prog 64 #[.agg (r64 4 (F4 y))] w fun e w' => e = .returned (.tuple #[.agg (r64 4 (F4 x)), .bool b]) ∧ Below w.heap.size w w' := by
  go_enter Tryz.func64, Tryz.ntmps64
  with_reducible (apply wp_seq_k; intro _ _)
  have h1 := KD.begin w
  with_reducible apply wp_region_lit
  refine wA h1 (box_run _ _ _ rfl rfl _) fun w2 h2 => ?_
  simp only [pu]
  clear h1
  refine wA h2 (alloc_run _ _ rfl zero_fe _) fun w3 h3 => ?_
  simp only [pu]
  clear h2
  generalize w2.heap.size = g4 at h3 ⊢
  refine wV (.bool false) ?_
  simp only [pu]
  refine wpList_nil ?_
  with_reducible (apply tn; go_at_K; go_step; apply wp_seq_k; intro _ _)
  with_reducible apply wp_region_lit
  refine wL (.agg (r64 4 (F4 y))) (by exact lands_load _ _ rfl _ rfl _ _ _ (h3.blk _ m1) Tryz.underlying40 rfl (fe_size _) rfl) ?_
  simp only [pu]
  refine wL (.agg (r64 4 (F4 y))) (by exact lands_load _ _ rfl _ rfl _ _ _ (h3.blk _ m1) Tryz.underlying40 rfl (fe_size _) rfl) ?_
  simp only [pu]
  refine wC h3 (rmulP y y w3 hy hy) fun w5 h5 => ?_
  simp only [pu]
  clear h3
  refine wA h5 (alloc_run _ _ rfl zero_fe _) fun w6 h6 => ?_
  simp only [pu]
  clear h5
  generalize w5.heap.size = g7 at h6 ⊢
  refine wpList_val (R := KD w.heap.size w [(g7, 40, r64 4 (F4 (mulP y y))), (g4, 40, r64 4 (F4 0)), (w.heap.size, 40, r64 4 (F4 y))]) undef rfl (lands_store _ _ _ rfl g7 (r64 4 (F4 (mulP y y))) rfl rfl _ _ (h6.blk _ m0) (by kernel_rfl) (by kernel_rfl) (row_one fun _ => rfl) (h6.put (k := 0) rfl _)) ?_
  intro w8 h8
  simp only [pu]
  clear h6
  refine wpList_nil ?_
  with_reducible (apply tn; go_at_K; go_step; apply wp_seq_k; intro _ _)
  with_reducible apply wp_region_lit
  refine wC h8 (rsmall_nat 1 w8 (by decide)) fun w9 h9 => ?_
  simp only [pu]
  clear h8
  refine wA h9 (alloc_run _ _ rfl zero_fe _) fun w10 h10 => ?_
  simp only [pu]
  clear h9
  generalize w9.heap.size = g11 at h10 ⊢
  refine wpList_val (R := KD w.heap.size w [(g11, 40, r64 4 (F4 1)), (g7, 40, r64 4 (F4 (mulP y y))), (g4, 40, r64 4 (F4 0)), (w.heap.size, 40, r64 4 (F4 y))]) undef rfl (lands_store _ _ _ rfl g11 (r64 4 (F4 1)) rfl rfl _ _ (h10.blk _ m0) (by kernel_rfl) (by kernel_rfl) (row_one fun _ => rfl) (h10.put (k := 0) rfl _)) ?_
  intro w12 h12
  simp only [pu]
  clear h10
  refine wpList_nil ?_
  with_reducible (apply tn; go_at_K; go_step; apply wp_seq_k; intro _ _)
  obtain ⟨n13, hn13⟩ : ∃ n, n = w12.heap.size := ⟨_, rfl⟩
  refine wp_region_anyE (KM w.heap.size n13 w (fun b _ => bif b then [(g11, 40, r64 4 (F4 1)), (g7, 40, r64 4 (F4 (mulP y y))), (g4, 40, r64 4 (F4 x)), (w.heap.size, 40, r64 4 (F4 y))] else [(g11, 40, r64 4 (F4 1)), (g7, 40, r64 4 (F4 (mulP y y))), (g4, 40, r64 4 (F4 0)), (w.heap.size, 40, r64 4 (F4 y))]) 11 1001 []) (fun _ => false) (by kernel_rfl) (KM.begin h12 hn13 (lows hn13 h12 (fun b _ => by cases b <;> simp only [cond_true, cond_false, List.map_cons, List.map_nil])) _) ?_
  refine kA 0 9 (.agg (r64 4 (F4 (mulP y y)))) rfl rfl rfl (fun _ => rfl) (fun qv L wx hk hT => ?_) ?_
  · exact lands_load _ _ rfl _ rfl _ _ _ (hk.blk _ m1) Tryz.underlying40 rfl (fe_size _) hT
  simp only [pu]
  refine kA 1 9 (.agg (r64 4 (F4 1))) rfl rfl rfl (fun _ => rfl) (fun qv L wx hk hT => ?_) ?_
  · exact lands_load _ _ rfl _ rfl _ _ _ (hk.blk _ m0) Tryz.underlying40 rfl (fe_size _) hT
  simp only [pu]
  refine kC 2 rfl (fun wx => rsubP (mulP y y) 1 wx (mulP_lt _ _) (by decide)) ?_
  simp only [pu]
  refine kC 3 rfl (fun wx => rd_any wx) ?_
  simp only [pu]
  refine kA 4 9 (.agg (r64 4 (F4 (mulP y y)))) rfl rfl rfl (fun _ => rfl) (fun qv L wx hk hT => ?_) ?_
  · exact lands_load _ _ rfl _ rfl _ _ _ (hk.blk _ m1) Tryz.underlying40 rfl (fe_size _) hT
  simp only [pu]
  refine kC 5 rfl (fun wx => rmulP dP (mulP y y) wx dP_lt (mulP_lt _ _)) ?_
  simp only [pu]
  refine kA 6 9 (.agg (r64 4 (F4 1))) rfl rfl rfl (fun _ => rfl) (fun qv L wx hk hT => ?_) ?_
  · exact lands_load _ _ rfl _ rfl _ _ _ (hk.blk _ m0) Tryz.underlying40 rfl (fe_size _) hT
  simp only [pu]
  refine kC 7 rfl (fun wx => raddP (mulP dP (mulP y y)) 1 wx (mulP_lt _ _) (by decide)) ?_
  simp only [pu]
  refine kC 8 rfl (fun wx => rroot_is (subP (mulP y y) 1) (addP (mulP dP (mulP y y)) 1) wx (subP_lt _ _) (addP_lt _ _) x b hr) ?_
  simp only [pu]
  refine kV 9 (.agg (r64 4 (F4 x))) rfl ?_
  simp only [pu]
  refine kV 10 (.bool b) rfl ?_
  simp only [pu]
  refine anyE_take (i := 11) undef rfl rfl (by kernel_rfl) (by kernel_rfl) (by kernel_rfl) (fun qv => ym_first (k := 2) _ _ _ (by kernel_rfl) rfl rfl rfl rfl (by kernel_rfl) (by kernel_rfl) (row_one fun _ => rfl) (fun _ => rfl) (fun _ => rfl)) ?_
  simp only [pu]
  refine kV 12 (.bool b) rfl ?_
  simp only [pu]
  refine anyE_done (by kernel_rfl) (fun qv w14 hK => ?_) _
  have hE := hK.outs (by kernel_rfl) (by kernel_rfl)  (b := true) (c := false) (by kernel_rfl) (by kernel_rfl)
  clear hK h12 hn13
  have h14 : KD w.heap.size w [(g11, 40, r64 4 (F4 1)), (g7, 40, r64 4 (F4 (mulP y y))), (g4, 40, r64 4 (F4 x)), (w.heap.size, 40, r64 4 (F4 y))] w14 := hE.k
  clear hE
  clear n13
  clear qv
  with_reducible (apply tn; go_at_K; go_step)
  with_reducible apply wp_ret
  repeat (first | with_reducible apply then_ret | with_reducible apply block_ret)
  exact bodyPost_ret (results_cell_row_slot rfl _ _ g4 40 (r64 4 (F4 x)) (0, 0) _ _ rfl (h14.blk _ m2) Tryz.underlying40 rfl (by kernel_rfl) rfl) rfl ⟨rfl, h14.b⟩
theorem rbase_mul (w : World) : Calls Tryz.prog 72 #[.agg (r64 4 (F4 4)), .agg (r64 4 (F4 (vP 5)))] w fun e w' => e = .returned (.agg (r64 4 (F4 byP))) ∧ Below w.heap.size w w' := by
  have h := rmulP 4 (vP 5) w (by decide) (vP_lt _)
  rwa [by_is] at h
set_option maxRecDepth 100000 in
set_option maxHeartbeats 400000 in
theorem rbase_any (w : World) :
    Calls Tryz.prog 33 #[] w fun e w' => e = .returned (.agg (nums 2 (two bP.x bP.y))) ∧ Below w.heap.size w w' := by
  go_enter Tryz.func33, Tryz.ntmps33
  with_reducible (apply wp_seq_k; intro _ _)
  have h1 := KD.begin w
  with_reducible apply wp_region_lit
  refine wA h1 (alloc_run _ _ rfl zero_pt _) fun w2 h2 => ?_
  simp only [pu]
  clear h1
  refine wpList_nil ?_
  with_reducible (apply tn; go_at_K; go_step; apply wp_seq_k; intro _ _)
  with_reducible apply wp_region_lit
  refine wC h2 (rsmall_nat 4 w2 (by decide)) fun w3 h3 => ?_
  simp only [pu]
  clear h2
  refine wC h3 (rsmall_nat 5 w3 (by decide)) fun w4 h4 => ?_
  simp only [pu]
  clear h3
  refine wC h4 (rinvV 5 w4 (by decide)) fun w5 h5 => ?_
  simp only [pu]
  clear h4
  refine wC h5 (rbase_mul w5) fun w6 h6 => ?_
  simp only [pu]
  clear h5
  refine wA h6 (alloc_run _ _ rfl zero_fe _) fun w7 h7 => ?_
  simp only [pu]
  clear h6
  generalize w6.heap.size = g8 at h7 ⊢
  refine wpList_val (R := KD w.heap.size w [(g8, 40, r64 4 (F4 byP)), (w.heap.size, 42, nums 2 (two 0 0))]) undef rfl (lands_store _ _ _ rfl g8 (r64 4 (F4 byP)) rfl rfl _ _ (h7.blk _ m0) (by kernel_rfl) (by kernel_rfl) (row_one fun _ => rfl) (h7.put (k := 0) rfl _)) ?_
  intro w9 h9
  simp only [pu]
  clear h7
  refine wpList_nil ?_
  with_reducible (apply tn; go_at_K; go_step; apply wp_seq_k; intro _ _)
  with_reducible apply wp_region_lit
  refine wL (.agg (r64 4 (F4 byP))) (by exact lands_load _ _ rfl _ rfl _ _ _ (h9.blk _ m0) Tryz.underlying40 rfl (fe_size _) rfl) ?_
  simp only [pu]
  refine wC h9 (rroot5_any byP byP_lt bxP true root_base w9) fun w10 h10 => ?_
  simp only [pu]
  clear h9
  refine wV (.tuple #[.agg (r64 4 (F4 bxP)), .bool true]) ?_
  simp only [pu]
  refine wV (.agg (r64 4 (F4 bxP))) ?_
  simp only [pu]
  refine wV (.bool true) ?_
  simp only [pu]
  refine wA h10 (alloc_run _ _ rfl zero_fe _) fun w11 h11 => ?_
  simp only [pu]
  clear h10
  generalize w10.heap.size = g12 at h11 ⊢
  refine wpList_val (R := KD w.heap.size w [(g12, 40, r64 4 (F4 bxP)), (g8, 40, r64 4 (F4 byP)), (w.heap.size, 42, nums 2 (two 0 0))]) undef rfl (lands_store _ _ _ rfl g12 (r64 4 (F4 bxP)) rfl rfl _ _ (h11.blk _ m0) (by kernel_rfl) (by kernel_rfl) (row_one fun _ => rfl) (h11.put (k := 0) rfl _)) ?_
  intro w13 h13
  simp only [pu]
  clear h11
  refine wV (.bool true) ?_
  simp only [pu]
  refine wpList_nil ?_
  with_reducible (apply tn; go_at_K; go_step; apply wp_seq_k; intro _ _)
  with_reducible apply wp_region_lit
  refine wL (.agg (r64 4 (F4 bxP))) (by exact lands_load _ _ rfl _ rfl _ _ _ (h13.blk _ m0) Tryz.underlying40 rfl (fe_size _) rfl) ?_
  simp only [pu]
  refine wL (.agg (r64 4 (F4 byP))) (by exact lands_load _ _ rfl _ rfl _ _ _ (h13.blk _ m1) Tryz.underlying40 rfl (fe_size _) rfl) ?_
  simp only [pu]
  refine wL (.agg (nums 2 (two bxP byP))) (by exact lands_built _ _ rfl _ rfl _ (by kernel_rfl) rfl) ?_
  simp only [pu]
  refine wpList_val (R := KD w.heap.size w [(g12, 40, r64 4 (F4 bxP)), (g8, 40, r64 4 (F4 byP)), (w.heap.size, 42, nums 2 (two bxP byP))]) undef rfl (lands_store _ _ _ rfl w.heap.size (nums 2 (two bxP byP)) rfl rfl _ _ (h13.blk _ m2) (by kernel_rfl) (by kernel_rfl) (row_one fun _ => rfl) (h13.put (k := 2) rfl _)) ?_
  intro w14 h14
  simp only [pu]
  clear h13
  refine wpList_nil ?_
  with_reducible (apply tn; go_at_K; go_step)
  with_reducible apply wp_ret
  repeat (first | with_reducible apply then_ret | with_reducible apply block_ret)
  exact bodyPost_ret (results_cell_row rfl _ _ w.heap.size 42 (nums 2 (two bxP byP)) (0, 0) _ rfl (h14.blk _ m2) Tryz.underlying42 rfl (by kernel_rfl)) rfl ⟨rfl, h14.b⟩
end Go.Proofs.YtggalphgnloneaaGreat
