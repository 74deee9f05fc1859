/- The layer point: evenAt, turned. (written by mkQ2.py) -/
import Derived.Test.YtggalphgnloneaaGreatQl
namespace Go.Proofs.YtggalphgnloneaaGreat
open Go.RowKit
set_option maxRecDepth 100000 in
set_option maxHeartbeats 400000 in
theorem qeven_t (y : Nat) (hy : y < M256) (x : Nat) (hr : rV (subP (mulP y y) 1) (addP (mulP dP (mulP y y)) 1) = (x, true)) (w : World) :
    Calls Tryz.prog 51 #[.agg (r64 4 (F4 y))] w fun e w' => e = .returned (.tuple #[.agg (nums 2 (two x y)), .bool true]) ∧ Below w.heap.size w w' := by
  go_enter Tryz.func51, Tryz.ntmps51
  with_reducible (apply wp_seq_k; intro _ _)
  have h1 := KD.begin w
  with_reducible apply wp_region_lit
  refine wA h1 (box_run _ _ _ rfl rfl _) fun w2 h2 => ?_
  simp only [pu]
  clear h1
  refine wA h2 (alloc_run _ _ rfl zero_pt _) fun w3 h3 => ?_
  simp only [pu]
  clear h2
  generalize w2.heap.size = g4 at h3 ⊢
  refine wV (.bool false) ?_
  simp only [pu]
  refine wpList_nil ?_
  with_reducible (apply tn; go_at_K; go_step; apply wp_seq_k; intro _ _)
  with_reducible apply wp_region_lit
  refine wL (.agg (r64 4 (F4 y))) (by exact lands_load _ _ rfl _ rfl _ _ _ (h3.blk _ m1) Tryz.underlying40 rfl (fe_size _) rfl) ?_
  simp only [pu]
  refine wL (.agg (r64 4 (F4 y))) (by exact lands_load _ _ rfl _ rfl _ _ _ (h3.blk _ m1) Tryz.underlying40 rfl (fe_size _) rfl) ?_
  simp only [pu]
  refine wC h3 (fmulP y y w3 hy hy) fun w5 h5 => ?_
  simp only [pu]
  clear h3
  refine wA h5 (alloc_run _ _ rfl zero_fe _) fun w6 h6 => ?_
  simp only [pu]
  clear h5
  generalize w5.heap.size = g7 at h6 ⊢
  refine wpList_val (R := KD w.heap.size w [(g7, 40, r64 4 (F4 (mulP y y))), (g4, 42, nums 2 (two 0 0)), (w.heap.size, 40, r64 4 (F4 y))]) undef rfl (lands_store _ _ _ rfl g7 (r64 4 (F4 (mulP y y))) rfl rfl _ _ (h6.blk _ m0) (by kernel_rfl) (by kernel_rfl) (row_one fun _ => rfl) (h6.put (k := 0) rfl _)) ?_
  intro w8 h8
  simp only [pu]
  clear h6
  refine wpList_nil ?_
  with_reducible (apply tn; go_at_K; go_step; apply wp_seq_k; intro _ _)
  obtain ⟨n9, hn9⟩ : ∃ n, n = w8.heap.size := ⟨_, rfl⟩
  refine wp_region_anyE (KM w.heap.size n9 w (fun _ _ => [(g7, 40, r64 4 (F4 (mulP y y))), (g4, 42, nums 2 (two 0 0)), (w.heap.size, 40, r64 4 (F4 y))]) 1000 1001 [⟨12, 13, 40, r64 4 (F4 0), r64 4 (F4 x), ptr⟩]) (fun i => i == 12) (by kernel_rfl) (KM.begin h8 hn9 (lows hn9 h8 (fun _ _ => rfl)) _) ?_
  refine kW 0 (.agg (r64 4 (F4 (mulP y y)))) rfl (fun qv L wx hT => ?_) ?_
  · exact lands_load _ _ rfl _ rfl _ _ _ (hT.k.blk _ m0) Tryz.underlying40 rfl (fe_size _) hT
  simp only [pu]
  refine kC 1 rfl (fun wx => fsmall1 wx) ?_
  simp only [pu]
  refine kC 2 rfl (fun wx => fsubP (mulP y y) 1 wx (mulP_lt _ _) (by decide)) ?_
  simp only [pu]
  refine kC 3 rfl (fun wx => qd_any wx) ?_
  simp only [pu]
  refine kW 4 (.agg (r64 4 (F4 (mulP y y)))) rfl (fun qv L wx hT => ?_) ?_
  · exact lands_load _ _ rfl _ rfl _ _ _ (hT.k.blk _ m0) Tryz.underlying40 rfl (fe_size _) hT
  simp only [pu]
  refine kC 5 rfl (fun wx => fmulP dP (mulP y y) wx dP_lt (mulP_lt _ _)) ?_
  simp only [pu]
  refine kC 6 rfl (fun wx => fsmall1 wx) ?_
  simp only [pu]
  refine kC 7 rfl (fun wx => faddP (mulP dP (mulP y y)) 1 wx (mulP_lt _ _) (by decide)) ?_
  simp only [pu]
  refine kC 8 rfl (fun wx => froot_is (subP (mulP y y) 1) (addP (mulP dP (mulP y y)) 1) wx (subP_lt _ _) (addP_lt _ _) x true hr) ?_
  simp only [pu]
  refine kV 9 (.tuple #[.agg (r64 4 (F4 x)), .bool true]) rfl ?_
  simp only [pu]
  refine kV 10 (.agg (r64 4 (F4 x))) rfl ?_
  simp only [pu]
  refine kV 11 (.bool true) rfl ?_
  simp only [pu]
  refine anyE_made (i := 12) rfl rfl (by kernel_rfl) (by kernel_rfl) (by kernel_rfl) (fun qv => ym_made (n := 9) ⟨12, 13, 40, r64 4 (F4 0), r64 4 (F4 x), ptr⟩ (by kernel_rfl) m0 (.inl (show waits .any _ 9 13 12 = true from (by kernel_rfl))) rfl (alloc_run _ _ rfl zero_fe)) ?_
  simp only [pu]
  refine anyE_take (i := 13) undef rfl rfl (by kernel_rfl) (by kernel_rfl) (by kernel_rfl) (fun qv => ym_stored ⟨12, 13, 40, r64 4 (F4 0), r64 4 (F4 x), ptr⟩ _ _ _ (by kernel_rfl) m0 rfl (by kernel_rfl) rfl rfl rfl rfl (by kernel_rfl) (by kernel_rfl) (row_one fun _ => rfl)) ?_
  simp only [pu]
  refine kV 14 (.bool true) rfl ?_
  simp only [pu]
  refine anyE_done (by kernel_rfl) (fun qv w10 hK => ?_) _
  have hE := hK.outs (by kernel_rfl) (by kernel_rfl)  (b := false) (c := false) (by kernel_rfl) (by kernel_rfl)
  clear hK h8 hn9
  obtain ⟨g11, eg11, hE'⟩ := hE.next
  clear hE
  replace eg11 : qv 12 = .pointer (some ⟨g11, 0, none⟩) := eg11
  have h10 : KD w.heap.size w [(g11, 40, r64 4 (F4 x)), (g7, 40, r64 4 (F4 (mulP y y))), (g4, 42, nums 2 (two 0 0)), (w.heap.size, 40, r64 4 (F4 y))] w10 := hE'.k
  clear hE'
  clear n9
  rw [eg11]
  clear eg11
  clear qv
  with_reducible (apply tn; go_at_K; go_step; apply wp_seq_k; intro _ _; apply wp_seq_k; intro _ _)
  with_reducible apply wp_region_lit
  refine wV (.bool true) ?_
  simp only [pu]
  refine wV (.bool false) ?_
  simp only [pu]
  refine wpList_nil ?_
  with_reducible (apply tn; go_at_K; go_step)
  refine wp_cond_false rfl ?_
  with_reducible (apply wp_skip; apply tn; go_at_K; go_step; apply wp_seq_k; intro _ _)
  with_reducible apply wp_region_lit
  refine wL (.agg (r64 4 (F4 x))) (by exact lands_load _ _ rfl _ rfl _ _ _ (h10.blk _ m0) Tryz.underlying40 rfl (fe_size _) rfl) ?_
  simp only [pu]
  refine wL (.agg (r64 4 (F4 y))) (by exact lands_load _ _ rfl _ rfl _ _ _ (h10.blk _ m3) Tryz.underlying40 rfl (fe_size _) rfl) ?_
  simp only [pu]
  refine wL (.agg (nums 2 (two x y))) (by exact lands_built _ _ rfl _ rfl _ (by kernel_rfl) rfl) ?_
  simp only [pu]
  refine wpList_val (R := KD w.heap.size w [(g11, 40, r64 4 (F4 x)), (g7, 40, r64 4 (F4 (mulP y y))), (g4, 42, nums 2 (two x y)), (w.heap.size, 40, r64 4 (F4 y))]) undef rfl (lands_store _ _ _ rfl g4 (nums 2 (two x y)) rfl rfl _ _ (h10.blk _ m2) (by kernel_rfl) (by kernel_rfl) (row_one fun _ => rfl) (h10.put (k := 2) rfl _)) ?_
  intro w12 h12
  simp only [pu]
  clear h10
  refine wV (.bool true) ?_
  simp only [pu]
  refine wpList_nil ?_
  with_reducible (apply tn; go_at_K; go_step)
  with_reducible apply wp_ret
  repeat (first | with_reducible apply then_ret | with_reducible apply block_ret)
  exact bodyPost_ret (results_cell_row_slot rfl _ _ g4 42 (nums 2 (two x y)) (0, 0) _ _ rfl (h12.blk _ m2) Tryz.underlying42 rfl (by kernel_rfl) rfl) rfl ⟨rfl, h12.b⟩
set_option maxRecDepth 100000 in
set_option maxHeartbeats 400000 in
theorem qeven_f (y : Nat) (hy : y < M256) (x : Nat) (hr : rV (subP (mulP y y) 1) (addP (mulP dP (mulP y y)) 1) = (x, false)) (w : World) :
    Calls Tryz.prog 51 #[.agg (r64 4 (F4 y))] w fun e w' => e = .returned (.tuple #[.agg (nums 2 (two 0 0)), .bool false]) ∧ Below w.heap.size w w' := by
  go_enter Tryz.func51, Tryz.ntmps51
  with_reducible (apply wp_seq_k; intro _ _)
  have h1 := KD.begin w
  with_reducible apply wp_region_lit
  refine wA h1 (box_run _ _ _ rfl rfl _) fun w2 h2 => ?_
  simp only [pu]
  clear h1
  refine wA h2 (alloc_run _ _ rfl zero_pt _) fun w3 h3 => ?_
  simp only [pu]
  clear h2
  generalize w2.heap.size = g4 at h3 ⊢
  refine wV (.bool false) ?_
  simp only [pu]
  refine wpList_nil ?_
  with_reducible (apply tn; go_at_K; go_step; apply wp_seq_k; intro _ _)
  with_reducible apply wp_region_lit
  refine wL (.agg (r64 4 (F4 y))) (by exact lands_load _ _ rfl _ rfl _ _ _ (h3.blk _ m1) Tryz.underlying40 rfl (fe_size _) rfl) ?_
  simp only [pu]
  refine wL (.agg (r64 4 (F4 y))) (by exact lands_load _ _ rfl _ rfl _ _ _ (h3.blk _ m1) Tryz.underlying40 rfl (fe_size _) rfl) ?_
  simp only [pu]
  refine wC h3 (fmulP y y w3 hy hy) fun w5 h5 => ?_
  simp only [pu]
  clear h3
  refine wA h5 (alloc_run _ _ rfl zero_fe _) fun w6 h6 => ?_
  simp only [pu]
  clear h5
  generalize w5.heap.size = g7 at h6 ⊢
  refine wpList_val (R := KD w.heap.size w [(g7, 40, r64 4 (F4 (mulP y y))), (g4, 42, nums 2 (two 0 0)), (w.heap.size, 40, r64 4 (F4 y))]) undef rfl (lands_store _ _ _ rfl g7 (r64 4 (F4 (mulP y y))) rfl rfl _ _ (h6.blk _ m0) (by kernel_rfl) (by kernel_rfl) (row_one fun _ => rfl) (h6.put (k := 0) rfl _)) ?_
  intro w8 h8
  simp only [pu]
  clear h6
  refine wpList_nil ?_
  with_reducible (apply tn; go_at_K; go_step; apply wp_seq_k; intro _ _)
  obtain ⟨n9, hn9⟩ : ∃ n, n = w8.heap.size := ⟨_, rfl⟩
  refine wp_region_anyE (KM w.heap.size n9 w (fun _ _ => [(g7, 40, r64 4 (F4 (mulP y y))), (g4, 42, nums 2 (two 0 0)), (w.heap.size, 40, r64 4 (F4 y))]) 1000 1001 [⟨12, 13, 40, r64 4 (F4 0), r64 4 (F4 x), ptr⟩]) (fun i => i == 12) (by kernel_rfl) (KM.begin h8 hn9 (lows hn9 h8 (fun _ _ => rfl)) _) ?_
  refine kW 0 (.agg (r64 4 (F4 (mulP y y)))) rfl (fun qv L wx hT => ?_) ?_
  · exact lands_load _ _ rfl _ rfl _ _ _ (hT.k.blk _ m0) Tryz.underlying40 rfl (fe_size _) hT
  simp only [pu]
  refine kC 1 rfl (fun wx => fsmall1 wx) ?_
  simp only [pu]
  refine kC 2 rfl (fun wx => fsubP (mulP y y) 1 wx (mulP_lt _ _) (by decide)) ?_
  simp only [pu]
  refine kC 3 rfl (fun wx => qd_any wx) ?_
  simp only [pu]
  refine kW 4 (.agg (r64 4 (F4 (mulP y y)))) rfl (fun qv L wx hT => ?_) ?_
  · exact lands_load _ _ rfl _ rfl _ _ _ (hT.k.blk _ m0) Tryz.underlying40 rfl (fe_size _) hT
  simp only [pu]
  refine kC 5 rfl (fun wx => fmulP dP (mulP y y) wx dP_lt (mulP_lt _ _)) ?_
  simp only [pu]
  refine kC 6 rfl (fun wx => fsmall1 wx) ?_
  simp only [pu]
  refine kC 7 rfl (fun wx => faddP (mulP dP (mulP y y)) 1 wx (mulP_lt _ _) (by decide)) ?_
  simp only [pu]
  refine kC 8 rfl (fun wx => froot_is (subP (mulP y y) 1) (addP (mulP dP (mulP y y)) 1) wx (subP_lt _ _) (addP_lt _ _) x false hr) ?_
  simp only [pu]
  refine kV 9 (.tuple #[.agg (r64 4 (F4 x)), .bool false]) rfl ?_
  simp only [pu]
  refine kV 10 (.agg (r64 4 (F4 x))) rfl ?_
  simp only [pu]
  refine kV 11 (.bool false) rfl ?_
  simp only [pu]
  refine anyE_made (i := 12) rfl rfl (by kernel_rfl) (by kernel_rfl) (by kernel_rfl) (fun qv => ym_made (n := 9) ⟨12, 13, 40, r64 4 (F4 0), r64 4 (F4 x), ptr⟩ (by kernel_rfl) m0 (.inl (show waits .any _ 9 13 12 = true from (by kernel_rfl))) rfl (alloc_run _ _ rfl zero_fe)) ?_
  simp only [pu]
  refine anyE_take (i := 13) undef rfl rfl (by kernel_rfl) (by kernel_rfl) (by kernel_rfl) (fun qv => ym_stored ⟨12, 13, 40, r64 4 (F4 0), r64 4 (F4 x), ptr⟩ _ _ _ (by kernel_rfl) m0 rfl (by kernel_rfl) rfl rfl rfl rfl (by kernel_rfl) (by kernel_rfl) (row_one fun _ => rfl)) ?_
  simp only [pu]
  refine kV 14 (.bool false) rfl ?_
  simp only [pu]
  refine anyE_done (by kernel_rfl) (fun qv w10 hK => ?_) _
  have hE := hK.outs (by kernel_rfl) (by kernel_rfl)  (b := false) (c := false) (by kernel_rfl) (by kernel_rfl)
  clear hK h8 hn9
  obtain ⟨g11, eg11, hE'⟩ := hE.next
  clear hE
  replace eg11 : qv 12 = .pointer (some ⟨g11, 0, none⟩) := eg11
  have h10 : KD w.heap.size w [(g11, 40, r64 4 (F4 x)), (g7, 40, r64 4 (F4 (mulP y y))), (g4, 42, nums 2 (two 0 0)), (w.heap.size, 40, r64 4 (F4 y))] w10 := hE'.k
  clear hE'
  clear n9
  rw [eg11]
  clear eg11
  clear qv
  with_reducible (apply tn; go_at_K; go_step; apply wp_seq_k; intro _ _; apply wp_seq_k; intro _ _)
  with_reducible apply wp_region_lit
  refine wV (.bool false) ?_
  simp only [pu]
  refine wV (.bool true) ?_
  simp only [pu]
  refine wpList_nil ?_
  with_reducible (apply tn; go_at_K; go_step)
  refine wp_cond_true rfl ?_
  with_reducible (apply wp_seq_k; intro _ _)
  with_reducible apply wp_region_lit
  refine wL (.agg (nums 2 (two 0 0))) (by exact lands_built _ _ rfl _ rfl _ (by kernel_rfl) rfl) ?_
  simp only [pu]
  refine wpList_val (R := KD w.heap.size w [(g11, 40, r64 4 (F4 x)), (g7, 40, r64 4 (F4 (mulP y y))), (g4, 42, nums 2 (two 0 0)), (w.heap.size, 40, r64 4 (F4 y))]) undef rfl (lands_store _ _ _ rfl g4 (nums 2 (two 0 0)) rfl rfl _ _ (h10.blk _ m2) (by kernel_rfl) (by kernel_rfl) (row_one fun _ => rfl) (h10.put (k := 2) rfl _)) ?_
  intro w12 h12
  simp only [pu]
  clear h10
  refine wV (.bool false) ?_
  simp only [pu]
  refine wpList_nil ?_
  with_reducible (apply tn; go_at_K; go_step)
  with_reducible apply wp_ret
  repeat (first | with_reducible apply then_ret | with_reducible apply block_ret)
  exact bodyPost_ret (results_cell_row_slot rfl _ _ g4 42 (nums 2 (two 0 0)) (0, 0) _ _ rfl (h12.blk _ m2) Tryz.underlying42 rfl (by kernel_rfl) rfl) rfl ⟨rfl, h12.b⟩
theorem pneg_ok {P : Pt} (h : P.ok) : (pneg P).ok := ⟨negP_lt _, h.y⟩
theorem qneg_on (P : Pt) (h : onC P) (w : World) : Calls Tryz.prog 29 #[.agg (nums 2 (two P.x P.y))] w fun e w' => e = .returned (.agg (nums 2 (two (pneg P).x (pneg P).y))) ∧ Below w.heap.size w w' := by
  have h1 := qneg_any P h.ok.x h.ok.y w
  rwa [cnt_on (onB_C.2 h)] at h1
set_option maxRecDepth 100000 in
set_option maxHeartbeats 400000 in
theorem qturned_t (P : Pt) (hC : onC P) (hP : P.ok) (hb : eqP (pneg P) P = true) (w : World) :
    Calls Tryz.prog 53 #[.agg (nums 2 (two P.x P.y))] w fun e w' => e = .returned (.tuple #[.agg (nums 2 (two 0 0)), .bool false]) ∧ Below w.heap.size w w' := by
  have hx := hP.x
  have hy := hP.y
  go_enter Tryz.func53, Tryz.ntmps53
  with_reducible (apply wp_seq_k; intro _ _)
  have h1 := KD.begin w
  with_reducible apply wp_region_lit
  refine wA h1 (box_run _ _ _ rfl rfl _) fun w2 h2 => ?_
  simp only [pu]
  clear h1
  refine wA h2 (alloc_run _ _ rfl zero_pt _) fun w3 h3 => ?_
  simp only [pu]
  clear h2
  generalize w2.heap.size = g4 at h3 ⊢
  refine wV (.bool false) ?_
  simp only [pu]
  refine wpList_nil ?_
  with_reducible (apply tn; go_at_K; go_step; apply wp_seq_k; intro _ _)
  with_reducible apply wp_region_lit
  refine wL (.agg (nums 2 (two P.x P.y))) (by exact lands_load _ _ rfl _ rfl _ _ _ (h3.blk _ m1) Tryz.underlying42 rfl (by kernel_rfl) rfl) ?_
  simp only [pu]
  refine wC h3 (qneg_on P hC w3) fun w5 h5 => ?_
  simp only [pu]
  clear h3
  refine wA h5 (alloc_run _ _ rfl zero_pt _) fun w6 h6 => ?_
  simp only [pu]
  clear h5
  generalize w5.heap.size = g7 at h6 ⊢
  refine wpList_val (R := KD w.heap.size w [(g7, 42, nums 2 (two ((pneg P).x) ((pneg P).y))), (g4, 42, nums 2 (two 0 0)), (w.heap.size, 42, nums 2 (two P.x P.y))]) undef rfl (lands_store _ _ _ rfl g7 (nums 2 (two ((pneg P).x) ((pneg P).y))) rfl rfl _ _ (h6.blk _ m0) (by kernel_rfl) (by kernel_rfl) (row_one fun _ => rfl) (h6.put (k := 0) rfl _)) ?_
  intro w8 h8
  simp only [pu]
  clear h6
  refine wpList_nil ?_
  with_reducible (apply tn; go_at_K; go_step; apply wp_seq_k; intro _ _; apply wp_seq_k; intro _ _)
  with_reducible apply wp_region_lit
  refine wL (.agg (nums 2 (two ((pneg P).x) ((pneg P).y)))) (by exact lands_load _ _ rfl _ rfl _ _ _ (h8.blk _ m0) Tryz.underlying42 rfl (by kernel_rfl) rfl) ?_
  simp only [pu]
  refine wL (.agg (nums 2 (two P.x P.y))) (by exact lands_load _ _ rfl _ rfl _ _ _ (h8.blk _ m2) Tryz.underlying42 rfl (by kernel_rfl) rfl) ?_
  simp only [pu]
  refine wL (.bool true) (by exact lands_eqlP _ _ rfl (pneg P) P rfl rfl (pneg_ok hP) hP true hb rfl) ?_
  simp only [pu]
  refine wpList_nil ?_
  with_reducible (apply tn; go_at_K; go_step)
  refine wp_cond_true rfl ?_
  with_reducible (apply wp_seq_k; intro _ _)
  with_reducible apply wp_region_lit
  refine wL (.agg (nums 2 (two 0 0))) (by exact lands_built _ _ rfl _ rfl _ (by kernel_rfl) rfl) ?_
  simp only [pu]
  refine wpList_val (R := KD w.heap.size w [(g7, 42, nums 2 (two ((pneg P).x) ((pneg P).y))), (g4, 42, nums 2 (two 0 0)), (w.heap.size, 42, nums 2 (two P.x P.y))]) undef rfl (lands_store _ _ _ rfl g4 (nums 2 (two 0 0)) rfl rfl _ _ (h8.blk _ m1) (by kernel_rfl) (by kernel_rfl) (row_one fun _ => rfl) (h8.put (k := 1) rfl _)) ?_
  intro w9 h9
  simp only [pu]
  clear h8
  refine wV (.bool false) ?_
  simp only [pu]
  refine wpList_nil ?_
  with_reducible (apply tn; go_at_K; go_step)
  with_reducible apply wp_ret
  repeat (first | with_reducible apply then_ret | with_reducible apply block_ret)
  exact bodyPost_ret (results_cell_row_slot rfl _ _ g4 42 (nums 2 (two 0 0)) (0, 0) _ _ rfl (h9.blk _ m1) Tryz.underlying42 rfl (by kernel_rfl) rfl) rfl ⟨rfl, h9.b⟩
set_option maxRecDepth 100000 in
set_option maxHeartbeats 400000 in
theorem qturned_f (P : Pt) (hC : onC P) (hP : P.ok) (hb : eqP (pneg P) P = false) (w : World) :
    Calls Tryz.prog 53 #[.agg (nums 2 (two P.x P.y))] w fun e w' => e = .returned (.tuple #[.agg (nums 2 (two (pneg P).x (pneg P).y)), .bool true]) ∧ Below w.heap.size w w' := by
  have hx := hP.x
  have hy := hP.y
  go_enter Tryz.func53, Tryz.ntmps53
  with_reducible (apply wp_seq_k; intro _ _)
  have h1 := KD.begin w
  with_reducible apply wp_region_lit
  refine wA h1 (box_run _ _ _ rfl rfl _) fun w2 h2 => ?_
  simp only [pu]
  clear h1
  refine wA h2 (alloc_run _ _ rfl zero_pt _) fun w3 h3 => ?_
  simp only [pu]
  clear h2
  generalize w2.heap.size = g4 at h3 ⊢
  refine wV (.bool false) ?_
  simp only [pu]
  refine wpList_nil ?_
  with_reducible (apply tn; go_at_K; go_step; apply wp_seq_k; intro _ _)
  with_reducible apply wp_region_lit
  refine wL (.agg (nums 2 (two P.x P.y))) (by exact lands_load _ _ rfl _ rfl _ _ _ (h3.blk _ m1) Tryz.underlying42 rfl (by kernel_rfl) rfl) ?_
  simp only [pu]
  refine wC h3 (qneg_on P hC w3) fun w5 h5 => ?_
  simp only [pu]
  clear h3
  refine wA h5 (alloc_run _ _ rfl zero_pt _) fun w6 h6 => ?_
  simp only [pu]
  clear h5
  generalize w5.heap.size = g7 at h6 ⊢
  refine wpList_val (R := KD w.heap.size w [(g7, 42, nums 2 (two ((pneg P).x) ((pneg P).y))), (g4, 42, nums 2 (two 0 0)), (w.heap.size, 42, nums 2 (two P.x P.y))]) undef rfl (lands_store _ _ _ rfl g7 (nums 2 (two ((pneg P).x) ((pneg P).y))) rfl rfl _ _ (h6.blk _ m0) (by kernel_rfl) (by kernel_rfl) (row_one fun _ => rfl) (h6.put (k := 0) rfl _)) ?_
  intro w8 h8
  simp only [pu]
  clear h6
  refine wpList_nil ?_
  with_reducible (apply tn; go_at_K; go_step; apply wp_seq_k; intro _ _; apply wp_seq_k; intro _ _)
  with_reducible apply wp_region_lit
  refine wL (.agg (nums 2 (two ((pneg P).x) ((pneg P).y)))) (by exact lands_load _ _ rfl _ rfl _ _ _ (h8.blk _ m0) Tryz.underlying42 rfl (by kernel_rfl) rfl) ?_
  simp only [pu]
  refine wL (.agg (nums 2 (two P.x P.y))) (by exact lands_load _ _ rfl _ rfl _ _ _ (h8.blk _ m2) Tryz.underlying42 rfl (by kernel_rfl) rfl) ?_
  simp only [pu]
  refine wL (.bool false) (by exact lands_eqlP _ _ rfl (pneg P) P rfl rfl (pneg_ok hP) hP false hb rfl) ?_
  simp only [pu]
  refine wpList_nil ?_
  with_reducible (apply tn; go_at_K; go_step)
  refine wp_cond_false rfl ?_
  with_reducible (apply wp_skip; apply tn; go_at_K; go_step; apply wp_seq_k; intro _ _)
  with_reducible apply wp_region_lit
  refine wL (.agg (nums 2 (two ((pneg P).x) ((pneg P).y)))) (by exact lands_load _ _ rfl _ rfl _ _ _ (h8.blk _ m0) Tryz.underlying42 rfl (by kernel_rfl) rfl) ?_
  simp only [pu]
  refine wpList_val (R := KD w.heap.size w [(g7, 42, nums 2 (two ((pneg P).x) ((pneg P).y))), (g4, 42, nums 2 (two ((pneg P).x) ((pneg P).y))), (w.heap.size, 42, nums 2 (two P.x P.y))]) undef rfl (lands_store _ _ _ rfl g4 (nums 2 (two ((pneg P).x) ((pneg P).y))) rfl rfl _ _ (h8.blk _ m1) (by kernel_rfl) (by kernel_rfl) (row_one fun _ => rfl) (h8.put (k := 1) rfl _)) ?_
  intro w9 h9
  simp only [pu]
  clear h8
  refine wV (.bool true) ?_
  simp only [pu]
  refine wpList_nil ?_
  with_reducible (apply tn; go_at_K; go_step)
  with_reducible apply wp_ret
  repeat (first | with_reducible apply then_ret | with_reducible apply block_ret)
  exact bodyPost_ret (results_cell_row_slot rfl _ _ g4 42 (nums 2 (two ((pneg P).x) ((pneg P).y))) (0, 0) _ _ rfl (h9.blk _ m1) Tryz.underlying42 rfl (by kernel_rfl) rfl) rfl ⟨rfl, h9.b⟩
end Go.Proofs.YtggalphgnloneaaGreat
