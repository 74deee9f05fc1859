/- The layer point: D, Zero, Base, On, counted; a point in reckoning; Add, Neg. (written by mkQ.py) -/
import Derived.Test.YtggalphgnloneaaGreatQa
namespace Go.Proofs.YtggalphgnloneaaGreat
open Go.RowKit
set_option maxRecDepth 100000 in
set_option maxHeartbeats 400000 in
theorem qd_any (w : World) :
    Calls Tryz.prog 92 #[] w fun e w' => e = .returned (.agg (r64 4 (F4 dP))) ∧ Below w.heap.size w w' := by
  go_enter Tryz.func92, Tryz.ntmps92
  with_reducible (apply wp_seq_k; intro _ _)
  have h1 := KD.begin w
  with_reducible apply wp_region_lit
  refine wA h1 (alloc_run _ _ rfl zero_fe _) fun w2 h2 => ?_
  simp only [pu]
  clear h1
  refine wpList_nil ?_
  with_reducible (apply tn; go_at_K; go_step; apply wp_seq_k; intro _ _)
  with_reducible apply wp_region_lit
  refine wL (.agg (r64 4 (F4 dP))) (by exact lands_built _ _ rfl _ rfl _ (by kernel_rfl) rfl) ?_
  simp only [pu]
  refine wpList_val (R := KD w.heap.size w [(w.heap.size, 40, r64 4 (F4 dP))]) undef rfl (lands_store _ _ _ rfl w.heap.size (r64 4 (F4 dP)) rfl rfl _ _ (h2.blk _ m0) (by kernel_rfl) (by kernel_rfl) (row_one fun _ => rfl) (h2.put (k := 0) rfl _)) ?_
  intro w3 h3
  simp only [pu]
  clear h2
  refine wpList_nil ?_
  with_reducible (apply tn; go_at_K; go_step)
  with_reducible apply wp_ret
  repeat (first | with_reducible apply then_ret | with_reducible apply block_ret)
  exact bodyPost_ret (results_cell_row rfl _ _ w.heap.size 40 (r64 4 (F4 dP)) (0, 0) _ rfl (h3.blk _ m0) Tryz.underlying40 rfl (by kernel_rfl)) rfl ⟨rfl, h3.b⟩
set_option maxRecDepth 100000 in
set_option maxHeartbeats 400000 in
theorem qzero_any (w : World) :
    Calls Tryz.prog 94 #[] w fun e w' => e = .returned (.agg (nums 2 (two pZ.x pZ.y))) ∧ Below w.heap.size w w' := by
  go_enter Tryz.func94, Tryz.ntmps94
  with_reducible (apply wp_seq_k; intro _ _)
  have h1 := KD.begin w
  with_reducible apply wp_region_lit
  refine wA h1 (alloc_run _ _ rfl zero_pt _) fun w2 h2 => ?_
  simp only [pu]
  clear h1
  refine wpList_nil ?_
  with_reducible (apply tn; go_at_K; go_step; apply wp_seq_k; intro _ _)
  with_reducible apply wp_region_lit
  refine wC h2 (fsmall1 w2) fun w3 h3 => ?_
  simp only [pu]
  clear h2
  refine wL (.agg (nums 2 (two 0 1))) (by exact lands_built _ _ rfl _ rfl _ (by kernel_rfl) rfl) ?_
  simp only [pu]
  refine wpList_val (R := KD w.heap.size w [(w.heap.size, 42, nums 2 (two 0 1))]) undef rfl (lands_store _ _ _ rfl w.heap.size (nums 2 (two 0 1)) rfl rfl _ _ (h3.blk _ m0) (by kernel_rfl) (by kernel_rfl) (row_one fun _ => rfl) (h3.put (k := 0) rfl _)) ?_
  intro w4 h4
  simp only [pu]
  clear h3
  refine wpList_nil ?_
  with_reducible (apply tn; go_at_K; go_step)
  with_reducible apply wp_ret
  repeat (first | with_reducible apply then_ret | with_reducible apply block_ret)
  exact bodyPost_ret (results_cell_row rfl _ _ w.heap.size 42 (nums 2 (two 0 1)) (0, 0) _ rfl (h4.blk _ m0) Tryz.underlying42 rfl (by kernel_rfl)) rfl ⟨rfl, h4.b⟩
set_option maxRecDepth 100000 in
set_option maxHeartbeats 400000 in
theorem qbase_any (w : World) :
    Calls Tryz.prog 28 #[] w fun e w' => e = .returned (.agg (nums 2 (two bP.x bP.y))) ∧ Below w.heap.size w w' := by
  go_enter Tryz.func28, Tryz.ntmps28
  with_reducible (apply wp_seq_k; intro _ _)
  have h1 := KD.begin w
  with_reducible apply wp_region_lit
  refine wA h1 (alloc_run _ _ rfl zero_pt _) fun w2 h2 => ?_
  simp only [pu]
  clear h1
  refine wpList_nil ?_
  with_reducible (apply tn; go_at_K; go_step; apply wp_seq_k; intro _ _)
  with_reducible apply wp_region_lit
  refine wL (.agg (r64 4 (F4 bxP))) (by exact lands_built _ _ rfl _ rfl _ (by kernel_rfl) rfl) ?_
  simp only [pu]
  refine wL (.agg (r64 4 (F4 byP))) (by exact lands_built _ _ rfl _ rfl _ (by kernel_rfl) rfl) ?_
  simp only [pu]
  refine wL (.agg (nums 2 (two bxP byP))) (by exact lands_built _ _ rfl _ rfl _ (by kernel_rfl) rfl) ?_
  simp only [pu]
  refine wpList_val (R := KD w.heap.size w [(w.heap.size, 42, nums 2 (two bxP byP))]) undef rfl (lands_store _ _ _ rfl w.heap.size (nums 2 (two bxP byP)) rfl rfl _ _ (h2.blk _ m0) (by kernel_rfl) (by kernel_rfl) (row_one fun _ => rfl) (h2.put (k := 0) rfl _)) ?_
  intro w3 h3
  simp only [pu]
  clear h2
  refine wpList_nil ?_
  with_reducible (apply tn; go_at_K; go_step)
  with_reducible apply wp_ret
  repeat (first | with_reducible apply then_ret | with_reducible apply block_ret)
  exact bodyPost_ret (results_cell_row rfl _ _ w.heap.size 42 (nums 2 (two bxP byP)) (0, 0) _ rfl (h3.blk _ m0) Tryz.underlying42 rfl (by kernel_rfl)) rfl ⟨rfl, h3.b⟩
set_option maxRecDepth 100000 in
set_option maxHeartbeats 400000 in
theorem qon_f1 (P : Pt) (hx : P.x < M256) (hy : P.y < M256) (hrx : ¬ P.x % pP = P.x) (w : World) :
    Calls Tryz.prog 93 #[.agg (nums 2 (two P.x P.y))] w fun e w' => e = .returned (.bool false) ∧ Below w.heap.size w w' := by
  go_enter Tryz.func93, Tryz.ntmps93
  with_reducible (apply wp_seq_k; intro _ _)
  have h1 := KD.begin w
  with_reducible apply wp_region_lit
  refine wA h1 (box_run _ _ _ rfl rfl _) fun w2 h2 => ?_
  simp only [pu]
  clear h1
  refine wV (.bool false) ?_
  simp only [pu]
  refine wpList_nil ?_
  with_reducible (apply tn; go_at_K; go_step; apply wp_seq_k; intro _ _)
  obtain ⟨n3, hn3⟩ : ∃ n, n = w2.heap.size := ⟨_, rfl⟩
  refine wp_region_anyE (KM w.heap.size n3 w (fun _ _ => [(w.heap.size, 42, nums 2 (two P.x P.y))]) 1000 1001 [⟨10, 12, 40, r64 4 (F4 0), r64 4 (F4 (mulP P.x P.x)), ptr⟩, ⟨11, 13, 40, r64 4 (F4 0), r64 4 (F4 (mulP P.y P.y)), ptr⟩]) (fun i => i == 10 || i == 11) (by kernel_rfl) (KM.begin h2 hn3 (lows hn3 h2 (fun _ _ => rfl)) _) ?_
  refine kV 0 (.pointer (some ⟨w.heap.size, 0, none⟩)) rfl ?_
  simp only [pu]
  refine kW 1 (.agg (r64 4 (F4 P.x))) rfl (fun qv L wx hT => ?_) ?_
  · exact lands_num 0 _ _ rfl _ 2 _ rfl _ (hT.k.blk _ m0) (by decide) _ Tryz.underlying40 rfl (by kernel_rfl) hT
  simp only [pu]
  refine kV 2 (.pointer (some ⟨w.heap.size, 0, none⟩)) rfl ?_
  simp only [pu]
  refine kW 3 (.agg (r64 4 (F4 P.x))) rfl (fun qv L wx hT => ?_) ?_
  · exact lands_num 0 _ _ rfl _ 2 _ rfl _ (hT.k.blk _ m0) (by decide) _ Tryz.underlying40 rfl (by kernel_rfl) hT
  simp only [pu]
  refine kC 4 rfl (fun wx => fmulP P.x P.x wx hx hx) ?_
  simp only [pu]
  refine kV 5 (.pointer (some ⟨w.heap.size, 4, none⟩)) rfl ?_
  simp only [pu]
  refine kW 6 (.agg (r64 4 (F4 P.y))) rfl (fun qv L wx hT => ?_) ?_
  · exact lands_num 1 _ _ rfl _ 2 _ rfl _ (hT.k.blk _ m0) (by decide) _ Tryz.underlying40 rfl (by kernel_rfl) hT
  simp only [pu]
  refine kV 7 (.pointer (some ⟨w.heap.size, 4, none⟩)) rfl ?_
  simp only [pu]
  refine kW 8 (.agg (r64 4 (F4 P.y))) rfl (fun qv L wx hT => ?_) ?_
  · exact lands_num 1 _ _ rfl _ 2 _ rfl _ (hT.k.blk _ m0) (by decide) _ Tryz.underlying40 rfl (by kernel_rfl) hT
  simp only [pu]
  refine kC 9 rfl (fun wx => fmulP P.y P.y wx hy hy) ?_
  simp only [pu]
  refine anyE_made (i := 10) rfl rfl (by kernel_rfl) (by kernel_rfl) (by kernel_rfl) (fun qv => ym_made (n := 9) ⟨10, 12, 40, r64 4 (F4 0), r64 4 (F4 (mulP P.x P.x)), ptr⟩ (by kernel_rfl) m0 (.inl (show waits .any _ 9 12 10 = true from (by kernel_rfl))) rfl (alloc_run _ _ rfl zero_fe)) ?_
  simp only [pu]
  refine anyE_made (i := 11) rfl rfl (by kernel_rfl) (by kernel_rfl) (by kernel_rfl) (fun qv => ym_made (n := 9) ⟨11, 13, 40, r64 4 (F4 0), r64 4 (F4 (mulP P.y P.y)), ptr⟩ (by kernel_rfl) m1 (.inl (show waits .any _ 9 13 11 = true from (by kernel_rfl))) rfl (alloc_run _ _ rfl zero_fe)) ?_
  simp only [pu]
  refine anyE_take (i := 12) undef rfl rfl (by kernel_rfl) (by kernel_rfl) (by kernel_rfl) (fun qv => ym_stored ⟨10, 12, 40, r64 4 (F4 0), r64 4 (F4 (mulP P.x P.x)), ptr⟩ _ _ _ (by kernel_rfl) m0 rfl (by kernel_rfl) rfl rfl rfl rfl (by kernel_rfl) (by kernel_rfl) (row_one fun _ => rfl)) ?_
  simp only [pu]
  refine anyE_take (i := 13) undef rfl rfl (by kernel_rfl) (by kernel_rfl) (by kernel_rfl) (fun qv => ym_stored ⟨11, 13, 40, r64 4 (F4 0), r64 4 (F4 (mulP P.y P.y)), ptr⟩ _ _ _ (by kernel_rfl) m1 rfl (by kernel_rfl) rfl rfl rfl rfl (by kernel_rfl) (by kernel_rfl) (row_one fun _ => rfl)) ?_
  simp only [pu]
  refine anyE_done (by kernel_rfl) (fun qv w4 hK => ?_) _
  have hE := hK.outs (by kernel_rfl) (by kernel_rfl)  (b := false) (c := false) (by kernel_rfl) (by kernel_rfl)
  clear hK h2 hn3
  obtain ⟨g5, eg5, hE'⟩ := hE.next
  clear hE
  replace eg5 : qv 10 = .pointer (some ⟨g5, 0, none⟩) := eg5
  obtain ⟨g6, eg6, hE''⟩ := hE'.next
  clear hE'
  replace eg6 : qv 11 = .pointer (some ⟨g6, 0, none⟩) := eg6
  have h4 : KD w.heap.size w [(g6, 40, r64 4 (F4 (mulP P.y P.y))), (g5, 40, r64 4 (F4 (mulP P.x P.x))), (w.heap.size, 42, nums 2 (two P.x P.y))] w4 := hE''.k
  clear hE''
  clear n3
  rw [eg5, eg6]
  clear eg5 eg6
  clear qv
  with_reducible (apply tn; go_at_K; go_step; apply wp_seq_k; intro _ _)
  obtain ⟨n7, hn7⟩ : ∃ n, n = w4.heap.size := ⟨_, rfl⟩
  refine wp_region_anyE (KM w.heap.size n7 w (fun _ _ => [(g6, 40, r64 4 (F4 (mulP P.y P.y))), (g5, 40, r64 4 (F4 (mulP P.x P.x))), (w.heap.size, 42, nums 2 (two P.x P.y))]) 1000 1001 [⟨7, 8, 40, r64 4 (F4 0), r64 4 (F4 (addP 1 (mulP dP (mulP (mulP P.x P.x) (mulP P.y P.y))))), ptr⟩]) (fun i => i == 7) (by kernel_rfl) (KM.begin h4 hn7 (lows hn7 h4 (fun _ _ => rfl)) _) ?_
  refine kC 0 rfl (fun wx => fsmall1 wx) ?_
  simp only [pu]
  refine kC 1 rfl (fun wx => qd_any wx) ?_
  simp only [pu]
  refine kW 2 (.agg (r64 4 (F4 (mulP P.x P.x)))) rfl (fun qv L wx hT => ?_) ?_
  · exact lands_load _ _ rfl _ rfl _ _ _ (hT.k.blk _ m1) Tryz.underlying40 rfl (fe_size _) hT
  simp only [pu]
  refine kW 3 (.agg (r64 4 (F4 (mulP P.y P.y)))) rfl (fun qv L wx hT => ?_) ?_
  · exact lands_load _ _ rfl _ rfl _ _ _ (hT.k.blk _ m0) Tryz.underlying40 rfl (fe_size _) hT
  simp only [pu]
  refine kC 4 rfl (fun wx => fmulP (mulP P.x P.x) (mulP P.y P.y) wx (mulP_lt _ _) (mulP_lt _ _)) ?_
  simp only [pu]
  refine kC 5 rfl (fun wx => fmulP dP (mulP (mulP P.x P.x) (mulP P.y P.y)) wx dP_lt (mulP_lt _ _)) ?_
  simp only [pu]
  refine kC 6 rfl (fun wx => faddP 1 (mulP dP (mulP (mulP P.x P.x) (mulP P.y P.y))) wx (by decide) (mulP_lt _ _)) ?_
  simp only [pu]
  refine anyE_made (i := 7) rfl rfl (by kernel_rfl) (by kernel_rfl) (by kernel_rfl) (fun qv => ym_made (n := 9) ⟨7, 8, 40, r64 4 (F4 0), r64 4 (F4 (addP 1 (mulP dP (mulP (mulP P.x P.x) (mulP P.y P.y))))), ptr⟩ (by kernel_rfl) m0 (.inl (show waits .any _ 9 8 7 = true from (by kernel_rfl))) rfl (alloc_run _ _ rfl zero_fe)) ?_
  simp only [pu]
  refine anyE_take (i := 8) undef rfl rfl (by kernel_rfl) (by kernel_rfl) (by kernel_rfl) (fun qv => ym_stored ⟨7, 8, 40, r64 4 (F4 0), r64 4 (F4 (addP 1 (mulP dP (mulP (mulP P.x P.x) (mulP P.y P.y))))), ptr⟩ _ _ _ (by kernel_rfl) m0 rfl (by kernel_rfl) rfl rfl rfl rfl (by kernel_rfl) (by kernel_rfl) (row_one fun _ => rfl)) ?_
  simp only [pu]
  refine anyE_done (by kernel_rfl) (fun qv w8 hK => ?_) _
  have hE := hK.outs (by kernel_rfl) (by kernel_rfl)  (b := false) (c := false) (by kernel_rfl) (by kernel_rfl)
  clear hK h4 hn7
  obtain ⟨g9, eg9, hE'⟩ := hE.next
  clear hE
  replace eg9 : qv 7 = .pointer (some ⟨g9, 0, none⟩) := eg9
  have h8 : KD w.heap.size w [(g9, 40, r64 4 (F4 (addP 1 (mulP dP (mulP (mulP P.x P.x) (mulP P.y P.y)))))), (g6, 40, r64 4 (F4 (mulP P.y P.y))), (g5, 40, r64 4 (F4 (mulP P.x P.x))), (w.heap.size, 42, nums 2 (two P.x P.y))] w8 := hE'.k
  clear hE'
  clear n7
  rw [eg9]
  clear eg9
  clear qv
  with_reducible (apply tn; go_at_K; go_step; apply wp_seq_k; intro _ _)
  obtain ⟨n10, hn10⟩ : ∃ n, n = w8.heap.size := ⟨_, rfl⟩
  refine wp_region_anyE (KM w.heap.size n10 w (fun _ _ => [(g9, 40, r64 4 (F4 (addP 1 (mulP dP (mulP (mulP P.x P.x) (mulP P.y P.y)))))), (g6, 40, r64 4 (F4 (mulP P.y P.y))), (g5, 40, r64 4 (F4 (mulP P.x P.x))), (w.heap.size, 42, nums 2 (two P.x P.y))]) 1000 1001 []) (fun _ => false) (by kernel_rfl) (KM.begin h8 hn10 (lows hn10 h8 (fun _ _ => rfl)) _) ?_
  refine kV 0 (.pointer (some ⟨w.heap.size, 0, none⟩)) rfl ?_
  simp only [pu]
  refine kW 1 (.agg (r64 4 (F4 P.x))) rfl (fun qv L wx hT => ?_) ?_
  · exact lands_num 0 _ _ rfl _ 2 _ rfl _ (hT.k.blk _ m3) (by decide) _ Tryz.underlying40 rfl (by kernel_rfl) hT
  simp only [pu]
  refine kC 2 rfl (fun wx => fright_false P.x wx hx hrx) ?_
  simp only [pu]
  refine kV 3 (.bool false) rfl ?_
  simp only [pu]
  refine anyE_take (i := 4) undef rfl rfl (by kernel_rfl) (by kernel_rfl) (by kernel_rfl) (fun qv => ym_skip rfl rfl) ?_
  simp only [pu]
  refine anyE_take (i := 5) undef rfl rfl (by kernel_rfl) (by kernel_rfl) (by kernel_rfl) (fun qv => ym_skip rfl rfl) ?_
  simp only [pu]
  refine anyE_take (i := 6) undef rfl rfl (by kernel_rfl) (by kernel_rfl) (by kernel_rfl) (fun qv => ym_skip rfl rfl) ?_
  simp only [pu]
  refine kV 7 (.bool false) rfl ?_
  simp only [pu]
  refine kV 8 (.bool false) rfl ?_
  simp only [pu]
  refine anyE_take (i := 9) undef rfl rfl (by kernel_rfl) (by kernel_rfl) (by kernel_rfl) (fun qv => ym_skip rfl rfl) ?_
  simp only [pu]
  refine anyE_take (i := 10) undef rfl rfl (by kernel_rfl) (by kernel_rfl) (by kernel_rfl) (fun qv => ym_skip rfl rfl) ?_
  simp only [pu]
  refine anyE_take (i := 11) undef rfl rfl (by kernel_rfl) (by kernel_rfl) (by kernel_rfl) (fun qv => ym_skip rfl rfl) ?_
  simp only [pu]
  refine anyE_take (i := 12) undef rfl rfl (by kernel_rfl) (by kernel_rfl) (by kernel_rfl) (fun qv => ym_skip rfl rfl) ?_
  simp only [pu]
  refine anyE_take (i := 13) undef rfl rfl (by kernel_rfl) (by kernel_rfl) (by kernel_rfl) (fun qv => ym_skip rfl rfl) ?_
  simp only [pu]
  refine kV 14 (.bool false) rfl ?_
  simp only [pu]
  refine kV 15 (.bool false) rfl ?_
  simp only [pu]
  refine anyE_done (by kernel_rfl) (fun qv w11 hK => ?_) _
  have hE := hK.outs (by kernel_rfl) (by kernel_rfl)  (b := false) (c := false) (by kernel_rfl) (by kernel_rfl)
  clear hK h8 hn10
  have h11 : KD w.heap.size w [(g9, 40, r64 4 (F4 (addP 1 (mulP dP (mulP (mulP P.x P.x) (mulP P.y P.y)))))), (g6, 40, r64 4 (F4 (mulP P.y P.y))), (g5, 40, r64 4 (F4 (mulP P.x P.x))), (w.heap.size, 42, nums 2 (two P.x P.y))] w11 := hE.k
  clear hE
  clear n10
  clear qv
  with_reducible (apply tn; go_at_K; go_step)
  with_reducible apply wp_ret
  repeat (first | with_reducible apply then_ret | with_reducible apply block_ret)
  exact bodyPost_ret (results_tmp rfl _ _ _) rfl ⟨rfl, h11.b⟩
set_option maxRecDepth 100000 in
set_option maxHeartbeats 400000 in
theorem qon_f2 (P : Pt) (hx : P.x < M256) (hy : P.y < M256) (hrx : P.x % pP = P.x) (hry : ¬ P.y % pP = P.y) (w : World) :
    Calls Tryz.prog 93 #[.agg (nums 2 (two P.x P.y))] w fun e w' => e = .returned (.bool false) ∧ Below w.heap.size w w' := by
  go_enter Tryz.func93, Tryz.ntmps93
  with_reducible (apply wp_seq_k; intro _ _)
  have h1 := KD.begin w
  with_reducible apply wp_region_lit
  refine wA h1 (box_run _ _ _ rfl rfl _) fun w2 h2 => ?_
  simp only [pu]
  clear h1
  refine wV (.bool false) ?_
  simp only [pu]
  refine wpList_nil ?_
  with_reducible (apply tn; go_at_K; go_step; apply wp_seq_k; intro _ _)
  obtain ⟨n3, hn3⟩ : ∃ n, n = w2.heap.size := ⟨_, rfl⟩
  refine wp_region_anyE (KM w.heap.size n3 w (fun _ _ => [(w.heap.size, 42, nums 2 (two P.x P.y))]) 1000 1001 [⟨10, 12, 40, r64 4 (F4 0), r64 4 (F4 (mulP P.x P.x)), ptr⟩, ⟨11, 13, 40, r64 4 (F4 0), r64 4 (F4 (mulP P.y P.y)), ptr⟩]) (fun i => i == 10 || i == 11) (by kernel_rfl) (KM.begin h2 hn3 (lows hn3 h2 (fun _ _ => rfl)) _) ?_
  refine kV 0 (.pointer (some ⟨w.heap.size, 0, none⟩)) rfl ?_
  simp only [pu]
  refine kW 1 (.agg (r64 4 (F4 P.x))) rfl (fun qv L wx hT => ?_) ?_
  · exact lands_num 0 _ _ rfl _ 2 _ rfl _ (hT.k.blk _ m0) (by decide) _ Tryz.underlying40 rfl (by kernel_rfl) hT
  simp only [pu]
  refine kV 2 (.pointer (some ⟨w.heap.size, 0, none⟩)) rfl ?_
  simp only [pu]
  refine kW 3 (.agg (r64 4 (F4 P.x))) rfl (fun qv L wx hT => ?_) ?_
  · exact lands_num 0 _ _ rfl _ 2 _ rfl _ (hT.k.blk _ m0) (by decide) _ Tryz.underlying40 rfl (by kernel_rfl) hT
  simp only [pu]
  refine kC 4 rfl (fun wx => fmulP P.x P.x wx hx hx) ?_
  simp only [pu]
  refine kV 5 (.pointer (some ⟨w.heap.size, 4, none⟩)) rfl ?_
  simp only [pu]
  refine kW 6 (.agg (r64 4 (F4 P.y))) rfl (fun qv L wx hT => ?_) ?_
  · exact lands_num 1 _ _ rfl _ 2 _ rfl _ (hT.k.blk _ m0) (by decide) _ Tryz.underlying40 rfl (by kernel_rfl) hT
  simp only [pu]
  refine kV 7 (.pointer (some ⟨w.heap.size, 4, none⟩)) rfl ?_
  simp only [pu]
  refine kW 8 (.agg (r64 4 (F4 P.y))) rfl (fun qv L wx hT => ?_) ?_
  · exact lands_num 1 _ _ rfl _ 2 _ rfl _ (hT.k.blk _ m0) (by decide) _ Tryz.underlying40 rfl (by kernel_rfl) hT
  simp only [pu]
  refine kC 9 rfl (fun wx => fmulP P.y P.y wx hy hy) ?_
  simp only [pu]
  refine anyE_made (i := 10) rfl rfl (by kernel_rfl) (by kernel_rfl) (by kernel_rfl) (fun qv => ym_made (n := 9) ⟨10, 12, 40, r64 4 (F4 0), r64 4 (F4 (mulP P.x P.x)), ptr⟩ (by kernel_rfl) m0 (.inl (show waits .any _ 9 12 10 = true from (by kernel_rfl))) rfl (alloc_run _ _ rfl zero_fe)) ?_
  simp only [pu]
  refine anyE_made (i := 11) rfl rfl (by kernel_rfl) (by kernel_rfl) (by kernel_rfl) (fun qv => ym_made (n := 9) ⟨11, 13, 40, r64 4 (F4 0), r64 4 (F4 (mulP P.y P.y)), ptr⟩ (by kernel_rfl) m1 (.inl (show waits .any _ 9 13 11 = true from (by kernel_rfl))) rfl (alloc_run _ _ rfl zero_fe)) ?_
  simp only [pu]
  refine anyE_take (i := 12) undef rfl rfl (by kernel_rfl) (by kernel_rfl) (by kernel_rfl) (fun qv => ym_stored ⟨10, 12, 40, r64 4 (F4 0), r64 4 (F4 (mulP P.x P.x)), ptr⟩ _ _ _ (by kernel_rfl) m0 rfl (by kernel_rfl) rfl rfl rfl rfl (by kernel_rfl) (by kernel_rfl) (row_one fun _ => rfl)) ?_
  simp only [pu]
  refine anyE_take (i := 13) undef rfl rfl (by kernel_rfl) (by kernel_rfl) (by kernel_rfl) (fun qv => ym_stored ⟨11, 13, 40, r64 4 (F4 0), r64 4 (F4 (mulP P.y P.y)), ptr⟩ _ _ _ (by kernel_rfl) m1 rfl (by kernel_rfl) rfl rfl rfl rfl (by kernel_rfl) (by kernel_rfl) (row_one fun _ => rfl)) ?_
  simp only [pu]
  refine anyE_done (by kernel_rfl) (fun qv w4 hK => ?_) _
  have hE := hK.outs (by kernel_rfl) (by kernel_rfl)  (b := false) (c := false) (by kernel_rfl) (by kernel_rfl)
  clear hK h2 hn3
  obtain ⟨g5, eg5, hE'⟩ := hE.next
  clear hE
  replace eg5 : qv 10 = .pointer (some ⟨g5, 0, none⟩) := eg5
  obtain ⟨g6, eg6, hE''⟩ := hE'.next
  clear hE'
  replace eg6 : qv 11 = .pointer (some ⟨g6, 0, none⟩) := eg6
  have h4 : KD w.heap.size w [(g6, 40, r64 4 (F4 (mulP P.y P.y))), (g5, 40, r64 4 (F4 (mulP P.x P.x))), (w.heap.size, 42, nums 2 (two P.x P.y))] w4 := hE''.k
  clear hE''
  clear n3
  rw [eg5, eg6]
  clear eg5 eg6
  clear qv
  with_reducible (apply tn; go_at_K; go_step; apply wp_seq_k; intro _ _)
  obtain ⟨n7, hn7⟩ : ∃ n, n = w4.heap.size := ⟨_, rfl⟩
  refine wp_region_anyE (KM w.heap.size n7 w (fun _ _ => [(g6, 40, r64 4 (F4 (mulP P.y P.y))), (g5, 40, r64 4 (F4 (mulP P.x P.x))), (w.heap.size, 42, nums 2 (two P.x P.y))]) 1000 1001 [⟨7, 8, 40, r64 4 (F4 0), r64 4 (F4 (addP 1 (mulP dP (mulP (mulP P.x P.x) (mulP P.y P.y))))), ptr⟩]) (fun i => i == 7) (by kernel_rfl) (KM.begin h4 hn7 (lows hn7 h4 (fun _ _ => rfl)) _) ?_
  refine kC 0 rfl (fun wx => fsmall1 wx) ?_
  simp only [pu]
  refine kC 1 rfl (fun wx => qd_any wx) ?_
  simp only [pu]
  refine kW 2 (.agg (r64 4 (F4 (mulP P.x P.x)))) rfl (fun qv L wx hT => ?_) ?_
  · exact lands_load _ _ rfl _ rfl _ _ _ (hT.k.blk _ m1) Tryz.underlying40 rfl (fe_size _) hT
  simp only [pu]
  refine kW 3 (.agg (r64 4 (F4 (mulP P.y P.y)))) rfl (fun qv L wx hT => ?_) ?_
  · exact lands_load _ _ rfl _ rfl _ _ _ (hT.k.blk _ m0) Tryz.underlying40 rfl (fe_size _) hT
  simp only [pu]
  refine kC 4 rfl (fun wx => fmulP (mulP P.x P.x) (mulP P.y P.y) wx (mulP_lt _ _) (mulP_lt _ _)) ?_
  simp only [pu]
  refine kC 5 rfl (fun wx => fmulP dP (mulP (mulP P.x P.x) (mulP P.y P.y)) wx dP_lt (mulP_lt _ _)) ?_
  simp only [pu]
  refine kC 6 rfl (fun wx => faddP 1 (mulP dP (mulP (mulP P.x P.x) (mulP P.y P.y))) wx (by decide) (mulP_lt _ _)) ?_
  simp only [pu]
  refine anyE_made (i := 7) rfl rfl (by kernel_rfl) (by kernel_rfl) (by kernel_rfl) (fun qv => ym_made (n := 9) ⟨7, 8, 40, r64 4 (F4 0), r64 4 (F4 (addP 1 (mulP dP (mulP (mulP P.x P.x) (mulP P.y P.y))))), ptr⟩ (by kernel_rfl) m0 (.inl (show waits .any _ 9 8 7 = true from (by kernel_rfl))) rfl (alloc_run _ _ rfl zero_fe)) ?_
  simp only [pu]
  refine anyE_take (i := 8) undef rfl rfl (by kernel_rfl) (by kernel_rfl) (by kernel_rfl) (fun qv => ym_stored ⟨7, 8, 40, r64 4 (F4 0), r64 4 (F4 (addP 1 (mulP dP (mulP (mulP P.x P.x) (mulP P.y P.y))))), ptr⟩ _ _ _ (by kernel_rfl) m0 rfl (by kernel_rfl) rfl rfl rfl rfl (by kernel_rfl) (by kernel_rfl) (row_one fun _ => rfl)) ?_
  simp only [pu]
  refine anyE_done (by kernel_rfl) (fun qv w8 hK => ?_) _
  have hE := hK.outs (by kernel_rfl) (by kernel_rfl)  (b := false) (c := false) (by kernel_rfl) (by kernel_rfl)
  clear hK h4 hn7
  obtain ⟨g9, eg9, hE'⟩ := hE.next
  clear hE
  replace eg9 : qv 7 = .pointer (some ⟨g9, 0, none⟩) := eg9
  have h8 : KD w.heap.size w [(g9, 40, r64 4 (F4 (addP 1 (mulP dP (mulP (mulP P.x P.x) (mulP P.y P.y)))))), (g6, 40, r64 4 (F4 (mulP P.y P.y))), (g5, 40, r64 4 (F4 (mulP P.x P.x))), (w.heap.size, 42, nums 2 (two P.x P.y))] w8 := hE'.k
  clear hE'
  clear n7
  rw [eg9]
  clear eg9
  clear qv
  with_reducible (apply tn; go_at_K; go_step; apply wp_seq_k; intro _ _)
  obtain ⟨n10, hn10⟩ : ∃ n, n = w8.heap.size := ⟨_, rfl⟩
  refine wp_region_anyE (KM w.heap.size n10 w (fun _ _ => [(g9, 40, r64 4 (F4 (addP 1 (mulP dP (mulP (mulP P.x P.x) (mulP P.y P.y)))))), (g6, 40, r64 4 (F4 (mulP P.y P.y))), (g5, 40, r64 4 (F4 (mulP P.x P.x))), (w.heap.size, 42, nums 2 (two P.x P.y))]) 1000 1001 []) (fun _ => false) (by kernel_rfl) (KM.begin h8 hn10 (lows hn10 h8 (fun _ _ => rfl)) _) ?_
  refine kV 0 (.pointer (some ⟨w.heap.size, 0, none⟩)) rfl ?_
  simp only [pu]
  refine kW 1 (.agg (r64 4 (F4 P.x))) rfl (fun qv L wx hT => ?_) ?_
  · exact lands_num 0 _ _ rfl _ 2 _ rfl _ (hT.k.blk _ m3) (by decide) _ Tryz.underlying40 rfl (by kernel_rfl) hT
  simp only [pu]
  refine kC 2 rfl (fun wx => fright_true P.x wx hx hrx) ?_
  simp only [pu]
  refine kV 3 (.bool true) rfl ?_
  simp only [pu]
  refine kV 4 (.pointer (some ⟨w.heap.size, 4, none⟩)) rfl ?_
  simp only [pu]
  refine kW 5 (.agg (r64 4 (F4 P.y))) rfl (fun qv L wx hT => ?_) ?_
  · exact lands_num 1 _ _ rfl _ 2 _ rfl _ (hT.k.blk _ m3) (by decide) _ Tryz.underlying40 rfl (by kernel_rfl) hT
  simp only [pu]
  refine kC 6 rfl (fun wx => fright_false P.y wx hy hry) ?_
  simp only [pu]
  refine kV 7 (.bool false) rfl ?_
  simp only [pu]
  refine kV 8 (.bool false) rfl ?_
  simp only [pu]
  refine anyE_take (i := 9) undef rfl rfl (by kernel_rfl) (by kernel_rfl) (by kernel_rfl) (fun qv => ym_skip rfl rfl) ?_
  simp only [pu]
  refine anyE_take (i := 10) undef rfl rfl (by kernel_rfl) (by kernel_rfl) (by kernel_rfl) (fun qv => ym_skip rfl rfl) ?_
  simp only [pu]
  refine anyE_take (i := 11) undef rfl rfl (by kernel_rfl) (by kernel_rfl) (by kernel_rfl) (fun qv => ym_skip rfl rfl) ?_
  simp only [pu]
  refine anyE_take (i := 12) undef rfl rfl (by kernel_rfl) (by kernel_rfl) (by kernel_rfl) (fun qv => ym_skip rfl rfl) ?_
  simp only [pu]
  refine anyE_take (i := 13) undef rfl rfl (by kernel_rfl) (by kernel_rfl) (by kernel_rfl) (fun qv => ym_skip rfl rfl) ?_
  simp only [pu]
  refine kV 14 (.bool false) rfl ?_
  simp only [pu]
  refine kV 15 (.bool false) rfl ?_
  simp only [pu]
  refine anyE_done (by kernel_rfl) (fun qv w11 hK => ?_) _
  have hE := hK.outs (by kernel_rfl) (by kernel_rfl)  (b := false) (c := false) (by kernel_rfl) (by kernel_rfl)
  clear hK h8 hn10
  have h11 : KD w.heap.size w [(g9, 40, r64 4 (F4 (addP 1 (mulP dP (mulP (mulP P.x P.x) (mulP P.y P.y)))))), (g6, 40, r64 4 (F4 (mulP P.y P.y))), (g5, 40, r64 4 (F4 (mulP P.x P.x))), (w.heap.size, 42, nums 2 (two P.x P.y))] w11 := hE.k
  clear hE
  clear n10
  clear qv
  with_reducible (apply tn; go_at_K; go_step)
  with_reducible apply wp_ret
  repeat (first | with_reducible apply then_ret | with_reducible apply block_ret)
  exact bodyPost_ret (results_tmp rfl _ _ _) rfl ⟨rfl, h11.b⟩
set_option maxRecDepth 100000 in
set_option maxHeartbeats 400000 in
theorem qon_t (P : Pt) (hx : P.x < M256) (hy : P.y < M256) (hrx : P.x % pP = P.x) (hry : P.y % pP = P.y) (c : Bool) (hc : decide (subP (mulP P.y P.y) (mulP P.x P.x) = addP 1 (mulP dP (mulP (mulP P.x P.x) (mulP P.y P.y)))) = c) (w : World) :
    Calls Tryz.prog 93 #[.agg (nums 2 (two P.x P.y))] w fun e w' => e = .returned (.bool c) ∧ Below w.heap.size w w' := by
  go_enter Tryz.func93, Tryz.ntmps93
  with_reducible (apply wp_seq_k; intro _ _)
  have h1 := KD.begin w
  with_reducible apply wp_region_lit
  refine wA h1 (box_run _ _ _ rfl rfl _) fun w2 h2 => ?_
  simp only [pu]
  clear h1
  refine wV (.bool false) ?_
  simp only [pu]
  refine wpList_nil ?_
  with_reducible (apply tn; go_at_K; go_step; apply wp_seq_k; intro _ _)
  obtain ⟨n3, hn3⟩ : ∃ n, n = w2.heap.size := ⟨_, rfl⟩
  refine wp_region_anyE (KM w.heap.size n3 w (fun _ _ => [(w.heap.size, 42, nums 2 (two P.x P.y))]) 1000 1001 [⟨10, 12, 40, r64 4 (F4 0), r64 4 (F4 (mulP P.x P.x)), ptr⟩, ⟨11, 13, 40, r64 4 (F4 0), r64 4 (F4 (mulP P.y P.y)), ptr⟩]) (fun i => i == 10 || i == 11) (by kernel_rfl) (KM.begin h2 hn3 (lows hn3 h2 (fun _ _ => rfl)) _) ?_
  refine kV 0 (.pointer (some ⟨w.heap.size, 0, none⟩)) rfl ?_
  simp only [pu]
  refine kW 1 (.agg (r64 4 (F4 P.x))) rfl (fun qv L wx hT => ?_) ?_
  · exact lands_num 0 _ _ rfl _ 2 _ rfl _ (hT.k.blk _ m0) (by decide) _ Tryz.underlying40 rfl (by kernel_rfl) hT
  simp only [pu]
  refine kV 2 (.pointer (some ⟨w.heap.size, 0, none⟩)) rfl ?_
  simp only [pu]
  refine kW 3 (.agg (r64 4 (F4 P.x))) rfl (fun qv L wx hT => ?_) ?_
  · exact lands_num 0 _ _ rfl _ 2 _ rfl _ (hT.k.blk _ m0) (by decide) _ Tryz.underlying40 rfl (by kernel_rfl) hT
  simp only [pu]
  refine kC 4 rfl (fun wx => fmulP P.x P.x wx hx hx) ?_
  simp only [pu]
  refine kV 5 (.pointer (some ⟨w.heap.size, 4, none⟩)) rfl ?_
  simp only [pu]
  refine kW 6 (.agg (r64 4 (F4 P.y))) rfl (fun qv L wx hT => ?_) ?_
  · exact lands_num 1 _ _ rfl _ 2 _ rfl _ (hT.k.blk _ m0) (by decide) _ Tryz.underlying40 rfl (by kernel_rfl) hT
  simp only [pu]
  refine kV 7 (.pointer (some ⟨w.heap.size, 4, none⟩)) rfl ?_
  simp only [pu]
  refine kW 8 (.agg (r64 4 (F4 P.y))) rfl (fun qv L wx hT => ?_) ?_
  · exact lands_num 1 _ _ rfl _ 2 _ rfl _ (hT.k.blk _ m0) (by decide) _ Tryz.underlying40 rfl (by kernel_rfl) hT
  simp only [pu]
  refine kC 9 rfl (fun wx => fmulP P.y P.y wx hy hy) ?_
  simp only [pu]
  refine anyE_made (i := 10) rfl rfl (by kernel_rfl) (by kernel_rfl) (by kernel_rfl) (fun qv => ym_made (n := 9) ⟨10, 12, 40, r64 4 (F4 0), r64 4 (F4 (mulP P.x P.x)), ptr⟩ (by kernel_rfl) m0 (.inl (show waits .any _ 9 12 10 = true from (by kernel_rfl))) rfl (alloc_run _ _ rfl zero_fe)) ?_
  simp only [pu]
  refine anyE_made (i := 11) rfl rfl (by kernel_rfl) (by kernel_rfl) (by kernel_rfl) (fun qv => ym_made (n := 9) ⟨11, 13, 40, r64 4 (F4 0), r64 4 (F4 (mulP P.y P.y)), ptr⟩ (by kernel_rfl) m1 (.inl (show waits .any _ 9 13 11 = true from (by kernel_rfl))) rfl (alloc_run _ _ rfl zero_fe)) ?_
  simp only [pu]
  refine anyE_take (i := 12) undef rfl rfl (by kernel_rfl) (by kernel_rfl) (by kernel_rfl) (fun qv => ym_stored ⟨10, 12, 40, r64 4 (F4 0), r64 4 (F4 (mulP P.x P.x)), ptr⟩ _ _ _ (by kernel_rfl) m0 rfl (by kernel_rfl) rfl rfl rfl rfl (by kernel_rfl) (by kernel_rfl) (row_one fun _ => rfl)) ?_
  simp only [pu]
  refine anyE_take (i := 13) undef rfl rfl (by kernel_rfl) (by kernel_rfl) (by kernel_rfl) (fun qv => ym_stored ⟨11, 13, 40, r64 4 (F4 0), r64 4 (F4 (mulP P.y P.y)), ptr⟩ _ _ _ (by kernel_rfl) m1 rfl (by kernel_rfl) rfl rfl rfl rfl (by kernel_rfl) (by kernel_rfl) (row_one fun _ => rfl)) ?_
  simp only [pu]
  refine anyE_done (by kernel_rfl) (fun qv w4 hK => ?_) _
  have hE := hK.outs (by kernel_rfl) (by kernel_rfl)  (b := false) (c := false) (by kernel_rfl) (by kernel_rfl)
  clear hK h2 hn3
  obtain ⟨g5, eg5, hE'⟩ := hE.next
  clear hE
  replace eg5 : qv 10 = .pointer (some ⟨g5, 0, none⟩) := eg5
  obtain ⟨g6, eg6, hE''⟩ := hE'.next
  clear hE'
  replace eg6 : qv 11 = .pointer (some ⟨g6, 0, none⟩) := eg6
  have h4 : KD w.heap.size w [(g6, 40, r64 4 (F4 (mulP P.y P.y))), (g5, 40, r64 4 (F4 (mulP P.x P.x))), (w.heap.size, 42, nums 2 (two P.x P.y))] w4 := hE''.k
  clear hE''
  clear n3
  rw [eg5, eg6]
  clear eg5 eg6
  clear qv
  with_reducible (apply tn; go_at_K; go_step; apply wp_seq_k; intro _ _)
  obtain ⟨n7, hn7⟩ : ∃ n, n = w4.heap.size := ⟨_, rfl⟩
  refine wp_region_anyE (KM w.heap.size n7 w (fun _ _ => [(g6, 40, r64 4 (F4 (mulP P.y P.y))), (g5, 40, r64 4 (F4 (mulP P.x P.x))), (w.heap.size, 42, nums 2 (two P.x P.y))]) 1000 1001 [⟨7, 8, 40, r64 4 (F4 0), r64 4 (F4 (addP 1 (mulP dP (mulP (mulP P.x P.x) (mulP P.y P.y))))), ptr⟩]) (fun i => i == 7) (by kernel_rfl) (KM.begin h4 hn7 (lows hn7 h4 (fun _ _ => rfl)) _) ?_
  refine kC 0 rfl (fun wx => fsmall1 wx) ?_
  simp only [pu]
  refine kC 1 rfl (fun wx => qd_any wx) ?_
  simp only [pu]
  refine kW 2 (.agg (r64 4 (F4 (mulP P.x P.x)))) rfl (fun qv L wx hT => ?_) ?_
  · exact lands_load _ _ rfl _ rfl _ _ _ (hT.k.blk _ m1) Tryz.underlying40 rfl (fe_size _) hT
  simp only [pu]
  refine kW 3 (.agg (r64 4 (F4 (mulP P.y P.y)))) rfl (fun qv L wx hT => ?_) ?_
  · exact lands_load _ _ rfl _ rfl _ _ _ (hT.k.blk _ m0) Tryz.underlying40 rfl (fe_size _) hT
  simp only [pu]
  refine kC 4 rfl (fun wx => fmulP (mulP P.x P.x) (mulP P.y P.y) wx (mulP_lt _ _) (mulP_lt _ _)) ?_
  simp only [pu]
  refine kC 5 rfl (fun wx => fmulP dP (mulP (mulP P.x P.x) (mulP P.y P.y)) wx dP_lt (mulP_lt _ _)) ?_
  simp only [pu]
  refine kC 6 rfl (fun wx => faddP 1 (mulP dP (mulP (mulP P.x P.x) (mulP P.y P.y))) wx (by decide) (mulP_lt _ _)) ?_
  simp only [pu]
  refine anyE_made (i := 7) rfl rfl (by kernel_rfl) (by kernel_rfl) (by kernel_rfl) (fun qv => ym_made (n := 9) ⟨7, 8, 40, r64 4 (F4 0), r64 4 (F4 (addP 1 (mulP dP (mulP (mulP P.x P.x) (mulP P.y P.y))))), ptr⟩ (by kernel_rfl) m0 (.inl (show waits .any _ 9 8 7 = true from (by kernel_rfl))) rfl (alloc_run _ _ rfl zero_fe)) ?_
  simp only [pu]
  refine anyE_take (i := 8) undef rfl rfl (by kernel_rfl) (by kernel_rfl) (by kernel_rfl) (fun qv => ym_stored ⟨7, 8, 40, r64 4 (F4 0), r64 4 (F4 (addP 1 (mulP dP (mulP (mulP P.x P.x) (mulP P.y P.y))))), ptr⟩ _ _ _ (by kernel_rfl) m0 rfl (by kernel_rfl) rfl rfl rfl rfl (by kernel_rfl) (by kernel_rfl) (row_one fun _ => rfl)) ?_
  simp only [pu]
  refine anyE_done (by kernel_rfl) (fun qv w8 hK => ?_) _
  have hE := hK.outs (by kernel_rfl) (by kernel_rfl)  (b := false) (c := false) (by kernel_rfl) (by kernel_rfl)
  clear hK h4 hn7
  obtain ⟨g9, eg9, hE'⟩ := hE.next
  clear hE
  replace eg9 : qv 7 = .pointer (some ⟨g9, 0, none⟩) := eg9
  have h8 : KD w.heap.size w [(g9, 40, r64 4 (F4 (addP 1 (mulP dP (mulP (mulP P.x P.x) (mulP P.y P.y)))))), (g6, 40, r64 4 (F4 (mulP P.y P.y))), (g5, 40, r64 4 (F4 (mulP P.x P.x))), (w.heap.size, 42, nums 2 (two P.x P.y))] w8 := hE'.k
  clear hE'
  clear n7
  rw [eg9]
  clear eg9
  clear qv
  with_reducible (apply tn; go_at_K; go_step; apply wp_seq_k; intro _ _)
  obtain ⟨n10, hn10⟩ : ∃ n, n = w8.heap.size := ⟨_, rfl⟩
  refine wp_region_anyE (KM w.heap.size n10 w (fun _ _ => [(g9, 40, r64 4 (F4 (addP 1 (mulP dP (mulP (mulP P.x P.x) (mulP P.y P.y)))))), (g6, 40, r64 4 (F4 (mulP P.y P.y))), (g5, 40, r64 4 (F4 (mulP P.x P.x))), (w.heap.size, 42, nums 2 (two P.x P.y))]) 1000 1001 []) (fun _ => false) (by kernel_rfl) (KM.begin h8 hn10 (lows hn10 h8 (fun _ _ => rfl)) _) ?_
  refine kV 0 (.pointer (some ⟨w.heap.size, 0, none⟩)) rfl ?_
  simp only [pu]
  refine kW 1 (.agg (r64 4 (F4 P.x))) rfl (fun qv L wx hT => ?_) ?_
  · exact lands_num 0 _ _ rfl _ 2 _ rfl _ (hT.k.blk _ m3) (by decide) _ Tryz.underlying40 rfl (by kernel_rfl) hT
  simp only [pu]
  refine kC 2 rfl (fun wx => fright_true P.x wx hx hrx) ?_
  simp only [pu]
  refine kV 3 (.bool true) rfl ?_
  simp only [pu]
  refine kV 4 (.pointer (some ⟨w.heap.size, 4, none⟩)) rfl ?_
  simp only [pu]
  refine kW 5 (.agg (r64 4 (F4 P.y))) rfl (fun qv L wx hT => ?_) ?_
  · exact lands_num 1 _ _ rfl _ 2 _ rfl _ (hT.k.blk _ m3) (by decide) _ Tryz.underlying40 rfl (by kernel_rfl) hT
  simp only [pu]
  refine kC 6 rfl (fun wx => fright_true P.y wx hy hry) ?_
  simp only [pu]
  refine kV 7 (.bool true) rfl ?_
  simp only [pu]
  refine kV 8 (.bool true) rfl ?_
  simp only [pu]
  refine kW 9 (.agg (r64 4 (F4 (mulP P.y P.y)))) rfl (fun qv L wx hT => ?_) ?_
  · exact lands_load _ _ rfl _ rfl _ _ _ (hT.k.blk _ m1) Tryz.underlying40 rfl (fe_size _) hT
  simp only [pu]
  refine kW 10 (.agg (r64 4 (F4 (mulP P.x P.x)))) rfl (fun qv L wx hT => ?_) ?_
  · exact lands_load _ _ rfl _ rfl _ _ _ (hT.k.blk _ m2) Tryz.underlying40 rfl (fe_size _) hT
  simp only [pu]
  refine kC 11 rfl (fun wx => fsubP (mulP P.y P.y) (mulP P.x P.x) wx (mulP_lt _ _) (mulP_lt _ _)) ?_
  simp only [pu]
  refine kW 12 (.agg (r64 4 (F4 (addP 1 (mulP dP (mulP (mulP P.x P.x) (mulP P.y P.y))))))) rfl (fun qv L wx hT => ?_) ?_
  · exact lands_load _ _ rfl _ rfl _ _ _ (hT.k.blk _ m0) Tryz.underlying40 rfl (fe_size _) hT
  simp only [pu]
  refine kW 13 (.bool c) rfl (fun qv L wx hT => ?_) ?_
  · exact lands_eql _ _ rfl (subP (mulP P.y P.y) (mulP P.x P.x)) (addP 1 (mulP dP (mulP (mulP P.x P.x) (mulP P.y P.y)))) rfl rfl (subP_lt _ _) (addP_lt _ _) c hc hT
  simp only [pu]
  refine kV 14 (.bool c) rfl ?_
  simp only [pu]
  refine kV 15 (.bool c) rfl ?_
  simp only [pu]
  refine anyE_done (by kernel_rfl) (fun qv w11 hK => ?_) _
  have hE := hK.outs (by kernel_rfl) (by kernel_rfl)  (b := false) (c := false) (by kernel_rfl) (by kernel_rfl)
  clear hK h8 hn10
  have h11 : KD w.heap.size w [(g9, 40, r64 4 (F4 (addP 1 (mulP dP (mulP (mulP P.x P.x) (mulP P.y P.y)))))), (g6, 40, r64 4 (F4 (mulP P.y P.y))), (g5, 40, r64 4 (F4 (mulP P.x P.x))), (w.heap.size, 42, nums 2 (two P.x P.y))] w11 := hE.k
  clear hE
  clear n10
  clear qv
  with_reducible (apply tn; go_at_K; go_step)
  with_reducible apply wp_ret
  repeat (first | with_reducible apply then_ret | with_reducible apply block_ret)
  exact bodyPost_ret (results_tmp rfl _ _ _) rfl ⟨rfl, h11.b⟩
theorem qon_any (P : Pt) (hx : P.x < M256) (hy : P.y < M256) (w : World) :
    Calls Tryz.prog 93 #[.agg (nums 2 (two P.x P.y))] w fun e w' => e = .returned (.bool (onB P)) ∧ Below w.heap.size w w' := by
  unfold onB
  by_cases h1 : P.x % pP = P.x
  · by_cases h2 : P.y % pP = P.y
    · rw [decide_eq_true h1, decide_eq_true h2, Bool.true_and, Bool.true_and]; exact qon_t P hx hy h1 h2 _ rfl w
    · rw [decide_eq_false h2, Bool.and_false, Bool.false_and]; exact qon_f2 P hx hy h1 h2 w
  · rw [decide_eq_false h1, Bool.false_and, Bool.false_and]; exact qon_f1 P hx hy h1 w
theorem qon_is (P : Pt) (hx : P.x < M256) (hy : P.y < M256) (b : Bool) (h : onB P = b) (w : World) :
    Calls Tryz.prog 93 #[.agg (nums 2 (two P.x P.y))] w fun e w' => e = .returned (.bool b) ∧ Below w.heap.size w w' := h ▸ qon_any P hx hy w
set_option maxRecDepth 100000 in
set_option maxHeartbeats 400000 in
theorem qcounted_t (P : Pt) (hx : P.x < M256) (hy : P.y < M256) (ho : onB P = true) (w : World) :
    Calls Tryz.prog 54 #[.agg (nums 2 (two P.x P.y))] w fun e w' => e = .returned (.agg (nums 2 (two P.x P.y))) ∧ Below w.heap.size w w' := by
  go_enter Tryz.func54, Tryz.ntmps54
  with_reducible (apply wp_seq_k; intro _ _)
  have h1 := KD.begin w
  with_reducible apply wp_region_lit
  refine wA h1 (box_run _ _ _ rfl rfl _) fun w2 h2 => ?_
  simp only [pu]
  clear h1
  refine wA h2 (alloc_run _ _ rfl zero_pt _) fun w3 h3 => ?_
  simp only [pu]
  clear h2
  generalize w2.heap.size = g4 at h3 ⊢
  refine wpList_nil ?_
  with_reducible (apply tn; go_at_K; go_step; apply wp_seq_k; intro _ _; apply wp_seq_k; intro _ _)
  with_reducible apply wp_region_lit
  refine wL (.agg (nums 2 (two P.x P.y))) (by exact lands_load _ _ rfl _ rfl _ _ _ (h3.blk _ m1) Tryz.underlying42 rfl (by kernel_rfl) rfl) ?_
  simp only [pu]
  refine wC h3 (qon_is P hx hy true ho w3) fun w5 h5 => ?_
  simp only [pu]
  clear h3
  refine wV (.bool false) ?_
  simp only [pu]
  refine wpList_nil ?_
  with_reducible (apply tn; go_at_K; go_step)
  refine wp_cond_false rfl ?_
  with_reducible (apply wp_skip; apply tn; go_at_K; go_step; apply wp_seq_k; intro _ _)
  with_reducible apply wp_region_lit
  refine wL (.agg (nums 2 (two P.x P.y))) (by exact lands_load _ _ rfl _ rfl _ _ _ (h5.blk _ m1) Tryz.underlying42 rfl (by kernel_rfl) rfl) ?_
  simp only [pu]
  refine wpList_val (R := KD w.heap.size w [(g4, 42, nums 2 (two P.x P.y)), (w.heap.size, 42, nums 2 (two P.x P.y))]) undef rfl (lands_store _ _ _ rfl g4 (nums 2 (two P.x P.y)) rfl rfl _ _ (h5.blk _ m0) (by kernel_rfl) (by kernel_rfl) (row_one fun _ => rfl) (h5.put (k := 0) rfl _)) ?_
  intro w6 h6
  simp only [pu]
  clear h5
  refine wpList_nil ?_
  with_reducible (apply tn; go_at_K; go_step)
  with_reducible apply wp_ret
  repeat (first | with_reducible apply then_ret | with_reducible apply block_ret)
  exact bodyPost_ret (results_cell_row rfl _ _ g4 42 (nums 2 (two P.x P.y)) (0, 0) _ rfl (h6.blk _ m0) Tryz.underlying42 rfl (by kernel_rfl)) rfl ⟨rfl, h6.b⟩
set_option maxRecDepth 100000 in
set_option maxHeartbeats 400000 in
theorem qcounted_f (P : Pt) (hx : P.x < M256) (hy : P.y < M256) (ho : onB P = false) (w : World) :
    Calls Tryz.prog 54 #[.agg (nums 2 (two P.x P.y))] w fun e w' => e = .returned (.agg (nums 2 (two pZ.x pZ.y))) ∧ Below w.heap.size w w' := by
  go_enter Tryz.func54, Tryz.ntmps54
  with_reducible (apply wp_seq_k; intro _ _)
  have h1 := KD.begin w
  with_reducible apply wp_region_lit
  refine wA h1 (box_run _ _ _ rfl rfl _) fun w2 h2 => ?_
  simp only [pu]
  clear h1
  refine wA h2 (alloc_run _ _ rfl zero_pt _) fun w3 h3 => ?_
  simp only [pu]
  clear h2
  generalize w2.heap.size = g4 at h3 ⊢
  refine wpList_nil ?_
  with_reducible (apply tn; go_at_K; go_step; apply wp_seq_k; intro _ _; apply wp_seq_k; intro _ _)
  with_reducible apply wp_region_lit
  refine wL (.agg (nums 2 (two P.x P.y))) (by exact lands_load _ _ rfl _ rfl _ _ _ (h3.blk _ m1) Tryz.underlying42 rfl (by kernel_rfl) rfl) ?_
  simp only [pu]
  refine wC h3 (qon_is P hx hy false ho w3) fun w5 h5 => ?_
  simp only [pu]
  clear h3
  refine wV (.bool true) ?_
  simp only [pu]
  refine wpList_nil ?_
  with_reducible (apply tn; go_at_K; go_step)
  refine wp_cond_true rfl ?_
  with_reducible (apply wp_seq_k; intro _ _)
  with_reducible apply wp_region_lit
  refine wC h5 (qzero_any w5) fun w6 h6 => ?_
  simp only [pu]
  clear h5
  refine wpList_val (R := KD w.heap.size w [(g4, 42, nums 2 (two pZ.x pZ.y)), (w.heap.size, 42, nums 2 (two P.x P.y))]) undef rfl (lands_store _ _ _ rfl g4 (nums 2 (two pZ.x pZ.y)) rfl rfl _ _ (h6.blk _ m0) (by kernel_rfl) (by kernel_rfl) (row_one fun _ => rfl) (h6.put (k := 0) rfl _)) ?_
  intro w7 h7
  simp only [pu]
  clear h6
  refine wpList_nil ?_
  with_reducible (apply tn; go_at_K; go_step)
  with_reducible apply wp_ret
  repeat (first | with_reducible apply then_ret | with_reducible apply block_ret)
  exact bodyPost_ret (results_cell_row rfl _ _ g4 42 (nums 2 (two pZ.x pZ.y)) (0, 0) _ rfl (h7.blk _ m0) Tryz.underlying42 rfl (by kernel_rfl)) rfl ⟨rfl, h7.b⟩
theorem qcounted_any (P : Pt) (hx : P.x < M256) (hy : P.y < M256) (w : World) :
    Calls Tryz.prog 54 #[.agg (nums 2 (two P.x P.y))] w fun e w' => e = .returned (.agg (nums 2 (two (cnt P).x (cnt P).y))) ∧ Below w.heap.size w w' := by
  cases h : onB P with
  | true => rw [cnt_on h]; exact qcounted_t P hx hy h w
  | false => rw [cnt_off h]; exact qcounted_f P hx hy h w
set_option maxRecDepth 100000 in
set_option maxHeartbeats 400000 in
theorem qlifted_any (P : Pt) (w : World) :
    Calls Tryz.prog 57 #[.agg (nums 2 (two P.x P.y))] w fun e w' => e = .returned (.agg (nums 3 (tri P.x P.y 1))) ∧ Below w.heap.size w w' := by
  go_enter Tryz.func57, Tryz.ntmps57
  with_reducible (apply wp_seq_k; intro _ _)
  have h1 := KD.begin w
  with_reducible apply wp_region_lit
  refine wA h1 (box_run _ _ _ rfl rfl _) fun w2 h2 => ?_
  simp only [pu]
  clear h1
  refine wA h2 (alloc_run _ _ rfl zero_rk _) fun w3 h3 => ?_
  simp only [pu]
  clear h2
  generalize w2.heap.size = g4 at h3 ⊢
  refine wpList_nil ?_
  with_reducible (apply tn; go_at_K; go_step; apply wp_seq_k; intro _ _)
  obtain ⟨n5, hn5⟩ : ∃ n, n = w3.heap.size := ⟨_, rfl⟩
  refine wp_region_anyE (KM w.heap.size n5 w (fun b _ => bif b then [(g4, 74, nums 3 (tri P.x P.y 1)), (w.heap.size, 42, nums 2 (two P.x P.y))] else [(g4, 74, nums 3 (tri 0 0 0)), (w.heap.size, 42, nums 2 (two P.x P.y))]) 6 1001 []) (fun _ => false) (by kernel_rfl) (KM.begin h3 hn5 (lows hn5 h3 (fun b _ => by cases b <;> simp only [cond_true, cond_false, List.map_cons, List.map_nil])) _) ?_
  refine kV 0 (.pointer (some ⟨w.heap.size, 0, none⟩)) rfl ?_
  simp only [pu]
  refine kA 1 9 (.agg (r64 4 (F4 P.x))) rfl rfl rfl (fun _ => rfl) (fun qv L wx hk hT => ?_) ?_
  · exact lands_num 0 _ _ rfl _ 2 _ rfl _ (hk.blk _ m1) (by decide) _ Tryz.underlying40 rfl (by kernel_rfl) hT
  simp only [pu]
  refine kV 2 (.pointer (some ⟨w.heap.size, 4, none⟩)) rfl ?_
  simp only [pu]
  refine kA 3 9 (.agg (r64 4 (F4 P.y))) rfl rfl rfl (fun _ => rfl) (fun qv L wx hk hT => ?_) ?_
  · exact lands_num 1 _ _ rfl _ 2 _ rfl _ (hk.blk _ m1) (by decide) _ Tryz.underlying40 rfl (by kernel_rfl) hT
  simp only [pu]
  refine kC 4 rfl (fun wx => fsmall1 wx) ?_
  simp only [pu]
  refine kW 5 (.agg (nums 3 (tri P.x P.y 1))) rfl (fun qv L wx hT => ?_) ?_
  · exact lands_built _ _ rfl _ rfl _ (by kernel_rfl) hT
  simp only [pu]
  refine anyE_take (i := 6) undef rfl rfl (by kernel_rfl) (by kernel_rfl) (by kernel_rfl) (fun qv => ym_first (k := 0) _ _ _ (by kernel_rfl) rfl rfl rfl rfl (by kernel_rfl) (by kernel_rfl) (row_one fun _ => rfl) (fun _ => rfl) (fun _ => rfl)) ?_
  simp only [pu]
  refine anyE_done (by kernel_rfl) (fun qv w6 hK => ?_) _
  have hE := hK.outs (by kernel_rfl) (by kernel_rfl)  (b := true) (c := false) (by kernel_rfl) (by kernel_rfl)
  clear hK h3 hn5
  have h6 : KD w.heap.size w [(g4, 74, nums 3 (tri P.x P.y 1)), (w.heap.size, 42, nums 2 (two P.x P.y))] w6 := hE.k
  clear hE
  clear n5
  clear qv
  with_reducible (apply tn; go_at_K; go_step)
  with_reducible apply wp_ret
  repeat (first | with_reducible apply then_ret | with_reducible apply block_ret)
  exact bodyPost_ret (results_cell_row rfl _ _ g4 74 (nums 3 (tri P.x P.y 1)) (0, 0) _ rfl (h6.blk _ m0) Tryz.underlying74 rfl (by kernel_rfl)) rfl ⟨rfl, h6.b⟩
set_option maxRecDepth 100000 in
set_option maxHeartbeats 400000 in
theorem qplain_any (r : R3) (hr : r.ok) (w : World) :
    Calls Tryz.prog 59 #[.agg (nums 3 (tri r.x r.y r.z))] w fun e w' => e = .returned (.agg (nums 2 (two r.plain.x r.plain.y))) ∧ Below w.heap.size w w' := by
  go_enter Tryz.func59, Tryz.ntmps59
  with_reducible (apply wp_seq_k; intro _ _)
  have h1 := KD.begin w
  with_reducible apply wp_region_lit
  refine wA h1 (box_run _ _ _ rfl rfl _) fun w2 h2 => ?_
  simp only [pu]
  clear h1
  refine wA h2 (alloc_run _ _ rfl zero_pt _) fun w3 h3 => ?_
  simp only [pu]
  clear h2
  generalize w2.heap.size = g4 at h3 ⊢
  refine wpList_nil ?_
  with_reducible (apply tn; go_at_K; go_step; apply wp_seq_k; intro _ _)
  with_reducible apply wp_region_lit
  refine wV (.pointer (some ⟨w.heap.size, 8, none⟩)) ?_
  simp only [pu]
  refine wL (.agg (r64 4 (F4 r.z))) (by exact lands_num 2 _ _ rfl _ 3 _ rfl _ (h3.blk _ m1) (by decide) _ Tryz.underlying40 rfl (by kernel_rfl) rfl) ?_
  simp only [pu]
  refine wC h3 (finvV r.z w3 hr.z) fun w5 h5 => ?_
  simp only [pu]
  clear h3
  refine wA h5 (alloc_run _ _ rfl zero_fe _) fun w6 h6 => ?_
  simp only [pu]
  clear h5
  generalize w5.heap.size = g7 at h6 ⊢
  refine wpList_val (R := KD w.heap.size w [(g7, 40, r64 4 (F4 (vP r.z))), (g4, 42, nums 2 (two 0 0)), (w.heap.size, 74, nums 3 (tri r.x r.y r.z))]) undef rfl (lands_store _ _ _ rfl g7 (r64 4 (F4 (vP r.z))) rfl rfl _ _ (h6.blk _ m0) (by kernel_rfl) (by kernel_rfl) (row_one fun _ => rfl) (h6.put (k := 0) rfl _)) ?_
  intro w8 h8
  simp only [pu]
  clear h6
  refine wpList_nil ?_
  with_reducible (apply tn; go_at_K; go_step; apply wp_seq_k; intro _ _)
  obtain ⟨n9, hn9⟩ : ∃ n, n = w8.heap.size := ⟨_, rfl⟩
  refine wp_region_anyE (KM w.heap.size n9 w (fun b _ => bif b then [(g7, 40, r64 4 (F4 (vP r.z))), (g4, 42, nums 2 (two (mulP r.x (vP r.z)) (mulP r.y (vP r.z)))), (w.heap.size, 74, nums 3 (tri r.x r.y r.z))] else [(g7, 40, r64 4 (F4 (vP r.z))), (g4, 42, nums 2 (two 0 0)), (w.heap.size, 74, nums 3 (tri r.x r.y r.z))]) 9 1001 []) (fun _ => false) (by kernel_rfl) (KM.begin h8 hn9 (lows hn9 h8 (fun b _ => by cases b <;> simp only [cond_true, cond_false, List.map_cons, List.map_nil])) _) ?_
  refine kV 0 (.pointer (some ⟨w.heap.size, 0, none⟩)) rfl ?_
  simp only [pu]
  refine kA 1 9 (.agg (r64 4 (F4 r.x))) rfl rfl rfl (fun _ => rfl) (fun qv L wx hk hT => ?_) ?_
  · exact lands_num 0 _ _ rfl _ 3 _ rfl _ (hk.blk _ m2) (by decide) _ Tryz.underlying40 rfl (by kernel_rfl) hT
  simp only [pu]
  refine kA 2 9 (.agg (r64 4 (F4 (vP r.z)))) rfl rfl rfl (fun _ => rfl) (fun qv L wx hk hT => ?_) ?_
  · exact lands_load _ _ rfl _ rfl _ _ _ (hk.blk _ m0) Tryz.underlying40 rfl (fe_size _) hT
  simp only [pu]
  refine kC 3 rfl (fun wx => fmulP r.x (vP r.z) wx hr.x (vP_lt _)) ?_
  simp only [pu]
  refine kV 4 (.pointer (some ⟨w.heap.size, 4, none⟩)) rfl ?_
  simp only [pu]
  refine kA 5 9 (.agg (r64 4 (F4 r.y))) rfl rfl rfl (fun _ => rfl) (fun qv L wx hk hT => ?_) ?_
  · exact lands_num 1 _ _ rfl _ 3 _ rfl _ (hk.blk _ m2) (by decide) _ Tryz.underlying40 rfl (by kernel_rfl) hT
  simp only [pu]
  refine kA 6 9 (.agg (r64 4 (F4 (vP r.z)))) rfl rfl rfl (fun _ => rfl) (fun qv L wx hk hT => ?_) ?_
  · exact lands_load _ _ rfl _ rfl _ _ _ (hk.blk _ m0) Tryz.underlying40 rfl (fe_size _) hT
  simp only [pu]
  refine kC 7 rfl (fun wx => fmulP r.y (vP r.z) wx hr.y (vP_lt _)) ?_
  simp only [pu]
  refine kW 8 (.agg (nums 2 (two (mulP r.x (vP r.z)) (mulP r.y (vP r.z))))) rfl (fun qv L wx hT => ?_) ?_
  · exact lands_built _ _ rfl _ rfl _ (by kernel_rfl) hT
  simp only [pu]
  refine anyE_take (i := 9) undef rfl rfl (by kernel_rfl) (by kernel_rfl) (by kernel_rfl) (fun qv => ym_first (k := 1) _ _ _ (by kernel_rfl) rfl rfl rfl rfl (by kernel_rfl) (by kernel_rfl) (row_one fun _ => rfl) (fun _ => rfl) (fun _ => rfl)) ?_
  simp only [pu]
  refine anyE_done (by kernel_rfl) (fun qv w10 hK => ?_) _
  have hE := hK.outs (by kernel_rfl) (by kernel_rfl)  (b := true) (c := false) (by kernel_rfl) (by kernel_rfl)
  clear hK h8 hn9
  have h10 : KD w.heap.size w [(g7, 40, r64 4 (F4 (vP r.z))), (g4, 42, nums 2 (two (mulP r.x (vP r.z)) (mulP r.y (vP r.z)))), (w.heap.size, 74, nums 3 (tri r.x r.y r.z))] w10 := hE.k
  clear hE
  clear n9
  clear qv
  with_reducible (apply tn; go_at_K; go_step)
  with_reducible apply wp_ret
  repeat (first | with_reducible apply then_ret | with_reducible apply block_ret)
  exact bodyPost_ret (results_cell_row rfl _ _ g4 42 (nums 2 (two (mulP r.x (vP r.z)) (mulP r.y (vP r.z)))) (0, 0) _ rfl (h10.blk _ m1) Tryz.underlying42 rfl (by kernel_rfl)) rfl ⟨by simp only [R3.plain], h10.b⟩
set_option maxRecDepth 100000 in
set_option maxHeartbeats 4000000 in
theorem qplus_any (r : R3) (hr : r.ok) (q : R3) (hq : q.ok) (w : World) :
    Calls Tryz.prog 58 #[.agg (nums 3 (tri r.x r.y r.z)), .agg (nums 3 (tri q.x q.y q.z))] w fun e w' => e = .returned (.agg (nums 3 (tri (r.plus q).x (r.plus q).y (r.plus q).z))) ∧ Below w.heap.size w w' := by
  go_enter Tryz.func58, Tryz.ntmps58
  with_reducible (apply wp_seq_k; intro _ _)
  have h1 := KD.begin w
  with_reducible apply wp_region_lit
  refine wA h1 (box_run _ _ _ rfl rfl _) fun w2 h2 => ?_
  simp only [pu]
  clear h1
  refine wA h2 (box_run _ _ _ rfl rfl _) fun w3 h3 => ?_
  simp only [pu]
  clear h2
  generalize w2.heap.size = g4 at h3 ⊢
  refine wA h3 (alloc_run _ _ rfl zero_rk _) fun w5 h5 => ?_
  simp only [pu]
  clear h3
  generalize w3.heap.size = g6 at h5 ⊢
  refine wpList_nil ?_
  with_reducible (apply tn; go_at_K; go_step; apply wp_seq_k; intro _ _)
  obtain ⟨n7, hn7⟩ : ∃ n, n = w5.heap.size := ⟨_, rfl⟩
  refine wp_region_anyE (KM w.heap.size n7 w (fun _ _ => [(g6, 74, nums 3 (tri 0 0 0)), (g4, 74, nums 3 (tri q.x q.y q.z)), (w.heap.size, 74, nums 3 (tri r.x r.y r.z))]) 1000 1001 [⟨15, 18, 40, r64 4 (F4 0), r64 4 (F4 (mulP r.z q.z)), ptr⟩, ⟨16, 19, 40, r64 4 (F4 0), r64 4 (F4 (mulP r.x q.x)), ptr⟩, ⟨17, 20, 40, r64 4 (F4 0), r64 4 (F4 (mulP r.y q.y)), ptr⟩]) (fun i => i == 15 || i == 16 || i == 17) (by kernel_rfl) (KM.begin h5 hn7 (lows hn7 h5 (fun _ _ => rfl)) _) ?_
  refine kV 0 (.pointer (some ⟨w.heap.size, 8, none⟩)) rfl ?_
  simp only [pu]
  refine kW 1 (.agg (r64 4 (F4 r.z))) rfl (fun qv L wx hT => ?_) ?_
  · exact lands_num 2 _ _ rfl _ 3 _ rfl _ (hT.k.blk _ m2) (by decide) _ Tryz.underlying40 rfl (by kernel_rfl) hT
  simp only [pu]
  refine kV 2 (.pointer (some ⟨g4, 8, none⟩)) rfl ?_
  simp only [pu]
  refine kW 3 (.agg (r64 4 (F4 q.z))) rfl (fun qv L wx hT => ?_) ?_
  · exact lands_num 2 _ _ rfl _ 3 _ rfl _ (hT.k.blk _ m1) (by decide) _ Tryz.underlying40 rfl (by kernel_rfl) hT
  simp only [pu]
  refine kC 4 rfl (fun wx => fmulP r.z q.z wx hr.z hq.z) ?_
  simp only [pu]
  refine kV 5 (.pointer (some ⟨w.heap.size, 0, none⟩)) rfl ?_
  simp only [pu]
  refine kW 6 (.agg (r64 4 (F4 r.x))) rfl (fun qv L wx hT => ?_) ?_
  · exact lands_num 0 _ _ rfl _ 3 _ rfl _ (hT.k.blk _ m2) (by decide) _ Tryz.underlying40 rfl (by kernel_rfl) hT
  simp only [pu]
  refine kV 7 (.pointer (some ⟨g4, 0, none⟩)) rfl ?_
  simp only [pu]
  refine kW 8 (.agg (r64 4 (F4 q.x))) rfl (fun qv L wx hT => ?_) ?_
  · exact lands_num 0 _ _ rfl _ 3 _ rfl _ (hT.k.blk _ m1) (by decide) _ Tryz.underlying40 rfl (by kernel_rfl) hT
  simp only [pu]
  refine kC 9 rfl (fun wx => fmulP r.x q.x wx hr.x hq.x) ?_
  simp only [pu]
  refine kV 10 (.pointer (some ⟨w.heap.size, 4, none⟩)) rfl ?_
  simp only [pu]
  refine kW 11 (.agg (r64 4 (F4 r.y))) rfl (fun qv L wx hT => ?_) ?_
  · exact lands_num 1 _ _ rfl _ 3 _ rfl _ (hT.k.blk _ m2) (by decide) _ Tryz.underlying40 rfl (by kernel_rfl) hT
  simp only [pu]
  refine kV 12 (.pointer (some ⟨g4, 4, none⟩)) rfl ?_
  simp only [pu]
  refine kW 13 (.agg (r64 4 (F4 q.y))) rfl (fun qv L wx hT => ?_) ?_
  · exact lands_num 1 _ _ rfl _ 3 _ rfl _ (hT.k.blk _ m1) (by decide) _ Tryz.underlying40 rfl (by kernel_rfl) hT
  simp only [pu]
  refine kC 14 rfl (fun wx => fmulP r.y q.y wx hr.y hq.y) ?_
  simp only [pu]
  refine anyE_made (i := 15) rfl rfl (by kernel_rfl) (by kernel_rfl) (by kernel_rfl) (fun qv => ym_made (n := 9) ⟨15, 18, 40, r64 4 (F4 0), r64 4 (F4 (mulP r.z q.z)), ptr⟩ (by kernel_rfl) m0 (.inl (show waits .any _ 9 18 15 = true from (by kernel_rfl))) rfl (alloc_run _ _ rfl zero_fe)) ?_
  simp only [pu]
  refine anyE_made (i := 16) rfl rfl (by kernel_rfl) (by kernel_rfl) (by kernel_rfl) (fun qv => ym_made (n := 9) ⟨16, 19, 40, r64 4 (F4 0), r64 4 (F4 (mulP r.x q.x)), ptr⟩ (by kernel_rfl) m1 (.inl (show waits .any _ 9 19 16 = true from (by kernel_rfl))) rfl (alloc_run _ _ rfl zero_fe)) ?_
  simp only [pu]
  refine anyE_made (i := 17) rfl rfl (by kernel_rfl) (by kernel_rfl) (by kernel_rfl) (fun qv => ym_made (n := 9) ⟨17, 20, 40, r64 4 (F4 0), r64 4 (F4 (mulP r.y q.y)), ptr⟩ (by kernel_rfl) m2 (.inl (show waits .any _ 9 20 17 = true from (by kernel_rfl))) rfl (alloc_run _ _ rfl zero_fe)) ?_
  simp only [pu]
  refine anyE_take (i := 18) undef rfl rfl (by kernel_rfl) (by kernel_rfl) (by kernel_rfl) (fun qv => ym_stored ⟨15, 18, 40, r64 4 (F4 0), r64 4 (F4 (mulP r.z q.z)), ptr⟩ _ _ _ (by kernel_rfl) m0 rfl (by kernel_rfl) rfl rfl rfl rfl (by kernel_rfl) (by kernel_rfl) (row_one fun _ => rfl)) ?_
  simp only [pu]
  refine anyE_take (i := 19) undef rfl rfl (by kernel_rfl) (by kernel_rfl) (by kernel_rfl) (fun qv => ym_stored ⟨16, 19, 40, r64 4 (F4 0), r64 4 (F4 (mulP r.x q.x)), ptr⟩ _ _ _ (by kernel_rfl) m1 rfl (by kernel_rfl) rfl rfl rfl rfl (by kernel_rfl) (by kernel_rfl) (row_one fun _ => rfl)) ?_
  simp only [pu]
  refine anyE_take (i := 20) undef rfl rfl (by kernel_rfl) (by kernel_rfl) (by kernel_rfl) (fun qv => ym_stored ⟨17, 20, 40, r64 4 (F4 0), r64 4 (F4 (mulP r.y q.y)), ptr⟩ _ _ _ (by kernel_rfl) m2 rfl (by kernel_rfl) rfl rfl rfl rfl (by kernel_rfl) (by kernel_rfl) (row_one fun _ => rfl)) ?_
  simp only [pu]
  refine anyE_done (by kernel_rfl) (fun qv w8 hK => ?_) _
  have hE := hK.outs (by kernel_rfl) (by kernel_rfl)  (b := false) (c := false) (by kernel_rfl) (by kernel_rfl)
  clear hK h5 hn7
  obtain ⟨g9, eg9, hE'⟩ := hE.next
  clear hE
  replace eg9 : qv 15 = .pointer (some ⟨g9, 0, none⟩) := eg9
  obtain ⟨g10, eg10, hE''⟩ := hE'.next
  clear hE'
  replace eg10 : qv 16 = .pointer (some ⟨g10, 0, none⟩) := eg10
  obtain ⟨g11, eg11, hE'''⟩ := hE''.next
  clear hE''
  replace eg11 : qv 17 = .pointer (some ⟨g11, 0, none⟩) := eg11
  have h8 : KD w.heap.size w [(g11, 40, r64 4 (F4 (mulP r.y q.y))), (g10, 40, r64 4 (F4 (mulP r.x q.x))), (g9, 40, r64 4 (F4 (mulP r.z q.z))), (g6, 74, nums 3 (tri 0 0 0)), (g4, 74, nums 3 (tri q.x q.y q.z)), (w.heap.size, 74, nums 3 (tri r.x r.y r.z))] w8 := hE'''.k
  clear hE'''
  clear n7
  rw [eg9, eg10, eg11]
  clear eg9 eg10 eg11
  clear qv
  with_reducible (apply tn; go_at_K; go_step; apply wp_seq_k; intro _ _)
  obtain ⟨n12, hn12⟩ : ∃ n, n = w8.heap.size := ⟨_, rfl⟩
  refine wp_region_anyE (KM w.heap.size n12 w (fun _ _ => [(g11, 40, r64 4 (F4 (mulP r.y q.y))), (g10, 40, r64 4 (F4 (mulP r.x q.x))), (g9, 40, r64 4 (F4 (mulP r.z q.z))), (g6, 74, nums 3 (tri 0 0 0)), (g4, 74, nums 3 (tri q.x q.y q.z)), (w.heap.size, 74, nums 3 (tri r.x r.y r.z))]) 1000 1001 [⟨15, 16, 40, r64 4 (F4 0), r64 4 (F4 (subP (subP (mulP (addP r.x r.y) (addP q.x q.y)) (mulP r.x q.x)) (mulP r.y q.y))), ptr⟩]) (fun i => i == 15) (by kernel_rfl) (KM.begin h8 hn12 (lows hn12 h8 (fun _ _ => rfl)) _) ?_
  refine kV 0 (.pointer (some ⟨w.heap.size, 0, none⟩)) rfl ?_
  simp only [pu]
  refine kW 1 (.agg (r64 4 (F4 r.x))) rfl (fun qv L wx hT => ?_) ?_
  · exact lands_num 0 _ _ rfl _ 3 _ rfl _ (hT.k.blk _ m5) (by decide) _ Tryz.underlying40 rfl (by kernel_rfl) hT
  simp only [pu]
  refine kV 2 (.pointer (some ⟨w.heap.size, 4, none⟩)) rfl ?_
  simp only [pu]
  refine kW 3 (.agg (r64 4 (F4 r.y))) rfl (fun qv L wx hT => ?_) ?_
  · exact lands_num 1 _ _ rfl _ 3 _ rfl _ (hT.k.blk _ m5) (by decide) _ Tryz.underlying40 rfl (by kernel_rfl) hT
  simp only [pu]
  refine kC 4 rfl (fun wx => faddP r.x r.y wx hr.x hr.y) ?_
  simp only [pu]
  refine kV 5 (.pointer (some ⟨g4, 0, none⟩)) rfl ?_
  simp only [pu]
  refine kW 6 (.agg (r64 4 (F4 q.x))) rfl (fun qv L wx hT => ?_) ?_
  · exact lands_num 0 _ _ rfl _ 3 _ rfl _ (hT.k.blk _ m4) (by decide) _ Tryz.underlying40 rfl (by kernel_rfl) hT
  simp only [pu]
  refine kV 7 (.pointer (some ⟨g4, 4, none⟩)) rfl ?_
  simp only [pu]
  refine kW 8 (.agg (r64 4 (F4 q.y))) rfl (fun qv L wx hT => ?_) ?_
  · exact lands_num 1 _ _ rfl _ 3 _ rfl _ (hT.k.blk _ m4) (by decide) _ Tryz.underlying40 rfl (by kernel_rfl) hT
  simp only [pu]
  refine kC 9 rfl (fun wx => faddP q.x q.y wx hq.x hq.y) ?_
  simp only [pu]
  refine kC 10 rfl (fun wx => fmulP (addP r.x r.y) (addP q.x q.y) wx (addP_lt _ _) (addP_lt _ _)) ?_
  simp only [pu]
  refine kW 11 (.agg (r64 4 (F4 (mulP r.x q.x)))) rfl (fun qv L wx hT => ?_) ?_
  · exact lands_load _ _ rfl _ rfl _ _ _ (hT.k.blk _ m1) Tryz.underlying40 rfl (fe_size _) hT
  simp only [pu]
  refine kC 12 rfl (fun wx => fsubP (mulP (addP r.x r.y) (addP q.x q.y)) (mulP r.x q.x) wx (mulP_lt _ _) (mulP_lt _ _)) ?_
  simp only [pu]
  refine kW 13 (.agg (r64 4 (F4 (mulP r.y q.y)))) rfl (fun qv L wx hT => ?_) ?_
  · exact lands_load _ _ rfl _ rfl _ _ _ (hT.k.blk _ m0) Tryz.underlying40 rfl (fe_size _) hT
  simp only [pu]
  refine kC 14 rfl (fun wx => fsubP (subP (mulP (addP r.x r.y) (addP q.x q.y)) (mulP r.x q.x)) (mulP r.y q.y) wx (subP_lt _ _) (mulP_lt _ _)) ?_
  simp only [pu]
  refine anyE_made (i := 15) rfl rfl (by kernel_rfl) (by kernel_rfl) (by kernel_rfl) (fun qv => ym_made (n := 9) ⟨15, 16, 40, r64 4 (F4 0), r64 4 (F4 (subP (subP (mulP (addP r.x r.y) (addP q.x q.y)) (mulP r.x q.x)) (mulP r.y q.y))), ptr⟩ (by kernel_rfl) m0 (.inl (show waits .any _ 9 16 15 = true from (by kernel_rfl))) rfl (alloc_run _ _ rfl zero_fe)) ?_
  simp only [pu]
  refine anyE_take (i := 16) undef rfl rfl (by kernel_rfl) (by kernel_rfl) (by kernel_rfl) (fun qv => ym_stored ⟨15, 16, 40, r64 4 (F4 0), r64 4 (F4 (subP (subP (mulP (addP r.x r.y) (addP q.x q.y)) (mulP r.x q.x)) (mulP r.y q.y))), ptr⟩ _ _ _ (by kernel_rfl) m0 rfl (by kernel_rfl) rfl rfl rfl rfl (by kernel_rfl) (by kernel_rfl) (row_one fun _ => rfl)) ?_
  simp only [pu]
  refine anyE_done (by kernel_rfl) (fun qv w13 hK => ?_) _
  have hE := hK.outs (by kernel_rfl) (by kernel_rfl)  (b := false) (c := false) (by kernel_rfl) (by kernel_rfl)
  clear hK h8 hn12
  obtain ⟨g14, eg14, hE'⟩ := hE.next
  clear hE
  replace eg14 : qv 15 = .pointer (some ⟨g14, 0, none⟩) := eg14
  have h13 : KD w.heap.size w [(g14, 40, r64 4 (F4 (subP (subP (mulP (addP r.x r.y) (addP q.x q.y)) (mulP r.x q.x)) (mulP r.y q.y)))), (g11, 40, r64 4 (F4 (mulP r.y q.y))), (g10, 40, r64 4 (F4 (mulP r.x q.x))), (g9, 40, r64 4 (F4 (mulP r.z q.z))), (g6, 74, nums 3 (tri 0 0 0)), (g4, 74, nums 3 (tri q.x q.y q.z)), (w.heap.size, 74, nums 3 (tri r.x r.y r.z))] w13 := hE'.k
  clear hE'
  clear n12
  rw [eg14]
  clear eg14
  clear qv
  with_reducible (apply tn; go_at_K; go_step; apply wp_seq_k; intro _ _)
  obtain ⟨n15, hn15⟩ : ∃ n, n = w13.heap.size := ⟨_, rfl⟩
  refine wp_region_anyE (KM w.heap.size n15 w (fun _ _ => [(g14, 40, r64 4 (F4 (subP (subP (mulP (addP r.x r.y) (addP q.x q.y)) (mulP r.x q.x)) (mulP r.y q.y)))), (g11, 40, r64 4 (F4 (mulP r.y q.y))), (g10, 40, r64 4 (F4 (mulP r.x q.x))), (g9, 40, r64 4 (F4 (mulP r.z q.z))), (g6, 74, nums 3 (tri 0 0 0)), (g4, 74, nums 3 (tri q.x q.y q.z)), (w.heap.size, 74, nums 3 (tri r.x r.y r.z))]) 1000 1001 [⟨8, 10, 40, r64 4 (F4 0), r64 4 (F4 (mulP (mulP r.z q.z) (mulP r.z q.z))), ptr⟩, ⟨9, 11, 40, r64 4 (F4 0), r64 4 (F4 (mulP dP (mulP (mulP r.x q.x) (mulP r.y q.y)))), ptr⟩]) (fun i => i == 8 || i == 9) (by kernel_rfl) (KM.begin h13 hn15 (lows hn15 h13 (fun _ _ => rfl)) _) ?_
  refine kW 0 (.agg (r64 4 (F4 (mulP r.z q.z)))) rfl (fun qv L wx hT => ?_) ?_
  · exact lands_load _ _ rfl _ rfl _ _ _ (hT.k.blk _ m3) Tryz.underlying40 rfl (fe_size _) hT
  simp only [pu]
  refine kW 1 (.agg (r64 4 (F4 (mulP r.z q.z)))) rfl (fun qv L wx hT => ?_) ?_
  · exact lands_load _ _ rfl _ rfl _ _ _ (hT.k.blk _ m3) Tryz.underlying40 rfl (fe_size _) hT
  simp only [pu]
  refine kC 2 rfl (fun wx => fmulP (mulP r.z q.z) (mulP r.z q.z) wx (mulP_lt _ _) (mulP_lt _ _)) ?_
  simp only [pu]
  refine kC 3 rfl (fun wx => qd_any wx) ?_
  simp only [pu]
  refine kW 4 (.agg (r64 4 (F4 (mulP r.x q.x)))) rfl (fun qv L wx hT => ?_) ?_
  · exact lands_load _ _ rfl _ rfl _ _ _ (hT.k.blk _ m2) Tryz.underlying40 rfl (fe_size _) hT
  simp only [pu]
  refine kW 5 (.agg (r64 4 (F4 (mulP r.y q.y)))) rfl (fun qv L wx hT => ?_) ?_
  · exact lands_load _ _ rfl _ rfl _ _ _ (hT.k.blk _ m1) Tryz.underlying40 rfl (fe_size _) hT
  simp only [pu]
  refine kC 6 rfl (fun wx => fmulP (mulP r.x q.x) (mulP r.y q.y) wx (mulP_lt _ _) (mulP_lt _ _)) ?_
  simp only [pu]
  refine kC 7 rfl (fun wx => fmulP dP (mulP (mulP r.x q.x) (mulP r.y q.y)) wx dP_lt (mulP_lt _ _)) ?_
  simp only [pu]
  refine anyE_made (i := 8) rfl rfl (by kernel_rfl) (by kernel_rfl) (by kernel_rfl) (fun qv => ym_made (n := 9) ⟨8, 10, 40, r64 4 (F4 0), r64 4 (F4 (mulP (mulP r.z q.z) (mulP r.z q.z))), ptr⟩ (by kernel_rfl) m0 (.inl (show waits .any _ 9 10 8 = true from (by kernel_rfl))) rfl (alloc_run _ _ rfl zero_fe)) ?_
  simp only [pu]
  refine anyE_made (i := 9) rfl rfl (by kernel_rfl) (by kernel_rfl) (by kernel_rfl) (fun qv => ym_made (n := 9) ⟨9, 11, 40, r64 4 (F4 0), r64 4 (F4 (mulP dP (mulP (mulP r.x q.x) (mulP r.y q.y)))), ptr⟩ (by kernel_rfl) m1 (.inl (show waits .any _ 9 11 9 = true from (by kernel_rfl))) rfl (alloc_run _ _ rfl zero_fe)) ?_
  simp only [pu]
  refine anyE_take (i := 10) undef rfl rfl (by kernel_rfl) (by kernel_rfl) (by kernel_rfl) (fun qv => ym_stored ⟨8, 10, 40, r64 4 (F4 0), r64 4 (F4 (mulP (mulP r.z q.z) (mulP r.z q.z))), ptr⟩ _ _ _ (by kernel_rfl) m0 rfl (by kernel_rfl) rfl rfl rfl rfl (by kernel_rfl) (by kernel_rfl) (row_one fun _ => rfl)) ?_
  simp only [pu]
  refine anyE_take (i := 11) undef rfl rfl (by kernel_rfl) (by kernel_rfl) (by kernel_rfl) (fun qv => ym_stored ⟨9, 11, 40, r64 4 (F4 0), r64 4 (F4 (mulP dP (mulP (mulP r.x q.x) (mulP r.y q.y)))), ptr⟩ _ _ _ (by kernel_rfl) m1 rfl (by kernel_rfl) rfl rfl rfl rfl (by kernel_rfl) (by kernel_rfl) (row_one fun _ => rfl)) ?_
  simp only [pu]
  refine anyE_done (by kernel_rfl) (fun qv w16 hK => ?_) _
  have hE := hK.outs (by kernel_rfl) (by kernel_rfl)  (b := false) (c := false) (by kernel_rfl) (by kernel_rfl)
  clear hK h13 hn15
  obtain ⟨g17, eg17, hE'⟩ := hE.next
  clear hE
  replace eg17 : qv 8 = .pointer (some ⟨g17, 0, none⟩) := eg17
  obtain ⟨g18, eg18, hE''⟩ := hE'.next
  clear hE'
  replace eg18 : qv 9 = .pointer (some ⟨g18, 0, none⟩) := eg18
  have h16 : KD w.heap.size w [(g18, 40, r64 4 (F4 (mulP dP (mulP (mulP r.x q.x) (mulP r.y q.y))))), (g17, 40, r64 4 (F4 (mulP (mulP r.z q.z) (mulP r.z q.z)))), (g14, 40, r64 4 (F4 (subP (subP (mulP (addP r.x r.y) (addP q.x q.y)) (mulP r.x q.x)) (mulP r.y q.y)))), (g11, 40, r64 4 (F4 (mulP r.y q.y))), (g10, 40, r64 4 (F4 (mulP r.x q.x))), (g9, 40, r64 4 (F4 (mulP r.z q.z))), (g6, 74, nums 3 (tri 0 0 0)), (g4, 74, nums 3 (tri q.x q.y q.z)), (w.heap.size, 74, nums 3 (tri r.x r.y r.z))] w16 := hE''.k
  clear hE''
  clear n15
  rw [eg17, eg18]
  clear eg17 eg18
  clear qv
  with_reducible (apply tn; go_at_K; go_step; apply wp_seq_k; intro _ _)
  obtain ⟨n19, hn19⟩ : ∃ n, n = w16.heap.size := ⟨_, rfl⟩
  refine wp_region_anyE (KM w.heap.size n19 w (fun _ _ => [(g18, 40, r64 4 (F4 (mulP dP (mulP (mulP r.x q.x) (mulP r.y q.y))))), (g17, 40, r64 4 (F4 (mulP (mulP r.z q.z) (mulP r.z q.z)))), (g14, 40, r64 4 (F4 (subP (subP (mulP (addP r.x r.y) (addP q.x q.y)) (mulP r.x q.x)) (mulP r.y q.y)))), (g11, 40, r64 4 (F4 (mulP r.y q.y))), (g10, 40, r64 4 (F4 (mulP r.x q.x))), (g9, 40, r64 4 (F4 (mulP r.z q.z))), (g6, 74, nums 3 (tri 0 0 0)), (g4, 74, nums 3 (tri q.x q.y q.z)), (w.heap.size, 74, nums 3 (tri r.x r.y r.z))]) 1000 1001 [⟨6, 8, 40, r64 4 (F4 0), r64 4 (F4 (addP (mulP (mulP r.z q.z) (mulP r.z q.z)) (mulP dP (mulP (mulP r.x q.x) (mulP r.y q.y))))), ptr⟩, ⟨7, 9, 40, r64 4 (F4 0), r64 4 (F4 (subP (mulP (mulP r.z q.z) (mulP r.z q.z)) (mulP dP (mulP (mulP r.x q.x) (mulP r.y q.y))))), ptr⟩]) (fun i => i == 6 || i == 7) (by kernel_rfl) (KM.begin h16 hn19 (lows hn19 h16 (fun _ _ => rfl)) _) ?_
  refine kW 0 (.agg (r64 4 (F4 (mulP (mulP r.z q.z) (mulP r.z q.z))))) rfl (fun qv L wx hT => ?_) ?_
  · exact lands_load _ _ rfl _ rfl _ _ _ (hT.k.blk _ m1) Tryz.underlying40 rfl (fe_size _) hT
  simp only [pu]
  refine kW 1 (.agg (r64 4 (F4 (mulP dP (mulP (mulP r.x q.x) (mulP r.y q.y)))))) rfl (fun qv L wx hT => ?_) ?_
  · exact lands_load _ _ rfl _ rfl _ _ _ (hT.k.blk _ m0) Tryz.underlying40 rfl (fe_size _) hT
  simp only [pu]
  refine kC 2 rfl (fun wx => faddP (mulP (mulP r.z q.z) (mulP r.z q.z)) (mulP dP (mulP (mulP r.x q.x) (mulP r.y q.y))) wx (mulP_lt _ _) (mulP_lt _ _)) ?_
  simp only [pu]
  refine kW 3 (.agg (r64 4 (F4 (mulP (mulP r.z q.z) (mulP r.z q.z))))) rfl (fun qv L wx hT => ?_) ?_
  · exact lands_load _ _ rfl _ rfl _ _ _ (hT.k.blk _ m1) Tryz.underlying40 rfl (fe_size _) hT
  simp only [pu]
  refine kW 4 (.agg (r64 4 (F4 (mulP dP (mulP (mulP r.x q.x) (mulP r.y q.y)))))) rfl (fun qv L wx hT => ?_) ?_
  · exact lands_load _ _ rfl _ rfl _ _ _ (hT.k.blk _ m0) Tryz.underlying40 rfl (fe_size _) hT
  simp only [pu]
  refine kC 5 rfl (fun wx => fsubP (mulP (mulP r.z q.z) (mulP r.z q.z)) (mulP dP (mulP (mulP r.x q.x) (mulP r.y q.y))) wx (mulP_lt _ _) (mulP_lt _ _)) ?_
  simp only [pu]
  refine anyE_made (i := 6) rfl rfl (by kernel_rfl) (by kernel_rfl) (by kernel_rfl) (fun qv => ym_made (n := 9) ⟨6, 8, 40, r64 4 (F4 0), r64 4 (F4 (addP (mulP (mulP r.z q.z) (mulP r.z q.z)) (mulP dP (mulP (mulP r.x q.x) (mulP r.y q.y))))), ptr⟩ (by kernel_rfl) m0 (.inl (show waits .any _ 9 8 6 = true from (by kernel_rfl))) rfl (alloc_run _ _ rfl zero_fe)) ?_
  simp only [pu]
  refine anyE_made (i := 7) rfl rfl (by kernel_rfl) (by kernel_rfl) (by kernel_rfl) (fun qv => ym_made (n := 9) ⟨7, 9, 40, r64 4 (F4 0), r64 4 (F4 (subP (mulP (mulP r.z q.z) (mulP r.z q.z)) (mulP dP (mulP (mulP r.x q.x) (mulP r.y q.y))))), ptr⟩ (by kernel_rfl) m1 (.inl (show waits .any _ 9 9 7 = true from (by kernel_rfl))) rfl (alloc_run _ _ rfl zero_fe)) ?_
  simp only [pu]
  refine anyE_take (i := 8) undef rfl rfl (by kernel_rfl) (by kernel_rfl) (by kernel_rfl) (fun qv => ym_stored ⟨6, 8, 40, r64 4 (F4 0), r64 4 (F4 (addP (mulP (mulP r.z q.z) (mulP r.z q.z)) (mulP dP (mulP (mulP r.x q.x) (mulP r.y q.y))))), ptr⟩ _ _ _ (by kernel_rfl) m0 rfl (by kernel_rfl) rfl rfl rfl rfl (by kernel_rfl) (by kernel_rfl) (row_one fun _ => rfl)) ?_
  simp only [pu]
  refine anyE_take (i := 9) undef rfl rfl (by kernel_rfl) (by kernel_rfl) (by kernel_rfl) (fun qv => ym_stored ⟨7, 9, 40, r64 4 (F4 0), r64 4 (F4 (subP (mulP (mulP r.z q.z) (mulP r.z q.z)) (mulP dP (mulP (mulP r.x q.x) (mulP r.y q.y))))), ptr⟩ _ _ _ (by kernel_rfl) m1 rfl (by kernel_rfl) rfl rfl rfl rfl (by kernel_rfl) (by kernel_rfl) (row_one fun _ => rfl)) ?_
  simp only [pu]
  refine anyE_done (by kernel_rfl) (fun qv w20 hK => ?_) _
  have hE := hK.outs (by kernel_rfl) (by kernel_rfl)  (b := false) (c := false) (by kernel_rfl) (by kernel_rfl)
  clear hK h16 hn19
  obtain ⟨g21, eg21, hE'⟩ := hE.next
  clear hE
  replace eg21 : qv 6 = .pointer (some ⟨g21, 0, none⟩) := eg21
  obtain ⟨g22, eg22, hE''⟩ := hE'.next
  clear hE'
  replace eg22 : qv 7 = .pointer (some ⟨g22, 0, none⟩) := eg22
  have h20 : KD w.heap.size w [(g22, 40, r64 4 (F4 (subP (mulP (mulP r.z q.z) (mulP r.z q.z)) (mulP dP (mulP (mulP r.x q.x) (mulP r.y q.y)))))), (g21, 40, r64 4 (F4 (addP (mulP (mulP r.z q.z) (mulP r.z q.z)) (mulP dP (mulP (mulP r.x q.x) (mulP r.y q.y)))))), (g18, 40, r64 4 (F4 (mulP dP (mulP (mulP r.x q.x) (mulP r.y q.y))))), (g17, 40, r64 4 (F4 (mulP (mulP r.z q.z) (mulP r.z q.z)))), (g14, 40, r64 4 (F4 (subP (subP (mulP (addP r.x r.y) (addP q.x q.y)) (mulP r.x q.x)) (mulP r.y q.y)))), (g11, 40, r64 4 (F4 (mulP r.y q.y))), (g10, 40, r64 4 (F4 (mulP r.x q.x))), (g9, 40, r64 4 (F4 (mulP r.z q.z))), (g6, 74, nums 3 (tri 0 0 0)), (g4, 74, nums 3 (tri q.x q.y q.z)), (w.heap.size, 74, nums 3 (tri r.x r.y r.z))] w20 := hE''.k
  clear hE''
  clear n19
  rw [eg21, eg22]
  clear eg21 eg22
  clear qv
  with_reducible (apply tn; go_at_K; go_step; apply wp_seq_k; intro _ _)
  obtain ⟨n23, hn23⟩ : ∃ n, n = w20.heap.size := ⟨_, rfl⟩
  refine wp_region_anyE (KM w.heap.size n23 w (fun b _ => bif b then [(g22, 40, r64 4 (F4 (subP (mulP (mulP r.z q.z) (mulP r.z q.z)) (mulP dP (mulP (mulP r.x q.x) (mulP r.y q.y)))))), (g21, 40, r64 4 (F4 (addP (mulP (mulP r.z q.z) (mulP r.z q.z)) (mulP dP (mulP (mulP r.x q.x) (mulP r.y q.y)))))), (g18, 40, r64 4 (F4 (mulP dP (mulP (mulP r.x q.x) (mulP r.y q.y))))), (g17, 40, r64 4 (F4 (mulP (mulP r.z q.z) (mulP r.z q.z)))), (g14, 40, r64 4 (F4 (subP (subP (mulP (addP r.x r.y) (addP q.x q.y)) (mulP r.x q.x)) (mulP r.y q.y)))), (g11, 40, r64 4 (F4 (mulP r.y q.y))), (g10, 40, r64 4 (F4 (mulP r.x q.x))), (g9, 40, r64 4 (F4 (mulP r.z q.z))), (g6, 74, nums 3 (tri (mulP (mulP (subP (subP (mulP (addP r.x r.y) (addP q.x q.y)) (mulP r.x q.x)) (mulP r.y q.y)) (mulP r.z q.z)) (subP (mulP (mulP r.z q.z) (mulP r.z q.z)) (mulP dP (mulP (mulP r.x q.x) (mulP r.y q.y))))) (mulP (mulP (addP (mulP r.y q.y) (mulP r.x q.x)) (mulP r.z q.z)) (addP (mulP (mulP r.z q.z) (mulP r.z q.z)) (mulP dP (mulP (mulP r.x q.x) (mulP r.y q.y))))) (mulP (addP (mulP (mulP r.z q.z) (mulP r.z q.z)) (mulP dP (mulP (mulP r.x q.x) (mulP r.y q.y)))) (subP (mulP (mulP r.z q.z) (mulP r.z q.z)) (mulP dP (mulP (mulP r.x q.x) (mulP r.y q.y))))))), (g4, 74, nums 3 (tri q.x q.y q.z)), (w.heap.size, 74, nums 3 (tri r.x r.y r.z))] else [(g22, 40, r64 4 (F4 (subP (mulP (mulP r.z q.z) (mulP r.z q.z)) (mulP dP (mulP (mulP r.x q.x) (mulP r.y q.y)))))), (g21, 40, r64 4 (F4 (addP (mulP (mulP r.z q.z) (mulP r.z q.z)) (mulP dP (mulP (mulP r.x q.x) (mulP r.y q.y)))))), (g18, 40, r64 4 (F4 (mulP dP (mulP (mulP r.x q.x) (mulP r.y q.y))))), (g17, 40, r64 4 (F4 (mulP (mulP r.z q.z) (mulP r.z q.z)))), (g14, 40, r64 4 (F4 (subP (subP (mulP (addP r.x r.y) (addP q.x q.y)) (mulP r.x q.x)) (mulP r.y q.y)))), (g11, 40, r64 4 (F4 (mulP r.y q.y))), (g10, 40, r64 4 (F4 (mulP r.x q.x))), (g9, 40, r64 4 (F4 (mulP r.z q.z))), (g6, 74, nums 3 (tri 0 0 0)), (g4, 74, nums 3 (tri q.x q.y q.z)), (w.heap.size, 74, nums 3 (tri r.x r.y r.z))]) 16 1001 []) (fun _ => false) (by kernel_rfl) (KM.begin h20 hn23 (lows hn23 h20 (fun b _ => by cases b <;> simp only [cond_true, cond_false, List.map_cons, List.map_nil])) _) ?_
  refine kA 0 9 (.agg (r64 4 (F4 (subP (subP (mulP (addP r.x r.y) (addP q.x q.y)) (mulP r.x q.x)) (mulP r.y q.y))))) rfl rfl rfl (fun _ => rfl) (fun qv L wx hk hT => ?_) ?_
  · exact lands_load _ _ rfl _ rfl _ _ _ (hk.blk _ m4) Tryz.underlying40 rfl (fe_size _) hT
  simp only [pu]
  refine kA 1 9 (.agg (r64 4 (F4 (mulP r.z q.z)))) rfl rfl rfl (fun _ => rfl) (fun qv L wx hk hT => ?_) ?_
  · exact lands_load _ _ rfl _ rfl _ _ _ (hk.blk _ (.tail _ (m6))) Tryz.underlying40 rfl (fe_size _) hT
  simp only [pu]
  refine kC 2 rfl (fun wx => fmulP (subP (subP (mulP (addP r.x r.y) (addP q.x q.y)) (mulP r.x q.x)) (mulP r.y q.y)) (mulP r.z q.z) wx (subP_lt _ _) (mulP_lt _ _)) ?_
  simp only [pu]
  refine kA 3 9 (.agg (r64 4 (F4 (subP (mulP (mulP r.z q.z) (mulP r.z q.z)) (mulP dP (mulP (mulP r.x q.x) (mulP r.y q.y))))))) rfl rfl rfl (fun _ => rfl) (fun qv L wx hk hT => ?_) ?_
  · exact lands_load _ _ rfl _ rfl _ _ _ (hk.blk _ m0) Tryz.underlying40 rfl (fe_size _) hT
  simp only [pu]
  refine kC 4 rfl (fun wx => fmulP (mulP (subP (subP (mulP (addP r.x r.y) (addP q.x q.y)) (mulP r.x q.x)) (mulP r.y q.y)) (mulP r.z q.z)) (subP (mulP (mulP r.z q.z) (mulP r.z q.z)) (mulP dP (mulP (mulP r.x q.x) (mulP r.y q.y)))) wx (mulP_lt _ _) (subP_lt _ _)) ?_
  simp only [pu]
  refine kA 5 9 (.agg (r64 4 (F4 (mulP r.y q.y)))) rfl rfl rfl (fun _ => rfl) (fun qv L wx hk hT => ?_) ?_
  · exact lands_load _ _ rfl _ rfl _ _ _ (hk.blk _ m5) Tryz.underlying40 rfl (fe_size _) hT
  simp only [pu]
  refine kA 6 9 (.agg (r64 4 (F4 (mulP r.x q.x)))) rfl rfl rfl (fun _ => rfl) (fun qv L wx hk hT => ?_) ?_
  · exact lands_load _ _ rfl _ rfl _ _ _ (hk.blk _ m6) Tryz.underlying40 rfl (fe_size _) hT
  simp only [pu]
  refine kC 7 rfl (fun wx => faddP (mulP r.y q.y) (mulP r.x q.x) wx (mulP_lt _ _) (mulP_lt _ _)) ?_
  simp only [pu]
  refine kA 8 9 (.agg (r64 4 (F4 (mulP r.z q.z)))) rfl rfl rfl (fun _ => rfl) (fun qv L wx hk hT => ?_) ?_
  · exact lands_load _ _ rfl _ rfl _ _ _ (hk.blk _ (.tail _ (m6))) Tryz.underlying40 rfl (fe_size _) hT
  simp only [pu]
  refine kC 9 rfl (fun wx => fmulP (addP (mulP r.y q.y) (mulP r.x q.x)) (mulP r.z q.z) wx (addP_lt _ _) (mulP_lt _ _)) ?_
  simp only [pu]
  refine kA 10 9 (.agg (r64 4 (F4 (addP (mulP (mulP r.z q.z) (mulP r.z q.z)) (mulP dP (mulP (mulP r.x q.x) (mulP r.y q.y))))))) rfl rfl rfl (fun _ => rfl) (fun qv L wx hk hT => ?_) ?_
  · exact lands_load _ _ rfl _ rfl _ _ _ (hk.blk _ m1) Tryz.underlying40 rfl (fe_size _) hT
  simp only [pu]
  refine kC 11 rfl (fun wx => fmulP (mulP (addP (mulP r.y q.y) (mulP r.x q.x)) (mulP r.z q.z)) (addP (mulP (mulP r.z q.z) (mulP r.z q.z)) (mulP dP (mulP (mulP r.x q.x) (mulP r.y q.y)))) wx (mulP_lt _ _) (addP_lt _ _)) ?_
  simp only [pu]
  refine kA 12 9 (.agg (r64 4 (F4 (addP (mulP (mulP r.z q.z) (mulP r.z q.z)) (mulP dP (mulP (mulP r.x q.x) (mulP r.y q.y))))))) rfl rfl rfl (fun _ => rfl) (fun qv L wx hk hT => ?_) ?_
  · exact lands_load _ _ rfl _ rfl _ _ _ (hk.blk _ m1) Tryz.underlying40 rfl (fe_size _) hT
  simp only [pu]
  refine kA 13 9 (.agg (r64 4 (F4 (subP (mulP (mulP r.z q.z) (mulP r.z q.z)) (mulP dP (mulP (mulP r.x q.x) (mulP r.y q.y))))))) rfl rfl rfl (fun _ => rfl) (fun qv L wx hk hT => ?_) ?_
  · exact lands_load _ _ rfl _ rfl _ _ _ (hk.blk _ m0) Tryz.underlying40 rfl (fe_size _) hT
  simp only [pu]
  refine kC 14 rfl (fun wx => fmulP (addP (mulP (mulP r.z q.z) (mulP r.z q.z)) (mulP dP (mulP (mulP r.x q.x) (mulP r.y q.y)))) (subP (mulP (mulP r.z q.z) (mulP r.z q.z)) (mulP dP (mulP (mulP r.x q.x) (mulP r.y q.y)))) wx (addP_lt _ _) (subP_lt _ _)) ?_
  simp only [pu]
  refine kW 15 (.agg (nums 3 (tri (mulP (mulP (subP (subP (mulP (addP r.x r.y) (addP q.x q.y)) (mulP r.x q.x)) (mulP r.y q.y)) (mulP r.z q.z)) (subP (mulP (mulP r.z q.z) (mulP r.z q.z)) (mulP dP (mulP (mulP r.x q.x) (mulP r.y q.y))))) (mulP (mulP (addP (mulP r.y q.y) (mulP r.x q.x)) (mulP r.z q.z)) (addP (mulP (mulP r.z q.z) (mulP r.z q.z)) (mulP dP (mulP (mulP r.x q.x) (mulP r.y q.y))))) (mulP (addP (mulP (mulP r.z q.z) (mulP r.z q.z)) (mulP dP (mulP (mulP r.x q.x) (mulP r.y q.y)))) (subP (mulP (mulP r.z q.z) (mulP r.z q.z)) (mulP dP (mulP (mulP r.x q.x) (mulP r.y q.y)))))))) rfl (fun qv L wx hT => ?_) ?_
  · exact lands_built _ _ rfl _ rfl _ (by kernel_rfl) hT
  simp only [pu]
  refine anyE_take (i := 16) undef rfl rfl (by kernel_rfl) (by kernel_rfl) (by kernel_rfl) (fun qv => ym_first (k := 8) _ _ _ (by kernel_rfl) rfl rfl rfl rfl (by kernel_rfl) (by kernel_rfl) (row_one fun _ => rfl) (fun _ => rfl) (fun _ => rfl)) ?_
  simp only [pu]
  refine anyE_done (by kernel_rfl) (fun qv w24 hK => ?_) _
  have hE := hK.outs (by kernel_rfl) (by kernel_rfl)  (b := true) (c := false) (by kernel_rfl) (by kernel_rfl)
  clear hK h20 hn23
  have h24 : KD w.heap.size w [(g22, 40, r64 4 (F4 (subP (mulP (mulP r.z q.z) (mulP r.z q.z)) (mulP dP (mulP (mulP r.x q.x) (mulP r.y q.y)))))), (g21, 40, r64 4 (F4 (addP (mulP (mulP r.z q.z) (mulP r.z q.z)) (mulP dP (mulP (mulP r.x q.x) (mulP r.y q.y)))))), (g18, 40, r64 4 (F4 (mulP dP (mulP (mulP r.x q.x) (mulP r.y q.y))))), (g17, 40, r64 4 (F4 (mulP (mulP r.z q.z) (mulP r.z q.z)))), (g14, 40, r64 4 (F4 (subP (subP (mulP (addP r.x r.y) (addP q.x q.y)) (mulP r.x q.x)) (mulP r.y q.y)))), (g11, 40, r64 4 (F4 (mulP r.y q.y))), (g10, 40, r64 4 (F4 (mulP r.x q.x))), (g9, 40, r64 4 (F4 (mulP r.z q.z))), (g6, 74, nums 3 (tri (mulP (mulP (subP (subP (mulP (addP r.x r.y) (addP q.x q.y)) (mulP r.x q.x)) (mulP r.y q.y)) (mulP r.z q.z)) (subP (mulP (mulP r.z q.z) (mulP r.z q.z)) (mulP dP (mulP (mulP r.x q.x) (mulP r.y q.y))))) (mulP (mulP (addP (mulP r.y q.y) (mulP r.x q.x)) (mulP r.z q.z)) (addP (mulP (mulP r.z q.z) (mulP r.z q.z)) (mulP dP (mulP (mulP r.x q.x) (mulP r.y q.y))))) (mulP (addP (mulP (mulP r.z q.z) (mulP r.z q.z)) (mulP dP (mulP (mulP r.x q.x) (mulP r.y q.y)))) (subP (mulP (mulP r.z q.z) (mulP r.z q.z)) (mulP dP (mulP (mulP r.x q.x) (mulP r.y q.y))))))), (g4, 74, nums 3 (tri q.x q.y q.z)), (w.heap.size, 74, nums 3 (tri r.x r.y r.z))] w24 := hE.k
  clear hE
  clear n23
  clear qv
  with_reducible (apply tn; go_at_K; go_step)
  with_reducible apply wp_ret
  repeat (first | with_reducible apply then_ret | with_reducible apply block_ret)
  exact bodyPost_ret (results_cell_row rfl _ _ g6 74 (nums 3 (tri (mulP (mulP (subP (subP (mulP (addP r.x r.y) (addP q.x q.y)) (mulP r.x q.x)) (mulP r.y q.y)) (mulP r.z q.z)) (subP (mulP (mulP r.z q.z) (mulP r.z q.z)) (mulP dP (mulP (mulP r.x q.x) (mulP r.y q.y))))) (mulP (mulP (addP (mulP r.y q.y) (mulP r.x q.x)) (mulP r.z q.z)) (addP (mulP (mulP r.z q.z) (mulP r.z q.z)) (mulP dP (mulP (mulP r.x q.x) (mulP r.y q.y))))) (mulP (addP (mulP (mulP r.z q.z) (mulP r.z q.z)) (mulP dP (mulP (mulP r.x q.x) (mulP r.y q.y)))) (subP (mulP (mulP r.z q.z) (mulP r.z q.z)) (mulP dP (mulP (mulP r.x q.x) (mulP r.y q.y))))))) (0, 0) _ rfl (h24.blk _ (.tail _ (.tail _ (m6)))) Tryz.underlying74 rfl (by kernel_rfl)) rfl ⟨by simp only [R3.plus], h24.b⟩
set_option maxRecDepth 100000 in
set_option maxHeartbeats 4000000 in
theorem qtwice_any (r : R3) (hr : r.ok) (w : World) :
    Calls Tryz.prog 97 #[.agg (nums 3 (tri r.x r.y r.z))] w fun e w' => e = .returned (.agg (nums 3 (tri r.twice.x r.twice.y r.twice.z))) ∧ Below w.heap.size w w' := by
  go_enter Tryz.func97, Tryz.ntmps97
  with_reducible (apply wp_seq_k; intro _ _)
  have h1 := KD.begin w
  with_reducible apply wp_region_lit
  refine wA h1 (box_run _ _ _ rfl rfl _) fun w2 h2 => ?_
  simp only [pu]
  clear h1
  refine wA h2 (alloc_run _ _ rfl zero_rk _) fun w3 h3 => ?_
  simp only [pu]
  clear h2
  generalize w2.heap.size = g4 at h3 ⊢
  refine wpList_nil ?_
  with_reducible (apply tn; go_at_K; go_step; apply wp_seq_k; intro _ _)
  obtain ⟨n5, hn5⟩ : ∃ n, n = w3.heap.size := ⟨_, rfl⟩
  refine wp_region_anyE (KM w.heap.size n5 w (fun _ _ => [(g4, 74, nums 3 (tri 0 0 0)), (w.heap.size, 74, nums 3 (tri r.x r.y r.z))]) 1000 1001 [⟨15, 18, 40, r64 4 (F4 0), r64 4 (F4 (mulP r.x r.x)), ptr⟩, ⟨16, 19, 40, r64 4 (F4 0), r64 4 (F4 (mulP r.y r.y)), ptr⟩, ⟨17, 20, 40, r64 4 (F4 0), r64 4 (F4 (mulP r.z r.z)), ptr⟩]) (fun i => i == 15 || i == 16 || i == 17) (by kernel_rfl) (KM.begin h3 hn5 (lows hn5 h3 (fun _ _ => rfl)) _) ?_
  refine kV 0 (.pointer (some ⟨w.heap.size, 0, none⟩)) rfl ?_
  simp only [pu]
  refine kW 1 (.agg (r64 4 (F4 r.x))) rfl (fun qv L wx hT => ?_) ?_
  · exact lands_num 0 _ _ rfl _ 3 _ rfl _ (hT.k.blk _ m1) (by decide) _ Tryz.underlying40 rfl (by kernel_rfl) hT
  simp only [pu]
  refine kV 2 (.pointer (some ⟨w.heap.size, 0, none⟩)) rfl ?_
  simp only [pu]
  refine kW 3 (.agg (r64 4 (F4 r.x))) rfl (fun qv L wx hT => ?_) ?_
  · exact lands_num 0 _ _ rfl _ 3 _ rfl _ (hT.k.blk _ m1) (by decide) _ Tryz.underlying40 rfl (by kernel_rfl) hT
  simp only [pu]
  refine kC 4 rfl (fun wx => fmulP r.x r.x wx hr.x hr.x) ?_
  simp only [pu]
  refine kV 5 (.pointer (some ⟨w.heap.size, 4, none⟩)) rfl ?_
  simp only [pu]
  refine kW 6 (.agg (r64 4 (F4 r.y))) rfl (fun qv L wx hT => ?_) ?_
  · exact lands_num 1 _ _ rfl _ 3 _ rfl _ (hT.k.blk _ m1) (by decide) _ Tryz.underlying40 rfl (by kernel_rfl) hT
  simp only [pu]
  refine kV 7 (.pointer (some ⟨w.heap.size, 4, none⟩)) rfl ?_
  simp only [pu]
  refine kW 8 (.agg (r64 4 (F4 r.y))) rfl (fun qv L wx hT => ?_) ?_
  · exact lands_num 1 _ _ rfl _ 3 _ rfl _ (hT.k.blk _ m1) (by decide) _ Tryz.underlying40 rfl (by kernel_rfl) hT
  simp only [pu]
  refine kC 9 rfl (fun wx => fmulP r.y r.y wx hr.y hr.y) ?_
  simp only [pu]
  refine kV 10 (.pointer (some ⟨w.heap.size, 8, none⟩)) rfl ?_
  simp only [pu]
  refine kW 11 (.agg (r64 4 (F4 r.z))) rfl (fun qv L wx hT => ?_) ?_
  · exact lands_num 2 _ _ rfl _ 3 _ rfl _ (hT.k.blk _ m1) (by decide) _ Tryz.underlying40 rfl (by kernel_rfl) hT
  simp only [pu]
  refine kV 12 (.pointer (some ⟨w.heap.size, 8, none⟩)) rfl ?_
  simp only [pu]
  refine kW 13 (.agg (r64 4 (F4 r.z))) rfl (fun qv L wx hT => ?_) ?_
  · exact lands_num 2 _ _ rfl _ 3 _ rfl _ (hT.k.blk _ m1) (by decide) _ Tryz.underlying40 rfl (by kernel_rfl) hT
  simp only [pu]
  refine kC 14 rfl (fun wx => fmulP r.z r.z wx hr.z hr.z) ?_
  simp only [pu]
  refine anyE_made (i := 15) rfl rfl (by kernel_rfl) (by kernel_rfl) (by kernel_rfl) (fun qv => ym_made (n := 9) ⟨15, 18, 40, r64 4 (F4 0), r64 4 (F4 (mulP r.x r.x)), ptr⟩ (by kernel_rfl) m0 (.inl (show waits .any _ 9 18 15 = true from (by kernel_rfl))) rfl (alloc_run _ _ rfl zero_fe)) ?_
  simp only [pu]
  refine anyE_made (i := 16) rfl rfl (by kernel_rfl) (by kernel_rfl) (by kernel_rfl) (fun qv => ym_made (n := 9) ⟨16, 19, 40, r64 4 (F4 0), r64 4 (F4 (mulP r.y r.y)), ptr⟩ (by kernel_rfl) m1 (.inl (show waits .any _ 9 19 16 = true from (by kernel_rfl))) rfl (alloc_run _ _ rfl zero_fe)) ?_
  simp only [pu]
  refine anyE_made (i := 17) rfl rfl (by kernel_rfl) (by kernel_rfl) (by kernel_rfl) (fun qv => ym_made (n := 9) ⟨17, 20, 40, r64 4 (F4 0), r64 4 (F4 (mulP r.z r.z)), ptr⟩ (by kernel_rfl) m2 (.inl (show waits .any _ 9 20 17 = true from (by kernel_rfl))) rfl (alloc_run _ _ rfl zero_fe)) ?_
  simp only [pu]
  refine anyE_take (i := 18) undef rfl rfl (by kernel_rfl) (by kernel_rfl) (by kernel_rfl) (fun qv => ym_stored ⟨15, 18, 40, r64 4 (F4 0), r64 4 (F4 (mulP r.x r.x)), ptr⟩ _ _ _ (by kernel_rfl) m0 rfl (by kernel_rfl) rfl rfl rfl rfl (by kernel_rfl) (by kernel_rfl) (row_one fun _ => rfl)) ?_
  simp only [pu]
  refine anyE_take (i := 19) undef rfl rfl (by kernel_rfl) (by kernel_rfl) (by kernel_rfl) (fun qv => ym_stored ⟨16, 19, 40, r64 4 (F4 0), r64 4 (F4 (mulP r.y r.y)), ptr⟩ _ _ _ (by kernel_rfl) m1 rfl (by kernel_rfl) rfl rfl rfl rfl (by kernel_rfl) (by kernel_rfl) (row_one fun _ => rfl)) ?_
  simp only [pu]
  refine anyE_take (i := 20) undef rfl rfl (by kernel_rfl) (by kernel_rfl) (by kernel_rfl) (fun qv => ym_stored ⟨17, 20, 40, r64 4 (F4 0), r64 4 (F4 (mulP r.z r.z)), ptr⟩ _ _ _ (by kernel_rfl) m2 rfl (by kernel_rfl) rfl rfl rfl rfl (by kernel_rfl) (by kernel_rfl) (row_one fun _ => rfl)) ?_
  simp only [pu]
  refine anyE_done (by kernel_rfl) (fun qv w6 hK => ?_) _
  have hE := hK.outs (by kernel_rfl) (by kernel_rfl)  (b := false) (c := false) (by kernel_rfl) (by kernel_rfl)
  clear hK h3 hn5
  obtain ⟨g7, eg7, hE'⟩ := hE.next
  clear hE
  replace eg7 : qv 15 = .pointer (some ⟨g7, 0, none⟩) := eg7
  obtain ⟨g8, eg8, hE''⟩ := hE'.next
  clear hE'
  replace eg8 : qv 16 = .pointer (some ⟨g8, 0, none⟩) := eg8
  obtain ⟨g9, eg9, hE'''⟩ := hE''.next
  clear hE''
  replace eg9 : qv 17 = .pointer (some ⟨g9, 0, none⟩) := eg9
  have h6 : KD w.heap.size w [(g9, 40, r64 4 (F4 (mulP r.z r.z))), (g8, 40, r64 4 (F4 (mulP r.y r.y))), (g7, 40, r64 4 (F4 (mulP r.x r.x))), (g4, 74, nums 3 (tri 0 0 0)), (w.heap.size, 74, nums 3 (tri r.x r.y r.z))] w6 := hE'''.k
  clear hE'''
  clear n5
  rw [eg7, eg8, eg9]
  clear eg7 eg8 eg9
  clear qv
  with_reducible (apply tn; go_at_K; go_step; apply wp_seq_k; intro _ _)
  with_reducible apply wp_region_lit
  refine wL (.agg (r64 4 (F4 (mulP r.y r.y)))) (by exact lands_load _ _ rfl _ rfl _ _ _ (h6.blk _ m1) Tryz.underlying40 rfl (fe_size _) rfl) ?_
  simp only [pu]
  refine wL (.agg (r64 4 (F4 (mulP r.x r.x)))) (by exact lands_load _ _ rfl _ rfl _ _ _ (h6.blk _ m2) Tryz.underlying40 rfl (fe_size _) rfl) ?_
  simp only [pu]
  refine wC h6 (fsubP (mulP r.y r.y) (mulP r.x r.x) w6 (mulP_lt _ _) (mulP_lt _ _)) fun w10 h10 => ?_
  simp only [pu]
  clear h6
  refine wA h10 (alloc_run _ _ rfl zero_fe _) fun w11 h11 => ?_
  simp only [pu]
  clear h10
  generalize w10.heap.size = g12 at h11 ⊢
  refine wpList_val (R := KD w.heap.size w [(g12, 40, r64 4 (F4 (subP (mulP r.y r.y) (mulP r.x r.x)))), (g9, 40, r64 4 (F4 (mulP r.z r.z))), (g8, 40, r64 4 (F4 (mulP r.y r.y))), (g7, 40, r64 4 (F4 (mulP r.x r.x))), (g4, 74, nums 3 (tri 0 0 0)), (w.heap.size, 74, nums 3 (tri r.x r.y r.z))]) undef rfl (lands_store _ _ _ rfl g12 (r64 4 (F4 (subP (mulP r.y r.y) (mulP r.x r.x)))) rfl rfl _ _ (h11.blk _ m0) (by kernel_rfl) (by kernel_rfl) (row_one fun _ => rfl) (h11.put (k := 0) rfl _)) ?_
  intro w13 h13
  simp only [pu]
  clear h11
  refine wpList_nil ?_
  with_reducible (apply tn; go_at_K; go_step; apply wp_seq_k; intro _ _)
  obtain ⟨n14, hn14⟩ : ∃ n, n = w13.heap.size := ⟨_, rfl⟩
  refine wp_region_anyE (KM w.heap.size n14 w (fun _ _ => [(g12, 40, r64 4 (F4 (subP (mulP r.y r.y) (mulP r.x r.x)))), (g9, 40, r64 4 (F4 (mulP r.z r.z))), (g8, 40, r64 4 (F4 (mulP r.y r.y))), (g7, 40, r64 4 (F4 (mulP r.x r.x))), (g4, 74, nums 3 (tri 0 0 0)), (w.heap.size, 74, nums 3 (tri r.x r.y r.z))]) 1000 1001 [⟨5, 6, 40, r64 4 (F4 0), r64 4 (F4 (subP (addP (mulP r.z r.z) (mulP r.z r.z)) (subP (mulP r.y r.y) (mulP r.x r.x)))), ptr⟩]) (fun i => i == 5) (by kernel_rfl) (KM.begin h13 hn14 (lows hn14 h13 (fun _ _ => rfl)) _) ?_
  refine kW 0 (.agg (r64 4 (F4 (mulP r.z r.z)))) rfl (fun qv L wx hT => ?_) ?_
  · exact lands_load _ _ rfl _ rfl _ _ _ (hT.k.blk _ m1) Tryz.underlying40 rfl (fe_size _) hT
  simp only [pu]
  refine kW 1 (.agg (r64 4 (F4 (mulP r.z r.z)))) rfl (fun qv L wx hT => ?_) ?_
  · exact lands_load _ _ rfl _ rfl _ _ _ (hT.k.blk _ m1) Tryz.underlying40 rfl (fe_size _) hT
  simp only [pu]
  refine kC 2 rfl (fun wx => faddP (mulP r.z r.z) (mulP r.z r.z) wx (mulP_lt _ _) (mulP_lt _ _)) ?_
  simp only [pu]
  refine kW 3 (.agg (r64 4 (F4 (subP (mulP r.y r.y) (mulP r.x r.x))))) rfl (fun qv L wx hT => ?_) ?_
  · exact lands_load _ _ rfl _ rfl _ _ _ (hT.k.blk _ m0) Tryz.underlying40 rfl (fe_size _) hT
  simp only [pu]
  refine kC 4 rfl (fun wx => fsubP (addP (mulP r.z r.z) (mulP r.z r.z)) (subP (mulP r.y r.y) (mulP r.x r.x)) wx (addP_lt _ _) (subP_lt _ _)) ?_
  simp only [pu]
  refine anyE_made (i := 5) rfl rfl (by kernel_rfl) (by kernel_rfl) (by kernel_rfl) (fun qv => ym_made (n := 9) ⟨5, 6, 40, r64 4 (F4 0), r64 4 (F4 (subP (addP (mulP r.z r.z) (mulP r.z r.z)) (subP (mulP r.y r.y) (mulP r.x r.x)))), ptr⟩ (by kernel_rfl) m0 (.inl (show waits .any _ 9 6 5 = true from (by kernel_rfl))) rfl (alloc_run _ _ rfl zero_fe)) ?_
  simp only [pu]
  refine anyE_take (i := 6) undef rfl rfl (by kernel_rfl) (by kernel_rfl) (by kernel_rfl) (fun qv => ym_stored ⟨5, 6, 40, r64 4 (F4 0), r64 4 (F4 (subP (addP (mulP r.z r.z) (mulP r.z r.z)) (subP (mulP r.y r.y) (mulP r.x r.x)))), ptr⟩ _ _ _ (by kernel_rfl) m0 rfl (by kernel_rfl) rfl rfl rfl rfl (by kernel_rfl) (by kernel_rfl) (row_one fun _ => rfl)) ?_
  simp only [pu]
  refine anyE_done (by kernel_rfl) (fun qv w15 hK => ?_) _
  have hE := hK.outs (by kernel_rfl) (by kernel_rfl)  (b := false) (c := false) (by kernel_rfl) (by kernel_rfl)
  clear hK h13 hn14
  obtain ⟨g16, eg16, hE'⟩ := hE.next
  clear hE
  replace eg16 : qv 5 = .pointer (some ⟨g16, 0, none⟩) := eg16
  have h15 : KD w.heap.size w [(g16, 40, r64 4 (F4 (subP (addP (mulP r.z r.z) (mulP r.z r.z)) (subP (mulP r.y r.y) (mulP r.x r.x))))), (g12, 40, r64 4 (F4 (subP (mulP r.y r.y) (mulP r.x r.x)))), (g9, 40, r64 4 (F4 (mulP r.z r.z))), (g8, 40, r64 4 (F4 (mulP r.y r.y))), (g7, 40, r64 4 (F4 (mulP r.x r.x))), (g4, 74, nums 3 (tri 0 0 0)), (w.heap.size, 74, nums 3 (tri r.x r.y r.z))] w15 := hE'.k
  clear hE'
  clear n14
  rw [eg16]
  clear eg16
  clear qv
  with_reducible (apply tn; go_at_K; go_step; apply wp_seq_k; intro _ _)
  obtain ⟨n17, hn17⟩ : ∃ n, n = w15.heap.size := ⟨_, rfl⟩
  refine wp_region_anyE (KM w.heap.size n17 w (fun b _ => bif b then [(g16, 40, r64 4 (F4 (subP (addP (mulP r.z r.z) (mulP r.z r.z)) (subP (mulP r.y r.y) (mulP r.x r.x))))), (g12, 40, r64 4 (F4 (subP (mulP r.y r.y) (mulP r.x r.x)))), (g9, 40, r64 4 (F4 (mulP r.z r.z))), (g8, 40, r64 4 (F4 (mulP r.y r.y))), (g7, 40, r64 4 (F4 (mulP r.x r.x))), (g4, 74, nums 3 (tri (mulP (mulP (addP r.x r.x) r.y) (subP (addP (mulP r.z r.z) (mulP r.z r.z)) (subP (mulP r.y r.y) (mulP r.x r.x)))) (mulP (addP (mulP r.y r.y) (mulP r.x r.x)) (subP (mulP r.y r.y) (mulP r.x r.x))) (mulP (subP (mulP r.y r.y) (mulP r.x r.x)) (subP (addP (mulP r.z r.z) (mulP r.z r.z)) (subP (mulP r.y r.y) (mulP r.x r.x)))))), (w.heap.size, 74, nums 3 (tri r.x r.y r.z))] else [(g16, 40, r64 4 (F4 (subP (addP (mulP r.z r.z) (mulP r.z r.z)) (subP (mulP r.y r.y) (mulP r.x r.x))))), (g12, 40, r64 4 (F4 (subP (mulP r.y r.y) (mulP r.x r.x)))), (g9, 40, r64 4 (F4 (mulP r.z r.z))), (g8, 40, r64 4 (F4 (mulP r.y r.y))), (g7, 40, r64 4 (F4 (mulP r.x r.x))), (g4, 74, nums 3 (tri 0 0 0)), (w.heap.size, 74, nums 3 (tri r.x r.y r.z))]) 19 1001 []) (fun _ => false) (by kernel_rfl) (KM.begin h15 hn17 (lows hn17 h15 (fun b _ => by cases b <;> simp only [cond_true, cond_false, List.map_cons, List.map_nil])) _) ?_
  refine kV 0 (.pointer (some ⟨w.heap.size, 0, none⟩)) rfl ?_
  simp only [pu]
  refine kA 1 9 (.agg (r64 4 (F4 r.x))) rfl rfl rfl (fun _ => rfl) (fun qv L wx hk hT => ?_) ?_
  · exact lands_num 0 _ _ rfl _ 3 _ rfl _ (hk.blk _ m6) (by decide) _ Tryz.underlying40 rfl (by kernel_rfl) hT
  simp only [pu]
  refine kV 2 (.pointer (some ⟨w.heap.size, 0, none⟩)) rfl ?_
  simp only [pu]
  refine kA 3 9 (.agg (r64 4 (F4 r.x))) rfl rfl rfl (fun _ => rfl) (fun qv L wx hk hT => ?_) ?_
  · exact lands_num 0 _ _ rfl _ 3 _ rfl _ (hk.blk _ m6) (by decide) _ Tryz.underlying40 rfl (by kernel_rfl) hT
  simp only [pu]
  refine kC 4 rfl (fun wx => faddP r.x r.x wx hr.x hr.x) ?_
  simp only [pu]
  refine kV 5 (.pointer (some ⟨w.heap.size, 4, none⟩)) rfl ?_
  simp only [pu]
  refine kA 6 9 (.agg (r64 4 (F4 r.y))) rfl rfl rfl (fun _ => rfl) (fun qv L wx hk hT => ?_) ?_
  · exact lands_num 1 _ _ rfl _ 3 _ rfl _ (hk.blk _ m6) (by decide) _ Tryz.underlying40 rfl (by kernel_rfl) hT
  simp only [pu]
  refine kC 7 rfl (fun wx => fmulP (addP r.x r.x) r.y wx (addP_lt _ _) hr.y) ?_
  simp only [pu]
  refine kA 8 9 (.agg (r64 4 (F4 (subP (addP (mulP r.z r.z) (mulP r.z r.z)) (subP (mulP r.y r.y) (mulP r.x r.x)))))) rfl rfl rfl (fun _ => rfl) (fun qv L wx hk hT => ?_) ?_
  · exact lands_load _ _ rfl _ rfl _ _ _ (hk.blk _ m0) Tryz.underlying40 rfl (fe_size _) hT
  simp only [pu]
  refine kC 9 rfl (fun wx => fmulP (mulP (addP r.x r.x) r.y) (subP (addP (mulP r.z r.z) (mulP r.z r.z)) (subP (mulP r.y r.y) (mulP r.x r.x))) wx (mulP_lt _ _) (subP_lt _ _)) ?_
  simp only [pu]
  refine kA 10 9 (.agg (r64 4 (F4 (mulP r.y r.y)))) rfl rfl rfl (fun _ => rfl) (fun qv L wx hk hT => ?_) ?_
  · exact lands_load _ _ rfl _ rfl _ _ _ (hk.blk _ m3) Tryz.underlying40 rfl (fe_size _) hT
  simp only [pu]
  refine kA 11 9 (.agg (r64 4 (F4 (mulP r.x r.x)))) rfl rfl rfl (fun _ => rfl) (fun qv L wx hk hT => ?_) ?_
  · exact lands_load _ _ rfl _ rfl _ _ _ (hk.blk _ m4) Tryz.underlying40 rfl (fe_size _) hT
  simp only [pu]
  refine kC 12 rfl (fun wx => faddP (mulP r.y r.y) (mulP r.x r.x) wx (mulP_lt _ _) (mulP_lt _ _)) ?_
  simp only [pu]
  refine kA 13 9 (.agg (r64 4 (F4 (subP (mulP r.y r.y) (mulP r.x r.x))))) rfl rfl rfl (fun _ => rfl) (fun qv L wx hk hT => ?_) ?_
  · exact lands_load _ _ rfl _ rfl _ _ _ (hk.blk _ m1) Tryz.underlying40 rfl (fe_size _) hT
  simp only [pu]
  refine kC 14 rfl (fun wx => fmulP (addP (mulP r.y r.y) (mulP r.x r.x)) (subP (mulP r.y r.y) (mulP r.x r.x)) wx (addP_lt _ _) (subP_lt _ _)) ?_
  simp only [pu]
  refine kA 15 9 (.agg (r64 4 (F4 (subP (mulP r.y r.y) (mulP r.x r.x))))) rfl rfl rfl (fun _ => rfl) (fun qv L wx hk hT => ?_) ?_
  · exact lands_load _ _ rfl _ rfl _ _ _ (hk.blk _ m1) Tryz.underlying40 rfl (fe_size _) hT
  simp only [pu]
  refine kA 16 9 (.agg (r64 4 (F4 (subP (addP (mulP r.z r.z) (mulP r.z r.z)) (subP (mulP r.y r.y) (mulP r.x r.x)))))) rfl rfl rfl (fun _ => rfl) (fun qv L wx hk hT => ?_) ?_
  · exact lands_load _ _ rfl _ rfl _ _ _ (hk.blk _ m0) Tryz.underlying40 rfl (fe_size _) hT
  simp only [pu]
  refine kC 17 rfl (fun wx => fmulP (subP (mulP r.y r.y) (mulP r.x r.x)) (subP (addP (mulP r.z r.z) (mulP r.z r.z)) (subP (mulP r.y r.y) (mulP r.x r.x))) wx (subP_lt _ _) (subP_lt _ _)) ?_
  simp only [pu]
  refine kW 18 (.agg (nums 3 (tri (mulP (mulP (addP r.x r.x) r.y) (subP (addP (mulP r.z r.z) (mulP r.z r.z)) (subP (mulP r.y r.y) (mulP r.x r.x)))) (mulP (addP (mulP r.y r.y) (mulP r.x r.x)) (subP (mulP r.y r.y) (mulP r.x r.x))) (mulP (subP (mulP r.y r.y) (mulP r.x r.x)) (subP (addP (mulP r.z r.z) (mulP r.z r.z)) (subP (mulP r.y r.y) (mulP r.x r.x))))))) rfl (fun qv L wx hT => ?_) ?_
  · exact lands_built _ _ rfl _ rfl _ (by kernel_rfl) hT
  simp only [pu]
  refine anyE_take (i := 19) undef rfl rfl (by kernel_rfl) (by kernel_rfl) (by kernel_rfl) (fun qv => ym_first (k := 5) _ _ _ (by kernel_rfl) rfl rfl rfl rfl (by kernel_rfl) (by kernel_rfl) (row_one fun _ => rfl) (fun _ => rfl) (fun _ => rfl)) ?_
  simp only [pu]
  refine anyE_done (by kernel_rfl) (fun qv w18 hK => ?_) _
  have hE := hK.outs (by kernel_rfl) (by kernel_rfl)  (b := true) (c := false) (by kernel_rfl) (by kernel_rfl)
  clear hK h15 hn17
  have h18 : KD w.heap.size w [(g16, 40, r64 4 (F4 (subP (addP (mulP r.z r.z) (mulP r.z r.z)) (subP (mulP r.y r.y) (mulP r.x r.x))))), (g12, 40, r64 4 (F4 (subP (mulP r.y r.y) (mulP r.x r.x)))), (g9, 40, r64 4 (F4 (mulP r.z r.z))), (g8, 40, r64 4 (F4 (mulP r.y r.y))), (g7, 40, r64 4 (F4 (mulP r.x r.x))), (g4, 74, nums 3 (tri (mulP (mulP (addP r.x r.x) r.y) (subP (addP (mulP r.z r.z) (mulP r.z r.z)) (subP (mulP r.y r.y) (mulP r.x r.x)))) (mulP (addP (mulP r.y r.y) (mulP r.x r.x)) (subP (mulP r.y r.y) (mulP r.x r.x))) (mulP (subP (mulP r.y r.y) (mulP r.x r.x)) (subP (addP (mulP r.z r.z) (mulP r.z r.z)) (subP (mulP r.y r.y) (mulP r.x r.x)))))), (w.heap.size, 74, nums 3 (tri r.x r.y r.z))] w18 := hE.k
  clear hE
  clear n17
  clear qv
  with_reducible (apply tn; go_at_K; go_step)
  with_reducible apply wp_ret
  repeat (first | with_reducible apply then_ret | with_reducible apply block_ret)
  exact bodyPost_ret (results_cell_row rfl _ _ g4 74 (nums 3 (tri (mulP (mulP (addP r.x r.x) r.y) (subP (addP (mulP r.z r.z) (mulP r.z r.z)) (subP (mulP r.y r.y) (mulP r.x r.x)))) (mulP (addP (mulP r.y r.y) (mulP r.x r.x)) (subP (mulP r.y r.y) (mulP r.x r.x))) (mulP (subP (mulP r.y r.y) (mulP r.x r.x)) (subP (addP (mulP r.z r.z) (mulP r.z r.z)) (subP (mulP r.y r.y) (mulP r.x r.x)))))) (0, 0) _ rfl (h18.blk _ m5) Tryz.underlying74 rfl (by kernel_rfl)) rfl ⟨by simp only [R3.twice], h18.b⟩
set_option maxRecDepth 100000 in
set_option maxHeartbeats 400000 in
theorem qt16_any (r : R3) (hr : r.ok) (w : World) :
    Calls Tryz.prog 61 #[.agg (nums 3 (tri r.x r.y r.z))] w fun e w' => e = .returned (.agg (nums 3 (tri r.t16.x r.t16.y r.t16.z))) ∧ Below w.heap.size w w' := by
  go_enter Tryz.func61, Tryz.ntmps61
  with_reducible (apply wp_seq_k; intro _ _)
  have h1 := KD.begin w
  with_reducible apply wp_region_lit
  refine wA h1 (box_run _ _ _ rfl rfl _) fun w2 h2 => ?_
  simp only [pu]
  clear h1
  refine wA h2 (alloc_run _ _ rfl zero_rk _) fun w3 h3 => ?_
  simp only [pu]
  clear h2
  generalize w2.heap.size = g4 at h3 ⊢
  refine wpList_nil ?_
  with_reducible (apply tn; go_at_K; go_step; apply wp_seq_k; intro _ _)
  with_reducible apply wp_region_lit
  refine wL (.agg (nums 3 (tri r.x r.y r.z))) (by exact lands_load _ _ rfl _ rfl _ _ _ (h3.blk _ m1) Tryz.underlying74 rfl (by kernel_rfl) rfl) ?_
  simp only [pu]
  refine wC h3 (qtwice_any r hr w3) fun w5 h5 => ?_
  simp only [pu]
  clear h3
  refine wC h5 (qtwice_any (R3.twice r) (R3.twice_ok) w5) fun w6 h6 => ?_
  simp only [pu]
  clear h5
  refine wC h6 (qtwice_any (R3.twice (R3.twice r)) (R3.twice_ok) w6) fun w7 h7 => ?_
  simp only [pu]
  clear h6
  refine wC h7 (qtwice_any (R3.twice (R3.twice (R3.twice r))) (R3.twice_ok) w7) fun w8 h8 => ?_
  simp only [pu]
  clear h7
  refine wpList_val (R := KD w.heap.size w [(g4, 74, nums 3 (tri ((R3.twice (R3.twice (R3.twice (R3.twice r)))).x) ((R3.twice (R3.twice (R3.twice (R3.twice r)))).y) ((R3.twice (R3.twice (R3.twice (R3.twice r)))).z))), (w.heap.size, 74, nums 3 (tri r.x r.y r.z))]) undef rfl (lands_store _ _ _ rfl g4 (nums 3 (tri ((R3.twice (R3.twice (R3.twice (R3.twice r)))).x) ((R3.twice (R3.twice (R3.twice (R3.twice r)))).y) ((R3.twice (R3.twice (R3.twice (R3.twice r)))).z))) rfl rfl _ _ (h8.blk _ m0) (by kernel_rfl) (by kernel_rfl) (row_one fun _ => rfl) (h8.put (k := 0) rfl _)) ?_
  intro w9 h9
  simp only [pu]
  clear h8
  refine wpList_nil ?_
  with_reducible (apply tn; go_at_K; go_step)
  with_reducible apply wp_ret
  repeat (first | with_reducible apply then_ret | with_reducible apply block_ret)
  exact bodyPost_ret (results_cell_row rfl _ _ g4 74 (nums 3 (tri ((R3.twice (R3.twice (R3.twice (R3.twice r)))).x) ((R3.twice (R3.twice (R3.twice (R3.twice r)))).y) ((R3.twice (R3.twice (R3.twice (R3.twice r)))).z))) (0, 0) _ rfl (h9.blk _ m0) Tryz.underlying74 rfl (by kernel_rfl)) rfl ⟨by simp only [R3.t16], h9.b⟩
set_option maxRecDepth 100000 in
set_option maxHeartbeats 400000 in
theorem qadd_any (P : Pt) (hx : P.x < M256) (hy : P.y < M256) (Q : Pt) (kx : Q.x < M256) (ky : Q.y < M256) (w : World) :
    Calls Tryz.prog 26 #[.agg (nums 2 (two P.x P.y)), .agg (nums 2 (two Q.x Q.y))] w fun e w' => e = .returned (.agg (nums 2 (two (addV P Q).x (addV P Q).y))) ∧ Below w.heap.size w w' := by
  go_enter Tryz.func26, Tryz.ntmps26
  with_reducible (apply wp_seq_k; intro _ _)
  have h1 := KD.begin w
  with_reducible apply wp_region_lit
  refine wA h1 (box_run _ _ _ rfl rfl _) fun w2 h2 => ?_
  simp only [pu]
  clear h1
  refine wA h2 (box_run _ _ _ rfl rfl _) fun w3 h3 => ?_
  simp only [pu]
  clear h2
  generalize w2.heap.size = g4 at h3 ⊢
  refine wA h3 (alloc_run _ _ rfl zero_pt _) fun w5 h5 => ?_
  simp only [pu]
  clear h3
  generalize w3.heap.size = g6 at h5 ⊢
  refine wpList_nil ?_
  with_reducible (apply tn; go_at_K; go_step; apply wp_seq_k; intro _ _)
  obtain ⟨n7, hn7⟩ : ∃ n, n = w5.heap.size := ⟨_, rfl⟩
  refine wp_region_anyE (KM w.heap.size n7 w (fun b _ => bif b then [(g6, 42, nums 2 (two ((R3.plain (R3.plus (R3.mk ((cnt P).x) ((cnt P).y) 1) (R3.mk ((cnt Q).x) ((cnt Q).y) 1))).x) ((R3.plain (R3.plus (R3.mk ((cnt P).x) ((cnt P).y) 1) (R3.mk ((cnt Q).x) ((cnt Q).y) 1))).y))), (g4, 42, nums 2 (two Q.x Q.y)), (w.heap.size, 42, nums 2 (two P.x P.y))] else [(g6, 42, nums 2 (two 0 0)), (g4, 42, nums 2 (two Q.x Q.y)), (w.heap.size, 42, nums 2 (two P.x P.y))]) 8 1001 []) (fun _ => false) (by kernel_rfl) (KM.begin h5 hn7 (lows hn7 h5 (fun b _ => by cases b <;> simp only [cond_true, cond_false, List.map_cons, List.map_nil])) _) ?_
  refine kA 0 9 (.agg (nums 2 (two P.x P.y))) rfl rfl rfl (fun _ => rfl) (fun qv L wx hk hT => ?_) ?_
  · exact lands_load _ _ rfl _ rfl _ _ _ (hk.blk _ m2) Tryz.underlying42 rfl (by kernel_rfl) hT
  simp only [pu]
  refine kC 1 rfl (fun wx => qcounted_any P hx hy wx) ?_
  simp only [pu]
  refine kC 2 rfl (fun wx => qlifted_any (cnt P) wx) ?_
  simp only [pu]
  refine kA 3 9 (.agg (nums 2 (two Q.x Q.y))) rfl rfl rfl (fun _ => rfl) (fun qv L wx hk hT => ?_) ?_
  · exact lands_load _ _ rfl _ rfl _ _ _ (hk.blk _ m1) Tryz.underlying42 rfl (by kernel_rfl) hT
  simp only [pu]
  refine kC 4 rfl (fun wx => qcounted_any Q kx ky wx) ?_
  simp only [pu]
  refine kC 5 rfl (fun wx => qlifted_any (cnt Q) wx) ?_
  simp only [pu]
  refine kC 6 rfl (fun wx => qplus_any (R3.mk ((cnt P).x) ((cnt P).y) 1) ⟨cnt_x_lt, cnt_y_lt, (show 1 < M256 by decide)⟩ (R3.mk ((cnt Q).x) ((cnt Q).y) 1) ⟨cnt_x_lt, cnt_y_lt, (show 1 < M256 by decide)⟩ wx) ?_
  simp only [pu]
  refine kC 7 rfl (fun wx => qplain_any (R3.plus (R3.mk ((cnt P).x) ((cnt P).y) 1) (R3.mk ((cnt Q).x) ((cnt Q).y) 1)) (R3.plus_ok) wx) ?_
  simp only [pu]
  refine anyE_take (i := 8) undef rfl rfl (by kernel_rfl) (by kernel_rfl) (by kernel_rfl) (fun qv => ym_first (k := 0) _ _ _ (by kernel_rfl) rfl rfl rfl rfl (by kernel_rfl) (by kernel_rfl) (row_one fun _ => rfl) (fun _ => rfl) (fun _ => rfl)) ?_
  simp only [pu]
  refine anyE_done (by kernel_rfl) (fun qv w8 hK => ?_) _
  have hE := hK.outs (by kernel_rfl) (by kernel_rfl)  (b := true) (c := false) (by kernel_rfl) (by kernel_rfl)
  clear hK h5 hn7
  have h8 : KD w.heap.size w [(g6, 42, nums 2 (two ((R3.plain (R3.plus (R3.mk ((cnt P).x) ((cnt P).y) 1) (R3.mk ((cnt Q).x) ((cnt Q).y) 1))).x) ((R3.plain (R3.plus (R3.mk ((cnt P).x) ((cnt P).y) 1) (R3.mk ((cnt Q).x) ((cnt Q).y) 1))).y))), (g4, 42, nums 2 (two Q.x Q.y)), (w.heap.size, 42, nums 2 (two P.x P.y))] w8 := hE.k
  clear hE
  clear n7
  clear qv
  with_reducible (apply tn; go_at_K; go_step)
  with_reducible apply wp_ret
  repeat (first | with_reducible apply then_ret | with_reducible apply block_ret)
  exact bodyPost_ret (results_cell_row rfl _ _ g6 42 (nums 2 (two ((R3.plain (R3.plus (R3.mk ((cnt P).x) ((cnt P).y) 1) (R3.mk ((cnt Q).x) ((cnt Q).y) 1))).x) ((R3.plain (R3.plus (R3.mk ((cnt P).x) ((cnt P).y) 1) (R3.mk ((cnt Q).x) ((cnt Q).y) 1))).y))) (0, 0) _ rfl (h8.blk _ m0) Tryz.underlying42 rfl (by kernel_rfl)) rfl ⟨by simp only [addV], h8.b⟩
set_option maxRecDepth 100000 in
set_option maxHeartbeats 400000 in
theorem qneg_any (P : Pt) (hx : P.x < M256) (hy : P.y < M256) (w : World) :
    Calls Tryz.prog 29 #[.agg (nums 2 (two P.x P.y))] w fun e w' => e = .returned (.agg (nums 2 (two (pneg (cnt P)).x (pneg (cnt P)).y))) ∧ Below w.heap.size w w' := by
  go_enter Tryz.func29, Tryz.ntmps29
  with_reducible (apply wp_seq_k; intro _ _)
  have h1 := KD.begin w
  with_reducible apply wp_region_lit
  refine wA h1 (box_run _ _ _ rfl rfl _) fun w2 h2 => ?_
  simp only [pu]
  clear h1
  refine wA h2 (alloc_run _ _ rfl zero_pt _) fun w3 h3 => ?_
  simp only [pu]
  clear h2
  generalize w2.heap.size = g4 at h3 ⊢
  refine wpList_nil ?_
  with_reducible (apply tn; go_at_K; go_step; apply wp_seq_k; intro _ _)
  with_reducible apply wp_region_lit
  refine wL (.agg (nums 2 (two P.x P.y))) (by exact lands_load _ _ rfl _ rfl _ _ _ (h3.blk _ m1) Tryz.underlying42 rfl (by kernel_rfl) rfl) ?_
  simp only [pu]
  refine wC h3 (qcounted_any P hx hy w3) fun w5 h5 => ?_
  simp only [pu]
  clear h3
  refine wpList_val (R := KD w.heap.size w [(g4, 42, nums 2 (two 0 0)), (w.heap.size, 42, nums 2 (two ((cnt P).x) ((cnt P).y)))]) undef rfl (lands_store _ _ _ rfl w.heap.size (nums 2 (two ((cnt P).x) ((cnt P).y))) rfl rfl _ _ (h5.blk _ m1) (by kernel_rfl) (by kernel_rfl) (row_one fun _ => rfl) (h5.put (k := 1) rfl _)) ?_
  intro w6 h6
  simp only [pu]
  clear h5
  refine wpList_nil ?_
  with_reducible (apply tn; go_at_K; go_step; apply wp_seq_k; intro _ _)
  obtain ⟨n7, hn7⟩ : ∃ n, n = w6.heap.size := ⟨_, rfl⟩
  refine wp_region_anyE (KM w.heap.size n7 w (fun b _ => bif b then [(g4, 42, nums 2 (two (negP ((cnt P).x)) ((cnt P).y))), (w.heap.size, 42, nums 2 (two ((cnt P).x) ((cnt P).y)))] else [(g4, 42, nums 2 (two 0 0)), (w.heap.size, 42, nums 2 (two ((cnt P).x) ((cnt P).y)))]) 6 1001 []) (fun _ => false) (by kernel_rfl) (KM.begin h6 hn7 (lows hn7 h6 (fun b _ => by cases b <;> simp only [cond_true, cond_false, List.map_cons, List.map_nil])) _) ?_
  refine kV 0 (.pointer (some ⟨w.heap.size, 0, none⟩)) rfl ?_
  simp only [pu]
  refine kA 1 9 (.agg (r64 4 (F4 ((cnt P).x)))) rfl rfl rfl (fun _ => rfl) (fun qv L wx hk hT => ?_) ?_
  · exact lands_num 0 _ _ rfl _ 2 _ rfl _ (hk.blk _ m1) (by decide) _ Tryz.underlying40 rfl (by kernel_rfl) hT
  simp only [pu]
  refine kC 2 rfl (fun wx => fnegP ((cnt P).x) wx cnt_x_lt) ?_
  simp only [pu]
  refine kV 3 (.pointer (some ⟨w.heap.size, 4, none⟩)) rfl ?_
  simp only [pu]
  refine kA 4 9 (.agg (r64 4 (F4 ((cnt P).y)))) rfl rfl rfl (fun _ => rfl) (fun qv L wx hk hT => ?_) ?_
  · exact lands_num 1 _ _ rfl _ 2 _ rfl _ (hk.blk _ m1) (by decide) _ Tryz.underlying40 rfl (by kernel_rfl) hT
  simp only [pu]
  refine kW 5 (.agg (nums 2 (two (negP ((cnt P).x)) ((cnt P).y)))) rfl (fun qv L wx hT => ?_) ?_
  · exact lands_built _ _ rfl _ rfl _ (by kernel_rfl) hT
  simp only [pu]
  refine anyE_take (i := 6) undef rfl rfl (by kernel_rfl) (by kernel_rfl) (by kernel_rfl) (fun qv => ym_first (k := 0) _ _ _ (by kernel_rfl) rfl rfl rfl rfl (by kernel_rfl) (by kernel_rfl) (row_one fun _ => rfl) (fun _ => rfl) (fun _ => rfl)) ?_
  simp only [pu]
  refine anyE_done (by kernel_rfl) (fun qv w8 hK => ?_) _
  have hE := hK.outs (by kernel_rfl) (by kernel_rfl)  (b := true) (c := false) (by kernel_rfl) (by kernel_rfl)
  clear hK h6 hn7
  have h8 : KD w.heap.size w [(g4, 42, nums 2 (two (negP ((cnt P).x)) ((cnt P).y))), (w.heap.size, 42, nums 2 (two ((cnt P).x) ((cnt P).y)))] w8 := hE.k
  clear hE
  clear n7
  clear qv
  with_reducible (apply tn; go_at_K; go_step)
  with_reducible apply wp_ret
  repeat (first | with_reducible apply then_ret | with_reducible apply block_ret)
  exact bodyPost_ret (results_cell_row rfl _ _ g4 42 (nums 2 (two (negP ((cnt P).x)) ((cnt P).y))) (0, 0) _ rfl (h8.blk _ m0) Tryz.underlying42 rfl (by kernel_rfl)) rfl ⟨by simp only [pneg], h8.b⟩
end Go.Proofs.YtggalphgnloneaaGreat
