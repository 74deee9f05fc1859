/- The layer point: evenAt, turned. (written by mkQ2.py) -/
import Derived.Test.YtggalphgnloneaaGreatQl
namespace Go.Proofs.YtggalphgnloneaaGreat
open Go.RowKit
set_option maxRecDepth 100000 in
set_option maxHeartbeats 400000 in
theorem qeven_t (y : Nat) (hy : y < M256) (x : Nat) (hr : rV (subP (mulP y y) 1) (addP (mulP dP (mulP y y)) 1) = (x, true)) (w : World) :
    Calls Tryz.prog 51 #[.agg (r64 4 (F4 y))] w fun e w' => e = .returned (.tuple #[.agg (nums 2 (two x y)), .bool true]) ∧ Below w.heap.size w w' := by
  go_enter Tryz.func51, Tryz.ntmps51
  repeat with_reducible (first | (apply wp_seq_k; intro _ _) | (go_at_K; go_step) | apply tn | apply wp_block | apply wp_skip | apply wp_exit | apply then_exit | apply block_normal | apply block_same | exact block_far rfl ?_)
  have h1 := KD.begin w
  with_reducible apply wp_region_lit
  refine wpList_val (R := KD w.heap.size w [(w.heap.size, 40, r64 4 (F4 y))]) (.pointer (some ⟨w.heap.size, 0, none⟩)) rfl (lands_run2 (box_run _ _ _ rfl rfl _) (h1.add _ _)) ?_
  intro w2 h2
  simp only [pu]
  clear h1
  refine wpList_val (R := KD w.heap.size w [(w2.heap.size, 42, nums 2 (two 0 0)), (w.heap.size, 40, r64 4 (F4 y))]) (.pointer (some ⟨w2.heap.size, 0, none⟩)) rfl (lands_run2 (alloc_run _ _ rfl zero_pt _) (h2.add _ _)) ?_
  intro w3 h3
  simp only [pu]
  clear h2
  generalize w2.heap.size = g4 at h3 ⊢
  refine wpList_val (.bool false) rfl (by refine lands_value (w := w3) ?_ h3; go_simp <;> rfl) ?_
  intro w5 h5
  simp only [pu]
  clear h3
  refine wpList_nil ?_
  repeat with_reducible (first | (apply wp_seq_k; intro _ _) | (go_at_K; go_step) | apply tn | apply wp_block | apply wp_skip | apply wp_exit | apply then_exit | apply block_normal | apply block_same | exact block_far rfl ?_)
  with_reducible apply wp_region_lit
  refine wpList_val (.agg (r64 4 (F4 y))) rfl (by exact lands_load _ _ rfl _ rfl _ _ _ (h5.blk _ m1) Tryz.underlying40 rfl (fe_size _) h5) ?_
  intro w6 h6
  simp only [pu]
  clear h5
  refine wpList_val (.agg (r64 4 (F4 y))) rfl (by exact lands_load _ _ rfl _ rfl _ _ _ (h6.blk _ m1) Tryz.underlying40 rfl (fe_size _) h6) ?_
  intro w7 h7
  simp only [pu]
  clear h6
  refine wpList_val (.agg (r64 4 (F4 (mulP y y)))) rfl (by exact h7.call (fmulP y y w7 hy hy) (by go_simp)) ?_
  intro w8 h8
  simp only [pu]
  clear h7
  refine wpList_val (R := KD w.heap.size w [(w8.heap.size, 40, r64 4 (F4 0)), (g4, 42, nums 2 (two 0 0)), (w.heap.size, 40, r64 4 (F4 y))]) (.pointer (some ⟨w8.heap.size, 0, none⟩)) rfl (lands_run2 (alloc_run _ _ rfl zero_fe _) (h8.add _ _)) ?_
  intro w9 h9
  simp only [pu]
  clear h8
  generalize w8.heap.size = g10 at h9 ⊢
  refine wpList_val (R := KD w.heap.size w [(g10, 40, r64 4 (F4 (mulP y y))), (g4, 42, nums 2 (two 0 0)), (w.heap.size, 40, r64 4 (F4 y))]) undef rfl (lands_store _ _ _ rfl g10 (r64 4 (F4 (mulP y y))) rfl rfl _ _ (h9.blk _ m0) (by kernel_rfl) (by kernel_rfl) (row_one fun _ => rfl) (h9.put (k := 0) rfl _)) ?_
  intro w11 h11
  simp only [pu]
  clear h9
  refine wpList_nil ?_
  repeat with_reducible (first | (apply wp_seq_k; intro _ _) | (go_at_K; go_step) | apply tn | apply wp_block | apply wp_skip | apply wp_exit | apply then_exit | apply block_normal | apply block_same | exact block_far rfl ?_)
  obtain ⟨n12, hn12⟩ : ∃ n, n = w11.heap.size := ⟨_, rfl⟩
  refine wp_region_anyE (KM w.heap.size n12 w (fun _ _ => [(g10, 40, r64 4 (F4 (mulP y y))), (g4, 42, nums 2 (two 0 0)), (w.heap.size, 40, r64 4 (F4 y))]) 1000 1001 [⟨12, 13, 40, r64 4 (F4 0), r64 4 (F4 x), ptr⟩]) (fun i => i == 12) (by kernel_rfl) (KM.begin h11 hn12 (lows hn12 h11 (fun _ _ => rfl)) _) ?_
  refine kO 0 (.agg (r64 4 (F4 (mulP y y)))) rfl rfl rfl (fun _ => rfl) (fun qv L wx hT => ?_) ?_
  · exact lands_load _ _ rfl _ rfl _ _ _ (hT.k.blk _ m0) Tryz.underlying40 rfl (fe_size _) hT
  simp only [pu]
  refine kO 1 (.agg (r64 4 (F4 1))) rfl rfl rfl (fun _ => rfl) (fun qv L wx hT => ?_) ?_
  · exact hT.call (fsmall1 wx) (by go_simp)
  simp only [pu]
  refine kO 2 (.agg (r64 4 (F4 (subP (mulP y y) 1)))) rfl rfl rfl (fun _ => rfl) (fun qv L wx hT => ?_) ?_
  · exact hT.call (fsubP (mulP y y) 1 wx (mulP_lt _ _) (by decide)) (by go_simp)
  simp only [pu]
  refine kO 3 (.agg (r64 4 (F4 dP))) rfl rfl rfl (fun _ => rfl) (fun qv L wx hT => ?_) ?_
  · exact hT.call (qd_any wx) (by go_simp)
  simp only [pu]
  refine kO 4 (.agg (r64 4 (F4 (mulP y y)))) rfl rfl rfl (fun _ => rfl) (fun qv L wx hT => ?_) ?_
  · exact lands_load _ _ rfl _ rfl _ _ _ (hT.k.blk _ m0) Tryz.underlying40 rfl (fe_size _) hT
  simp only [pu]
  refine kO 5 (.agg (r64 4 (F4 (mulP dP (mulP y y))))) rfl rfl rfl (fun _ => rfl) (fun qv L wx hT => ?_) ?_
  · exact hT.call (fmulP dP (mulP y y) wx dP_lt (mulP_lt _ _)) (by go_simp)
  simp only [pu]
  refine kO 6 (.agg (r64 4 (F4 1))) rfl rfl rfl (fun _ => rfl) (fun qv L wx hT => ?_) ?_
  · exact hT.call (fsmall1 wx) (by go_simp)
  simp only [pu]
  refine kO 7 (.agg (r64 4 (F4 (addP (mulP dP (mulP y y)) 1)))) rfl rfl rfl (fun _ => rfl) (fun qv L wx hT => ?_) ?_
  · exact hT.call (faddP (mulP dP (mulP y y)) 1 wx (mulP_lt _ _) (by decide)) (by go_simp)
  simp only [pu]
  refine kO 8 (.tuple #[.agg (r64 4 (F4 x)), .bool true]) rfl rfl rfl (fun _ => rfl) (fun qv L wx hT => ?_) ?_
  · exact hT.call (froot_is (subP (mulP y y) 1) (addP (mulP dP (mulP y y)) 1) wx (subP_lt _ _) (addP_lt _ _) x true hr) (by go_simp)
  simp only [pu]
  refine kO 9 (.tuple #[.agg (r64 4 (F4 x)), .bool true]) rfl rfl rfl (fun _ => rfl) (fun qv L wx hT => ?_) ?_
  · refine lands_value (w := wx) ?_ hT; go_simp <;> rfl
  simp only [pu]
  refine kO 10 (.agg (r64 4 (F4 x))) rfl rfl rfl (fun _ => rfl) (fun qv L wx hT => ?_) ?_
  · refine lands_value (w := wx) ?_ hT; go_simp <;> rfl
  simp only [pu]
  refine kO 11 (.bool true) rfl rfl rfl (fun _ => rfl) (fun qv L wx hT => ?_) ?_
  · refine lands_value (w := wx) ?_ hT; go_simp <;> rfl
  simp only [pu]
  refine anyE_made (i := 12) rfl rfl (by kernel_rfl) (by kernel_rfl) (by kernel_rfl) (fun qv => ym_made (n := 9) ⟨12, 13, 40, r64 4 (F4 0), r64 4 (F4 x), ptr⟩ (by kernel_rfl) m0 (.inl (show waits .any _ 9 13 12 = true from (by kernel_rfl))) rfl (alloc_run _ _ rfl zero_fe)) ?_
  simp only [pu]
  refine anyE_take (i := 13) undef rfl rfl (by kernel_rfl) (by kernel_rfl) (by kernel_rfl) (fun qv => ym_stored ⟨12, 13, 40, r64 4 (F4 0), r64 4 (F4 x), ptr⟩ _ _ _ (by kernel_rfl) m0 rfl (by kernel_rfl) rfl rfl rfl rfl (by kernel_rfl) (by kernel_rfl) (row_one fun _ => rfl)) ?_
  simp only [pu]
  refine kO 14 (.bool true) rfl rfl rfl (fun _ => rfl) (fun qv L wx hT => ?_) ?_
  · refine lands_value (w := wx) ?_ hT; go_simp <;> rfl
  simp only [pu]
  refine anyE_done (by kernel_rfl) (fun qv w13 hK => ?_) _
  have hE := hK.outs (by kernel_rfl) (by kernel_rfl)  (b := false) (c := false) (by kernel_rfl) (by kernel_rfl)
  clear hK h11 hn12
  obtain ⟨g14, eg14, hE'⟩ := hE.next
  clear hE
  replace eg14 : qv 12 = .pointer (some ⟨g14, 0, none⟩) := eg14
  have h13 : KD w.heap.size w [(g14, 40, r64 4 (F4 x)), (g10, 40, r64 4 (F4 (mulP y y))), (g4, 42, nums 2 (two 0 0)), (w.heap.size, 40, r64 4 (F4 y))] w13 := hE'.k
  clear hE'
  clear n12
  rw [eg14]
  clear eg14
  clear qv
  repeat with_reducible (first | (apply wp_seq_k; intro _ _) | (go_at_K; go_step) | apply tn | apply wp_block | apply wp_skip | apply wp_exit | apply then_exit | apply block_normal | apply block_same | exact block_far rfl ?_)
  with_reducible apply wp_region_lit
  refine wpList_val (.bool true) rfl (by refine lands_value (w := w13) ?_ h13; go_simp <;> rfl) ?_
  intro w15 h15
  simp only [pu]
  clear h13
  refine wpList_val (.bool false) rfl (by refine lands_value (w := w15) ?_ h15; go_simp <;> rfl) ?_
  intro w16 h16
  simp only [pu]
  clear h15
  refine wpList_nil ?_
  repeat with_reducible (first | (apply wp_seq_k; intro _ _) | (go_at_K; go_step) | apply tn | apply wp_block | apply wp_skip | apply wp_exit | apply then_exit | apply block_normal | apply block_same | exact block_far rfl ?_)
  refine wp_cond_false rfl ?_
  repeat with_reducible (first | (apply wp_seq_k; intro _ _) | (go_at_K; go_step) | apply tn | apply wp_block | apply wp_skip | apply wp_exit | apply then_exit | apply block_normal | apply block_same | exact block_far rfl ?_)
  with_reducible apply wp_region_lit
  refine wpList_val (.agg (r64 4 (F4 x))) rfl (by exact lands_load _ _ rfl _ rfl _ _ _ (h16.blk _ m0) Tryz.underlying40 rfl (fe_size _) h16) ?_
  intro w17 h17
  simp only [pu]
  clear h16
  refine wpList_val (.agg (r64 4 (F4 y))) rfl (by exact lands_load _ _ rfl _ rfl _ _ _ (h17.blk _ m3) Tryz.underlying40 rfl (fe_size _) h17) ?_
  intro w18 h18
  simp only [pu]
  clear h17
  refine wpList_val (.agg (nums 2 (two x y))) rfl (by exact lands_built _ _ rfl _ rfl _ (by kernel_rfl) h18) ?_
  intro w19 h19
  simp only [pu]
  clear h18
  refine wpList_val (R := KD w.heap.size w [(g14, 40, r64 4 (F4 x)), (g10, 40, r64 4 (F4 (mulP y y))), (g4, 42, nums 2 (two x y)), (w.heap.size, 40, r64 4 (F4 y))]) undef rfl (lands_store _ _ _ rfl g4 (nums 2 (two x y)) rfl rfl _ _ (h19.blk _ m2) (by kernel_rfl) (by kernel_rfl) (row_one fun _ => rfl) (h19.put (k := 2) rfl _)) ?_
  intro w20 h20
  simp only [pu]
  clear h19
  refine wpList_val (.bool true) rfl (by refine lands_value (w := w20) ?_ h20; go_simp <;> rfl) ?_
  intro w21 h21
  simp only [pu]
  clear h20
  refine wpList_nil ?_
  repeat with_reducible (first | (apply wp_seq_k; intro _ _) | (go_at_K; go_step) | apply tn | apply wp_block | apply wp_skip | apply wp_exit | apply then_exit | apply block_normal | apply block_same | exact block_far rfl ?_)
  with_reducible apply wp_ret
  repeat (first | with_reducible apply then_ret | with_reducible apply block_ret)
  exact bodyPost_ret (results_cell_row_slot rfl _ _ g4 42 (nums 2 (two x y)) (0, 0) _ _ rfl (h21.blk _ m2) Tryz.underlying42 rfl (by kernel_rfl) rfl) rfl ⟨rfl, h21.b⟩
set_option maxRecDepth 100000 in
set_option maxHeartbeats 400000 in
theorem qeven_f (y : Nat) (hy : y < M256) (x : Nat) (hr : rV (subP (mulP y y) 1) (addP (mulP dP (mulP y y)) 1) = (x, false)) (w : World) :
    Calls Tryz.prog 51 #[.agg (r64 4 (F4 y))] w fun e w' => e = .returned (.tuple #[.agg (nums 2 (two 0 0)), .bool false]) ∧ Below w.heap.size w w' := by
  go_enter Tryz.func51, Tryz.ntmps51
  repeat with_reducible (first | (apply wp_seq_k; intro _ _) | (go_at_K; go_step) | apply tn | apply wp_block | apply wp_skip | apply wp_exit | apply then_exit | apply block_normal | apply block_same | exact block_far rfl ?_)
  have h1 := KD.begin w
  with_reducible apply wp_region_lit
  refine wpList_val (R := KD w.heap.size w [(w.heap.size, 40, r64 4 (F4 y))]) (.pointer (some ⟨w.heap.size, 0, none⟩)) rfl (lands_run2 (box_run _ _ _ rfl rfl _) (h1.add _ _)) ?_
  intro w2 h2
  simp only [pu]
  clear h1
  refine wpList_val (R := KD w.heap.size w [(w2.heap.size, 42, nums 2 (two 0 0)), (w.heap.size, 40, r64 4 (F4 y))]) (.pointer (some ⟨w2.heap.size, 0, none⟩)) rfl (lands_run2 (alloc_run _ _ rfl zero_pt _) (h2.add _ _)) ?_
  intro w3 h3
  simp only [pu]
  clear h2
  generalize w2.heap.size = g4 at h3 ⊢
  refine wpList_val (.bool false) rfl (by refine lands_value (w := w3) ?_ h3; go_simp <;> rfl) ?_
  intro w5 h5
  simp only [pu]
  clear h3
  refine wpList_nil ?_
  repeat with_reducible (first | (apply wp_seq_k; intro _ _) | (go_at_K; go_step) | apply tn | apply wp_block | apply wp_skip | apply wp_exit | apply then_exit | apply block_normal | apply block_same | exact block_far rfl ?_)
  with_reducible apply wp_region_lit
  refine wpList_val (.agg (r64 4 (F4 y))) rfl (by exact lands_load _ _ rfl _ rfl _ _ _ (h5.blk _ m1) Tryz.underlying40 rfl (fe_size _) h5) ?_
  intro w6 h6
  simp only [pu]
  clear h5
  refine wpList_val (.agg (r64 4 (F4 y))) rfl (by exact lands_load _ _ rfl _ rfl _ _ _ (h6.blk _ m1) Tryz.underlying40 rfl (fe_size _) h6) ?_
  intro w7 h7
  simp only [pu]
  clear h6
  refine wpList_val (.agg (r64 4 (F4 (mulP y y)))) rfl (by exact h7.call (fmulP y y w7 hy hy) (by go_simp)) ?_
  intro w8 h8
  simp only [pu]
  clear h7
  refine wpList_val (R := KD w.heap.size w [(w8.heap.size, 40, r64 4 (F4 0)), (g4, 42, nums 2 (two 0 0)), (w.heap.size, 40, r64 4 (F4 y))]) (.pointer (some ⟨w8.heap.size, 0, none⟩)) rfl (lands_run2 (alloc_run _ _ rfl zero_fe _) (h8.add _ _)) ?_
  intro w9 h9
  simp only [pu]
  clear h8
  generalize w8.heap.size = g10 at h9 ⊢
  refine wpList_val (R := KD w.heap.size w [(g10, 40, r64 4 (F4 (mulP y y))), (g4, 42, nums 2 (two 0 0)), (w.heap.size, 40, r64 4 (F4 y))]) undef rfl (lands_store _ _ _ rfl g10 (r64 4 (F4 (mulP y y))) rfl rfl _ _ (h9.blk _ m0) (by kernel_rfl) (by kernel_rfl) (row_one fun _ => rfl) (h9.put (k := 0) rfl _)) ?_
  intro w11 h11
  simp only [pu]
  clear h9
  refine wpList_nil ?_
  repeat with_reducible (first | (apply wp_seq_k; intro _ _) | (go_at_K; go_step) | apply tn | apply wp_block | apply wp_skip | apply wp_exit | apply then_exit | apply block_normal | apply block_same | exact block_far rfl ?_)
  obtain ⟨n12, hn12⟩ : ∃ n, n = w11.heap.size := ⟨_, rfl⟩
  refine wp_region_anyE (KM w.heap.size n12 w (fun _ _ => [(g10, 40, r64 4 (F4 (mulP y y))), (g4, 42, nums 2 (two 0 0)), (w.heap.size, 40, r64 4 (F4 y))]) 1000 1001 [⟨12, 13, 40, r64 4 (F4 0), r64 4 (F4 x), ptr⟩]) (fun i => i == 12) (by kernel_rfl) (KM.begin h11 hn12 (lows hn12 h11 (fun _ _ => rfl)) _) ?_
  refine kO 0 (.agg (r64 4 (F4 (mulP y y)))) rfl rfl rfl (fun _ => rfl) (fun qv L wx hT => ?_) ?_
  · exact lands_load _ _ rfl _ rfl _ _ _ (hT.k.blk _ m0) Tryz.underlying40 rfl (fe_size _) hT
  simp only [pu]
  refine kO 1 (.agg (r64 4 (F4 1))) rfl rfl rfl (fun _ => rfl) (fun qv L wx hT => ?_) ?_
  · exact hT.call (fsmall1 wx) (by go_simp)
  simp only [pu]
  refine kO 2 (.agg (r64 4 (F4 (subP (mulP y y) 1)))) rfl rfl rfl (fun _ => rfl) (fun qv L wx hT => ?_) ?_
  · exact hT.call (fsubP (mulP y y) 1 wx (mulP_lt _ _) (by decide)) (by go_simp)
  simp only [pu]
  refine kO 3 (.agg (r64 4 (F4 dP))) rfl rfl rfl (fun _ => rfl) (fun qv L wx hT => ?_) ?_
  · exact hT.call (qd_any wx) (by go_simp)
  simp only [pu]
  refine kO 4 (.agg (r64 4 (F4 (mulP y y)))) rfl rfl rfl (fun _ => rfl) (fun qv L wx hT => ?_) ?_
  · exact lands_load _ _ rfl _ rfl _ _ _ (hT.k.blk _ m0) Tryz.underlying40 rfl (fe_size _) hT
  simp only [pu]
  refine kO 5 (.agg (r64 4 (F4 (mulP dP (mulP y y))))) rfl rfl rfl (fun _ => rfl) (fun qv L wx hT => ?_) ?_
  · exact hT.call (fmulP dP (mulP y y) wx dP_lt (mulP_lt _ _)) (by go_simp)
  simp only [pu]
  refine kO 6 (.agg (r64 4 (F4 1))) rfl rfl rfl (fun _ => rfl) (fun qv L wx hT => ?_) ?_
  · exact hT.call (fsmall1 wx) (by go_simp)
  simp only [pu]
  refine kO 7 (.agg (r64 4 (F4 (addP (mulP dP (mulP y y)) 1)))) rfl rfl rfl (fun _ => rfl) (fun qv L wx hT => ?_) ?_
  · exact hT.call (faddP (mulP dP (mulP y y)) 1 wx (mulP_lt _ _) (by decide)) (by go_simp)
  simp only [pu]
  refine kO 8 (.tuple #[.agg (r64 4 (F4 x)), .bool false]) rfl rfl rfl (fun _ => rfl) (fun qv L wx hT => ?_) ?_
  · exact hT.call (froot_is (subP (mulP y y) 1) (addP (mulP dP (mulP y y)) 1) wx (subP_lt _ _) (addP_lt _ _) x false hr) (by go_simp)
  simp only [pu]
  refine kO 9 (.tuple #[.agg (r64 4 (F4 x)), .bool false]) rfl rfl rfl (fun _ => rfl) (fun qv L wx hT => ?_) ?_
  · refine lands_value (w := wx) ?_ hT; go_simp <;> rfl
  simp only [pu]
  refine kO 10 (.agg (r64 4 (F4 x))) rfl rfl rfl (fun _ => rfl) (fun qv L wx hT => ?_) ?_
  · refine lands_value (w := wx) ?_ hT; go_simp <;> rfl
  simp only [pu]
  refine kO 11 (.bool false) rfl rfl rfl (fun _ => rfl) (fun qv L wx hT => ?_) ?_
  · refine lands_value (w := wx) ?_ hT; go_simp <;> rfl
  simp only [pu]
  refine anyE_made (i := 12) rfl rfl (by kernel_rfl) (by kernel_rfl) (by kernel_rfl) (fun qv => ym_made (n := 9) ⟨12, 13, 40, r64 4 (F4 0), r64 4 (F4 x), ptr⟩ (by kernel_rfl) m0 (.inl (show waits .any _ 9 13 12 = true from (by kernel_rfl))) rfl (alloc_run _ _ rfl zero_fe)) ?_
  simp only [pu]
  refine anyE_take (i := 13) undef rfl rfl (by kernel_rfl) (by kernel_rfl) (by kernel_rfl) (fun qv => ym_stored ⟨12, 13, 40, r64 4 (F4 0), r64 4 (F4 x), ptr⟩ _ _ _ (by kernel_rfl) m0 rfl (by kernel_rfl) rfl rfl rfl rfl (by kernel_rfl) (by kernel_rfl) (row_one fun _ => rfl)) ?_
  simp only [pu]
  refine kO 14 (.bool false) rfl rfl rfl (fun _ => rfl) (fun qv L wx hT => ?_) ?_
  · refine lands_value (w := wx) ?_ hT; go_simp <;> rfl
  simp only [pu]
  refine anyE_done (by kernel_rfl) (fun qv w13 hK => ?_) _
  have hE := hK.outs (by kernel_rfl) (by kernel_rfl)  (b := false) (c := false) (by kernel_rfl) (by kernel_rfl)
  clear hK h11 hn12
  obtain ⟨g14, eg14, hE'⟩ := hE.next
  clear hE
  replace eg14 : qv 12 = .pointer (some ⟨g14, 0, none⟩) := eg14
  have h13 : KD w.heap.size w [(g14, 40, r64 4 (F4 x)), (g10, 40, r64 4 (F4 (mulP y y))), (g4, 42, nums 2 (two 0 0)), (w.heap.size, 40, r64 4 (F4 y))] w13 := hE'.k
  clear hE'
  clear n12
  rw [eg14]
  clear eg14
  clear qv
  repeat with_reducible (first | (apply wp_seq_k; intro _ _) | (go_at_K; go_step) | apply tn | apply wp_block | apply wp_skip | apply wp_exit | apply then_exit | apply block_normal | apply block_same | exact block_far rfl ?_)
  with_reducible apply wp_region_lit
  refine wpList_val (.bool false) rfl (by refine lands_value (w := w13) ?_ h13; go_simp <;> rfl) ?_
  intro w15 h15
  simp only [pu]
  clear h13
  refine wpList_val (.bool true) rfl (by refine lands_value (w := w15) ?_ h15; go_simp <;> rfl) ?_
  intro w16 h16
  simp only [pu]
  clear h15
  refine wpList_nil ?_
  repeat with_reducible (first | (apply wp_seq_k; intro _ _) | (go_at_K; go_step) | apply tn | apply wp_block | apply wp_skip | apply wp_exit | apply then_exit | apply block_normal | apply block_same | exact block_far rfl ?_)
  refine wp_cond_true rfl ?_
  repeat with_reducible (first | (apply wp_seq_k; intro _ _) | (go_at_K; go_step) | apply tn | apply wp_block | apply wp_skip | apply wp_exit | apply then_exit | apply block_normal | apply block_same | exact block_far rfl ?_)
  with_reducible apply wp_region_lit
  refine wpList_val (.agg (nums 2 (two 0 0))) rfl (by exact lands_built _ _ rfl _ rfl _ (by kernel_rfl) h16) ?_
  intro w17 h17
  simp only [pu]
  clear h16
  refine wpList_val (R := KD w.heap.size w [(g14, 40, r64 4 (F4 x)), (g10, 40, r64 4 (F4 (mulP y y))), (g4, 42, nums 2 (two 0 0)), (w.heap.size, 40, r64 4 (F4 y))]) undef rfl (lands_store _ _ _ rfl g4 (nums 2 (two 0 0)) rfl rfl _ _ (h17.blk _ m2) (by kernel_rfl) (by kernel_rfl) (row_one fun _ => rfl) (h17.put (k := 2) rfl _)) ?_
  intro w18 h18
  simp only [pu]
  clear h17
  refine wpList_val (.bool false) rfl (by refine lands_value (w := w18) ?_ h18; go_simp <;> rfl) ?_
  intro w19 h19
  simp only [pu]
  clear h18
  refine wpList_nil ?_
  repeat with_reducible (first | (apply wp_seq_k; intro _ _) | (go_at_K; go_step) | apply tn | apply wp_block | apply wp_skip | apply wp_exit | apply then_exit | apply block_normal | apply block_same | exact block_far rfl ?_)
  with_reducible apply wp_ret
  repeat (first | with_reducible apply then_ret | with_reducible apply block_ret)
  exact bodyPost_ret (results_cell_row_slot rfl _ _ g4 42 (nums 2 (two 0 0)) (0, 0) _ _ rfl (h19.blk _ m2) Tryz.underlying42 rfl (by kernel_rfl) rfl) rfl ⟨rfl, h19.b⟩
theorem pneg_ok {P : Pt} (h : P.ok) : (pneg P).ok := ⟨negP_lt _, h.y⟩
theorem qneg_on (P : Pt) (h : onC P) (w : World) : Calls Tryz.prog 29 #[.agg (nums 2 (two P.x P.y))] w fun e w' => e = .returned (.agg (nums 2 (two (pneg P).x (pneg P).y))) ∧ Below w.heap.size w w' := by
  have h1 := qneg_any P h.ok.x h.ok.y w
  rwa [cnt_on (onB_C.2 h)] at h1
set_option maxRecDepth 100000 in
set_option maxHeartbeats 400000 in
theorem qturned_t (P : Pt) (hC : onC P) (hP : P.ok) (hb : eqP (pneg P) P = true) (w : World) :
    Calls Tryz.prog 53 #[.agg (nums 2 (two P.x P.y))] w fun e w' => e = .returned (.tuple #[.agg (nums 2 (two 0 0)), .bool false]) ∧ Below w.heap.size w w' := by
  have hx := hP.x
  have hy := hP.y
  go_enter Tryz.func53, Tryz.ntmps53
  repeat with_reducible (first | (apply wp_seq_k; intro _ _) | (go_at_K; go_step) | apply tn | apply wp_block | apply wp_skip | apply wp_exit | apply then_exit | apply block_normal | apply block_same | exact block_far rfl ?_)
  have h1 := KD.begin w
  with_reducible apply wp_region_lit
  refine wpList_val (R := KD w.heap.size w [(w.heap.size, 42, nums 2 (two P.x P.y))]) (.pointer (some ⟨w.heap.size, 0, none⟩)) rfl (lands_run2 (box_run _ _ _ rfl rfl _) (h1.add _ _)) ?_
  intro w2 h2
  simp only [pu]
  clear h1
  refine wpList_val (R := KD w.heap.size w [(w2.heap.size, 42, nums 2 (two 0 0)), (w.heap.size, 42, nums 2 (two P.x P.y))]) (.pointer (some ⟨w2.heap.size, 0, none⟩)) rfl (lands_run2 (alloc_run _ _ rfl zero_pt _) (h2.add _ _)) ?_
  intro w3 h3
  simp only [pu]
  clear h2
  generalize w2.heap.size = g4 at h3 ⊢
  refine wpList_val (.bool false) rfl (by refine lands_value (w := w3) ?_ h3; go_simp <;> rfl) ?_
  intro w5 h5
  simp only [pu]
  clear h3
  refine wpList_nil ?_
  repeat with_reducible (first | (apply wp_seq_k; intro _ _) | (go_at_K; go_step) | apply tn | apply wp_block | apply wp_skip | apply wp_exit | apply then_exit | apply block_normal | apply block_same | exact block_far rfl ?_)
  with_reducible apply wp_region_lit
  refine wpList_val (.agg (nums 2 (two P.x P.y))) rfl (by exact lands_load _ _ rfl _ rfl _ _ _ (h5.blk _ m1) Tryz.underlying42 rfl (by kernel_rfl) h5) ?_
  intro w6 h6
  simp only [pu]
  clear h5
  refine wpList_val (.agg (nums 2 (two ((pneg P).x) ((pneg P).y)))) rfl (by exact h6.call (qneg_on P hC w6) (by go_simp)) ?_
  intro w7 h7
  simp only [pu]
  clear h6
  refine wpList_val (R := KD w.heap.size w [(w7.heap.size, 42, nums 2 (two 0 0)), (g4, 42, nums 2 (two 0 0)), (w.heap.size, 42, nums 2 (two P.x P.y))]) (.pointer (some ⟨w7.heap.size, 0, none⟩)) rfl (lands_run2 (alloc_run _ _ rfl zero_pt _) (h7.add _ _)) ?_
  intro w8 h8
  simp only [pu]
  clear h7
  generalize w7.heap.size = g9 at h8 ⊢
  refine wpList_val (R := KD w.heap.size w [(g9, 42, nums 2 (two ((pneg P).x) ((pneg P).y))), (g4, 42, nums 2 (two 0 0)), (w.heap.size, 42, nums 2 (two P.x P.y))]) undef rfl (lands_store _ _ _ rfl g9 (nums 2 (two ((pneg P).x) ((pneg P).y))) rfl rfl _ _ (h8.blk _ m0) (by kernel_rfl) (by kernel_rfl) (row_one fun _ => rfl) (h8.put (k := 0) rfl _)) ?_
  intro w10 h10
  simp only [pu]
  clear h8
  refine wpList_nil ?_
  repeat with_reducible (first | (apply wp_seq_k; intro _ _) | (go_at_K; go_step) | apply tn | apply wp_block | apply wp_skip | apply wp_exit | apply then_exit | apply block_normal | apply block_same | exact block_far rfl ?_)
  with_reducible apply wp_region_lit
  refine wpList_val (.agg (nums 2 (two ((pneg P).x) ((pneg P).y)))) rfl (by exact lands_load _ _ rfl _ rfl _ _ _ (h10.blk _ m0) Tryz.underlying42 rfl (by kernel_rfl) h10) ?_
  intro w11 h11
  simp only [pu]
  clear h10
  refine wpList_val (.agg (nums 2 (two P.x P.y))) rfl (by exact lands_load _ _ rfl _ rfl _ _ _ (h11.blk _ m2) Tryz.underlying42 rfl (by kernel_rfl) h11) ?_
  intro w12 h12
  simp only [pu]
  clear h11
  refine wpList_val (.bool true) rfl (by exact lands_eqlP _ _ rfl (pneg P) P rfl rfl (pneg_ok hP) hP true hb h12) ?_
  intro w13 h13
  simp only [pu]
  clear h12
  refine wpList_nil ?_
  repeat with_reducible (first | (apply wp_seq_k; intro _ _) | (go_at_K; go_step) | apply tn | apply wp_block | apply wp_skip | apply wp_exit | apply then_exit | apply block_normal | apply block_same | exact block_far rfl ?_)
  refine wp_cond_true rfl ?_
  repeat with_reducible (first | (apply wp_seq_k; intro _ _) | (go_at_K; go_step) | apply tn | apply wp_block | apply wp_skip | apply wp_exit | apply then_exit | apply block_normal | apply block_same | exact block_far rfl ?_)
  with_reducible apply wp_region_lit
  refine wpList_val (.agg (nums 2 (two 0 0))) rfl (by exact lands_built _ _ rfl _ rfl _ (by kernel_rfl) h13) ?_
  intro w14 h14
  simp only [pu]
  clear h13
  refine wpList_val (R := KD w.heap.size w [(g9, 42, nums 2 (two ((pneg P).x) ((pneg P).y))), (g4, 42, nums 2 (two 0 0)), (w.heap.size, 42, nums 2 (two P.x P.y))]) undef rfl (lands_store _ _ _ rfl g4 (nums 2 (two 0 0)) rfl rfl _ _ (h14.blk _ m1) (by kernel_rfl) (by kernel_rfl) (row_one fun _ => rfl) (h14.put (k := 1) rfl _)) ?_
  intro w15 h15
  simp only [pu]
  clear h14
  refine wpList_val (.bool false) rfl (by refine lands_value (w := w15) ?_ h15; go_simp <;> rfl) ?_
  intro w16 h16
  simp only [pu]
  clear h15
  refine wpList_nil ?_
  repeat with_reducible (first | (apply wp_seq_k; intro _ _) | (go_at_K; go_step) | apply tn | apply wp_block | apply wp_skip | apply wp_exit | apply then_exit | apply block_normal | apply block_same | exact block_far rfl ?_)
  with_reducible apply wp_ret
  repeat (first | with_reducible apply then_ret | with_reducible apply block_ret)
  exact bodyPost_ret (results_cell_row_slot rfl _ _ g4 42 (nums 2 (two 0 0)) (0, 0) _ _ rfl (h16.blk _ m1) Tryz.underlying42 rfl (by kernel_rfl) rfl) rfl ⟨rfl, h16.b⟩
set_option maxRecDepth 100000 in
set_option maxHeartbeats 400000 in
theorem qturned_f (P : Pt) (hC : onC P) (hP : P.ok) (hb : eqP (pneg P) P = false) (w : World) :
    Calls Tryz.prog 53 #[.agg (nums 2 (two P.x P.y))] w fun e w' => e = .returned (.tuple #[.agg (nums 2 (two (pneg P).x (pneg P).y)), .bool true]) ∧ Below w.heap.size w w' := by
  have hx := hP.x
  have hy := hP.y
  go_enter Tryz.func53, Tryz.ntmps53
  repeat with_reducible (first | (apply wp_seq_k; intro _ _) | (go_at_K; go_step) | apply tn | apply wp_block | apply wp_skip | apply wp_exit | apply then_exit | apply block_normal | apply block_same | exact block_far rfl ?_)
  have h1 := KD.begin w
  with_reducible apply wp_region_lit
  refine wpList_val (R := KD w.heap.size w [(w.heap.size, 42, nums 2 (two P.x P.y))]) (.pointer (some ⟨w.heap.size, 0, none⟩)) rfl (lands_run2 (box_run _ _ _ rfl rfl _) (h1.add _ _)) ?_
  intro w2 h2
  simp only [pu]
  clear h1
  refine wpList_val (R := KD w.heap.size w [(w2.heap.size, 42, nums 2 (two 0 0)), (w.heap.size, 42, nums 2 (two P.x P.y))]) (.pointer (some ⟨w2.heap.size, 0, none⟩)) rfl (lands_run2 (alloc_run _ _ rfl zero_pt _) (h2.add _ _)) ?_
  intro w3 h3
  simp only [pu]
  clear h2
  generalize w2.heap.size = g4 at h3 ⊢
  refine wpList_val (.bool false) rfl (by refine lands_value (w := w3) ?_ h3; go_simp <;> rfl) ?_
  intro w5 h5
  simp only [pu]
  clear h3
  refine wpList_nil ?_
  repeat with_reducible (first | (apply wp_seq_k; intro _ _) | (go_at_K; go_step) | apply tn | apply wp_block | apply wp_skip | apply wp_exit | apply then_exit | apply block_normal | apply block_same | exact block_far rfl ?_)
  with_reducible apply wp_region_lit
  refine wpList_val (.agg (nums 2 (two P.x P.y))) rfl (by exact lands_load _ _ rfl _ rfl _ _ _ (h5.blk _ m1) Tryz.underlying42 rfl (by kernel_rfl) h5) ?_
  intro w6 h6
  simp only [pu]
  clear h5
  refine wpList_val (.agg (nums 2 (two ((pneg P).x) ((pneg P).y)))) rfl (by exact h6.call (qneg_on P hC w6) (by go_simp)) ?_
  intro w7 h7
  simp only [pu]
  clear h6
  refine wpList_val (R := KD w.heap.size w [(w7.heap.size, 42, nums 2 (two 0 0)), (g4, 42, nums 2 (two 0 0)), (w.heap.size, 42, nums 2 (two P.x P.y))]) (.pointer (some ⟨w7.heap.size, 0, none⟩)) rfl (lands_run2 (alloc_run _ _ rfl zero_pt _) (h7.add _ _)) ?_
  intro w8 h8
  simp only [pu]
  clear h7
  generalize w7.heap.size = g9 at h8 ⊢
  refine wpList_val (R := KD w.heap.size w [(g9, 42, nums 2 (two ((pneg P).x) ((pneg P).y))), (g4, 42, nums 2 (two 0 0)), (w.heap.size, 42, nums 2 (two P.x P.y))]) undef rfl (lands_store _ _ _ rfl g9 (nums 2 (two ((pneg P).x) ((pneg P).y))) rfl rfl _ _ (h8.blk _ m0) (by kernel_rfl) (by kernel_rfl) (row_one fun _ => rfl) (h8.put (k := 0) rfl _)) ?_
  intro w10 h10
  simp only [pu]
  clear h8
  refine wpList_nil ?_
  repeat with_reducible (first | (apply wp_seq_k; intro _ _) | (go_at_K; go_step) | apply tn | apply wp_block | apply wp_skip | apply wp_exit | apply then_exit | apply block_normal | apply block_same | exact block_far rfl ?_)
  with_reducible apply wp_region_lit
  refine wpList_val (.agg (nums 2 (two ((pneg P).x) ((pneg P).y)))) rfl (by exact lands_load _ _ rfl _ rfl _ _ _ (h10.blk _ m0) Tryz.underlying42 rfl (by kernel_rfl) h10) ?_
  intro w11 h11
  simp only [pu]
  clear h10
  refine wpList_val (.agg (nums 2 (two P.x P.y))) rfl (by exact lands_load _ _ rfl _ rfl _ _ _ (h11.blk _ m2) Tryz.underlying42 rfl (by kernel_rfl) h11) ?_
  intro w12 h12
  simp only [pu]
  clear h11
  refine wpList_val (.bool false) rfl (by exact lands_eqlP _ _ rfl (pneg P) P rfl rfl (pneg_ok hP) hP false hb h12) ?_
  intro w13 h13
  simp only [pu]
  clear h12
  refine wpList_nil ?_
  repeat with_reducible (first | (apply wp_seq_k; intro _ _) | (go_at_K; go_step) | apply tn | apply wp_block | apply wp_skip | apply wp_exit | apply then_exit | apply block_normal | apply block_same | exact block_far rfl ?_)
  refine wp_cond_false rfl ?_
  repeat with_reducible (first | (apply wp_seq_k; intro _ _) | (go_at_K; go_step) | apply tn | apply wp_block | apply wp_skip | apply wp_exit | apply then_exit | apply block_normal | apply block_same | exact block_far rfl ?_)
  with_reducible apply wp_region_lit
  refine wpList_val (.agg (nums 2 (two ((pneg P).x) ((pneg P).y)))) rfl (by exact lands_load _ _ rfl _ rfl _ _ _ (h13.blk _ m0) Tryz.underlying42 rfl (by kernel_rfl) h13) ?_
  intro w14 h14
  simp only [pu]
  clear h13
  refine wpList_val (R := KD w.heap.size w [(g9, 42, nums 2 (two ((pneg P).x) ((pneg P).y))), (g4, 42, nums 2 (two ((pneg P).x) ((pneg P).y))), (w.heap.size, 42, nums 2 (two P.x P.y))]) undef rfl (lands_store _ _ _ rfl g4 (nums 2 (two ((pneg P).x) ((pneg P).y))) rfl rfl _ _ (h14.blk _ m1) (by kernel_rfl) (by kernel_rfl) (row_one fun _ => rfl) (h14.put (k := 1) rfl _)) ?_
  intro w15 h15
  simp only [pu]
  clear h14
  refine wpList_val (.bool true) rfl (by refine lands_value (w := w15) ?_ h15; go_simp <;> rfl) ?_
  intro w16 h16
  simp only [pu]
  clear h15
  refine wpList_nil ?_
  repeat with_reducible (first | (apply wp_seq_k; intro _ _) | (go_at_K; go_step) | apply tn | apply wp_block | apply wp_skip | apply wp_exit | apply then_exit | apply block_normal | apply block_same | exact block_far rfl ?_)
  with_reducible apply wp_ret
  repeat (first | with_reducible apply then_ret | with_reducible apply block_ret)
  exact bodyPost_ret (results_cell_row_slot rfl _ _ g4 42 (nums 2 (two ((pneg P).x) ((pneg P).y))) (0, 0) _ _ rfl (h16.blk _ m1) Tryz.underlying42 rfl (by kernel_rfl) rfl) rfl ⟨rfl, h16.b⟩
end Go.Proofs.YtggalphgnloneaaGreat
