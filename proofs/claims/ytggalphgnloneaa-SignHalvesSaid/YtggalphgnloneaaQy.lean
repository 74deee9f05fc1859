/- The layer point: Decode. (written by mkQ5.py) -/
import Derived.Test.YtggalphgnloneaaQx
namespace Go.Proofs.Ytggalphgnloneaa
open Go.RowKit
set_option maxRecDepth 100000 in
set_option maxHeartbeats 1000000 in
theorem qdec_make (s : ByteArray) (hs : s.size = 32) (hm : makeV (bytesV (yV s)) = (0, false)) (w : World) :
    Calls Try.prog 16 #[.string s] w fun e w' => e = .returned (.tuple #[.agg (nums 2 (two 0 0)), .bool false]) ∧ Below w.heap.size w w' := by
  have hc : ((s.size : Int) != 32) = false := by rw [hs]; rfl
  have hks : 31 < s.size := by omega
  have hge : ¬ (s.size : Int) ≤ 31 := by omega
  have HB := Lib.hid (byteS_at s 31 hks)
  have hb256 := byteS_lt s 31
  have HL := Lib.hid (low_one s hs)
  have HM := Lib.hid hm
  clear hm
  have h31 : ((31 : Nat) : Int) ≤ s.size := by omega
  go_enter Try.func16, Try.ntmps16
  repeat with_reducible (first | (apply wp_seq_k; intro _ _) | (go_at_K; go_step) | apply tn | apply wp_block | apply wp_skip | apply wp_exit | apply then_exit | apply block_normal | apply block_same | exact block_far rfl ?_)
  have h1 := KD.begin w
  with_reducible apply wp_region_lit
  refine wpList_val (R := KD w.heap.size w [(w.heap.size, 40, nums 2 (two 0 0))]) (.pointer (some ⟨w.heap.size, 0, none⟩)) rfl (lands_run2 (alloc_run _ _ rfl zero_pt _) (h1.add _ _)) ?_
  intro w2 h2
  simp only [pu]
  clear h1
  refine wpList_val (.bool false) rfl (by refine lands_value (w := w2) ?_ h2; go_simp <;> rfl) ?_
  intro w3 h3
  simp only [pu]
  clear h2
  refine wpList_nil ?_
  repeat with_reducible (first | (apply wp_seq_k; intro _ _) | (go_at_K; go_step) | apply tn | apply wp_block | apply wp_skip | apply wp_exit | apply then_exit | apply block_normal | apply block_same | exact block_far rfl ?_)
  with_reducible apply wp_region_lit
  refine wpList_val (.string s) rfl (by refine lands_value (w := w3) ?_ h3; go_simp <;> rfl) ?_
  intro w4 h4
  simp only [pu]
  clear h3
  refine wpList_val (.int .i64 (s.size : Int)) rfl (by refine lands_value (w := w4) ?_ h4; go_simp) ?_
  intro w5 h5
  simp only [pu]
  clear h4
  refine wpList_val (.bool false) rfl (by refine lands_value (w := w5) ?_ h5; go_simp) ?_
  intro w6 h6
  simp only [pu]
  clear h5
  refine wpList_nil ?_
  repeat with_reducible (first | (apply wp_seq_k; intro _ _) | (go_at_K; go_step) | apply tn | apply wp_block | apply wp_skip | apply wp_exit | apply then_exit | apply block_normal | apply block_same | exact block_far rfl ?_)
  refine wp_cond_false rfl ?_
  repeat with_reducible (first | (apply wp_seq_k; intro _ _) | (go_at_K; go_step) | apply tn | apply wp_block | apply wp_skip | apply wp_exit | apply then_exit | apply block_normal | apply block_same | exact block_far rfl ?_)
  obtain ⟨n7, hn7⟩ : ∃ n, n = w6.heap.size := ⟨_, rfl⟩
  refine wp_region_anyE (KM w.heap.size n7 w (fun _ _ => [(w.heap.size, 40, nums 2 (two 0 0))]) 1000 1001 [⟨5, 2000, 5, #[.int .u8 ((byteS s 31 % 128 : Nat) : Int)], #[.int .u8 ((byteS s 31 % 128 : Nat) : Int)], (fun g => .slice (some ⟨g, 0, none⟩) 1 1)⟩, ⟨12, 13, 38, r64 4 (F4 0), r64 4 (F4 0), ptr⟩]) (fun i => i == 5 || i == 12) (by kernel_rfl) (KM.begin h6 hn7 (lows hn7 h6 (fun _ _ => rfl)) _) ?_
  refine kO 0 (.string s) rfl rfl rfl (fun _ => rfl) (fun qv L wx hT => ?_) ?_
  · refine lands_value (w := wx) ?_ hT; go_simp <;> rfl
  simp only [pu]
  refine kO 1 (.string (s.extract 0 31)) rfl rfl rfl (fun _ => rfl) (fun qv L wx hT => ?_) ?_
  · refine lands_value (w := wx) ?_ hT; go_simp
  simp only [pu]
  refine kO 2 (.string s) rfl rfl rfl (fun _ => rfl) (fun qv L wx hT => ?_) ?_
  · refine lands_value (w := wx) ?_ hT; go_simp <;> rfl
  simp only [pu]
  refine kO 3 (.int .u8 (byteS s 31 : Int)) rfl rfl rfl (fun _ => rfl) (fun qv L wx hT => ?_) ?_
  · refine lands_value (w := wx) ?_ hT; go_simp; rw [HB.out]
  simp only [pu]
  refine kO 4 (.int .u8 ((byteS s 31 % 128 : Nat) : Int)) rfl rfl rfl (fun _ => rfl) (fun qv L wx hT => ?_) ?_
  · refine lands_value (w := wx) ?_ hT; go_simp; rw [and127 _ hb256]; omega
  simp only [pu]
  refine anyE_made (i := 5) rfl rfl (by kernel_rfl) (by kernel_rfl) (by kernel_rfl) (fun qv => ym_made (n := 9) ⟨5, 2000, 5, #[.int .u8 ((byteS s 31 % 128 : Nat) : Int)], #[.int .u8 ((byteS s 31 % 128 : Nat) : Int)], (fun g => .slice (some ⟨g, 0, none⟩) 1 1)⟩ (by kernel_rfl) m0 (.inr (by simp)) rfl (fun w => by go_simp)) ?_
  simp only [pu]
  refine anyE_take (i := 6) (.string (oneB (byteS s 31 % 128))) rfl rfl (by kernel_rfl) (by kernel_rfl) (by kernel_rfl) (fun qv => ym_behind ⟨5, 2000, 5, #[.int .u8 ((byteS s 31 % 128 : Nat) : Int)], #[.int .u8 ((byteS s 31 % 128 : Nat) : Int)], (fun g => .slice (some ⟨g, 0, none⟩) 1 1)⟩ m0 rfl (by kernel_rfl) (by simp) rfl (fun L wx g hq hb hT => ?_)) ?_
  · exact lands_convert _ _ _ rfl hq (one_back _ (by omega) hb) hT
  simp only [pu]
  refine kO 7 (.string (bytesV (yV s))) rfl rfl rfl (fun _ => rfl) (fun qv L wx hT => ?_) ?_
  · refine lands_value (w := wx) ?_ hT; go_simp; rw [HL.out, oneB_size, if_neg (by decide)]
  simp only [pu]
  refine kO 8 (.tuple #[.agg (r64 4 (F4 0)), .bool false]) rfl rfl rfl (fun _ => rfl) (fun qv L wx hT => ?_) ?_
  · exact hT.call (fmake_is (bytesV (yV s)) 0 false wx HM.out) (by go_simp)
  simp only [pu]
  refine kO 9 (.tuple #[.agg (r64 4 (F4 0)), .bool false]) rfl rfl rfl (fun _ => rfl) (fun qv L wx hT => ?_) ?_
  · refine lands_value (w := wx) ?_ hT; go_simp <;> rfl
  simp only [pu]
  refine kO 10 (.agg (r64 4 (F4 0))) rfl rfl rfl (fun _ => rfl) (fun qv L wx hT => ?_) ?_
  · refine lands_value (w := wx) ?_ hT; go_simp <;> rfl
  simp only [pu]
  refine kO 11 (.bool false) rfl rfl rfl (fun _ => rfl) (fun qv L wx hT => ?_) ?_
  · refine lands_value (w := wx) ?_ hT; go_simp <;> rfl
  simp only [pu]
  refine anyE_made (i := 12) rfl rfl (by kernel_rfl) (by kernel_rfl) (by kernel_rfl) (fun qv => ym_made (n := 9) ⟨12, 13, 38, r64 4 (F4 0), r64 4 (F4 0), ptr⟩ (by kernel_rfl) m1 (.inl (show waits .any _ 9 13 12 = true from (by kernel_rfl))) rfl (alloc_run _ _ rfl zero_fe)) ?_
  simp only [pu]
  refine anyE_take (i := 13) undef rfl rfl (by kernel_rfl) (by kernel_rfl) (by kernel_rfl) (fun qv => ym_stored ⟨12, 13, 38, r64 4 (F4 0), r64 4 (F4 0), ptr⟩ _ _ _ (by kernel_rfl) m1 rfl (by kernel_rfl) rfl rfl rfl rfl (by kernel_rfl) (by kernel_rfl) (row_one fun _ => rfl)) ?_
  simp only [pu]
  refine kO 14 (.bool false) rfl rfl rfl (fun _ => rfl) (fun qv L wx hT => ?_) ?_
  · refine lands_value (w := wx) ?_ hT; go_simp <;> rfl
  simp only [pu]
  refine anyE_done (by kernel_rfl) (fun qv w8 hK => ?_) _
  have hE := hK.out (by kernel_rfl) (by kernel_rfl) (fun x hx hge => by simp only [List.mem_cons, List.not_mem_nil, or_false] at hx; (try rcases hx with rfl | rfl) <;> first | rfl | (simp at hge)) (b := false) (c := false) (by kernel_rfl) (by kernel_rfl)
  clear hK h6 hn7
  obtain ⟨g9, eg9, hE'⟩ := hE.next
  clear hE
  replace eg9 : qv 5 = .slice (some ⟨g9, 0, none⟩) 1 1 := eg9
  obtain ⟨g10, eg10, hE''⟩ := hE'.next
  clear hE'
  replace eg10 : qv 12 = .pointer (some ⟨g10, 0, none⟩) := eg10
  have h8 : KD w.heap.size w [(g10, 38, r64 4 (F4 0)), (g9, 5, #[.int .u8 ((byteS s 31 % 128 : Nat) : Int)]), (w.heap.size, 40, nums 2 (two 0 0))] w8 := hE''.k
  clear hE''
  clear n7
  rw [eg9, eg10]
  clear eg9 eg10
  clear qv
  repeat with_reducible (first | (apply wp_seq_k; intro _ _) | (go_at_K; go_step) | apply tn | apply wp_block | apply wp_skip | apply wp_exit | apply then_exit | apply block_normal | apply block_same | exact block_far rfl ?_)
  with_reducible apply wp_region_lit
  refine wpList_val (.bool false) rfl (by refine lands_value (w := w8) ?_ h8; go_simp <;> rfl) ?_
  intro w11 h11
  simp only [pu]
  clear h8
  refine wpList_val (.bool true) rfl (by refine lands_value (w := w11) ?_ h11; go_simp <;> rfl) ?_
  intro w12 h12
  simp only [pu]
  clear h11
  refine wpList_nil ?_
  repeat with_reducible (first | (apply wp_seq_k; intro _ _) | (go_at_K; go_step) | apply tn | apply wp_block | apply wp_skip | apply wp_exit | apply then_exit | apply block_normal | apply block_same | exact block_far rfl ?_)
  refine wp_cond_true rfl ?_
  repeat with_reducible (first | (apply wp_seq_k; intro _ _) | (go_at_K; go_step) | apply tn | apply wp_block | apply wp_skip | apply wp_exit | apply then_exit | apply block_normal | apply block_same | exact block_far rfl ?_)
  with_reducible apply wp_region_lit
  refine wpList_val (.agg (nums 2 (two 0 0))) rfl (by exact lands_built _ _ rfl _ rfl _ (by kernel_rfl) h12) ?_
  intro w13 h13
  simp only [pu]
  clear h12
  refine wpList_val (R := KD w.heap.size w [(g10, 38, r64 4 (F4 0)), (g9, 5, #[.int .u8 ((byteS s 31 % 128 : Nat) : Int)]), (w.heap.size, 40, nums 2 (two 0 0))]) undef rfl (lands_store _ _ _ rfl w.heap.size (nums 2 (two 0 0)) rfl rfl _ _ (h13.blk _ m2) (by kernel_rfl) (by kernel_rfl) (row_one fun _ => rfl) (h13.put (k := 2) rfl _)) ?_
  intro w14 h14
  simp only [pu]
  clear h13
  refine wpList_val (.bool false) rfl (by refine lands_value (w := w14) ?_ h14; go_simp <;> rfl) ?_
  intro w15 h15
  simp only [pu]
  clear h14
  refine wpList_nil ?_
  repeat with_reducible (first | (apply wp_seq_k; intro _ _) | (go_at_K; go_step) | apply tn | apply wp_block | apply wp_skip | apply wp_exit | apply then_exit | apply block_normal | apply block_same | exact block_far rfl ?_)
  with_reducible apply wp_ret
  repeat (first | with_reducible apply then_ret | with_reducible apply block_ret)
  exact bodyPost_ret (results_cell_row_slot rfl _ _ w.heap.size 40 (nums 2 (two 0 0)) (0, 0) _ _ rfl (h15.blk _ m2) Try.underlying40 rfl (by kernel_rfl) rfl) rfl ⟨rfl, h15.b⟩
set_option maxRecDepth 100000 in
set_option maxHeartbeats 1000000 in
theorem qdec_none (s : ByteArray) (hs : s.size = 32) (y : Nat) (hyM : y < M256) (hm : makeV (bytesV (yV s)) = (y, true)) (x : Nat) (hr : rV (subP (mulP y y) 1) (addP (mulP dP (mulP y y)) 1) = (x, false)) (w : World) :
    Calls Try.prog 16 #[.string s] w fun e w' => e = .returned (.tuple #[.agg (nums 2 (two 0 0)), .bool false]) ∧ Below w.heap.size w w' := by
  have hc : ((s.size : Int) != 32) = false := by rw [hs]; rfl
  have hks : 31 < s.size := by omega
  have hge : ¬ (s.size : Int) ≤ 31 := by omega
  have HB := Lib.hid (byteS_at s 31 hks)
  have hb256 := byteS_lt s 31
  have HL := Lib.hid (low_one s hs)
  have HM := Lib.hid hm
  clear hm
  have h31 : ((31 : Nat) : Int) ≤ s.size := by omega
  go_enter Try.func16, Try.ntmps16
  repeat with_reducible (first | (apply wp_seq_k; intro _ _) | (go_at_K; go_step) | apply tn | apply wp_block | apply wp_skip | apply wp_exit | apply then_exit | apply block_normal | apply block_same | exact block_far rfl ?_)
  have h1 := KD.begin w
  with_reducible apply wp_region_lit
  refine wpList_val (R := KD w.heap.size w [(w.heap.size, 40, nums 2 (two 0 0))]) (.pointer (some ⟨w.heap.size, 0, none⟩)) rfl (lands_run2 (alloc_run _ _ rfl zero_pt _) (h1.add _ _)) ?_
  intro w2 h2
  simp only [pu]
  clear h1
  refine wpList_val (.bool false) rfl (by refine lands_value (w := w2) ?_ h2; go_simp <;> rfl) ?_
  intro w3 h3
  simp only [pu]
  clear h2
  refine wpList_nil ?_
  repeat with_reducible (first | (apply wp_seq_k; intro _ _) | (go_at_K; go_step) | apply tn | apply wp_block | apply wp_skip | apply wp_exit | apply then_exit | apply block_normal | apply block_same | exact block_far rfl ?_)
  with_reducible apply wp_region_lit
  refine wpList_val (.string s) rfl (by refine lands_value (w := w3) ?_ h3; go_simp <;> rfl) ?_
  intro w4 h4
  simp only [pu]
  clear h3
  refine wpList_val (.int .i64 (s.size : Int)) rfl (by refine lands_value (w := w4) ?_ h4; go_simp) ?_
  intro w5 h5
  simp only [pu]
  clear h4
  refine wpList_val (.bool false) rfl (by refine lands_value (w := w5) ?_ h5; go_simp) ?_
  intro w6 h6
  simp only [pu]
  clear h5
  refine wpList_nil ?_
  repeat with_reducible (first | (apply wp_seq_k; intro _ _) | (go_at_K; go_step) | apply tn | apply wp_block | apply wp_skip | apply wp_exit | apply then_exit | apply block_normal | apply block_same | exact block_far rfl ?_)
  refine wp_cond_false rfl ?_
  repeat with_reducible (first | (apply wp_seq_k; intro _ _) | (go_at_K; go_step) | apply tn | apply wp_block | apply wp_skip | apply wp_exit | apply then_exit | apply block_normal | apply block_same | exact block_far rfl ?_)
  obtain ⟨n7, hn7⟩ : ∃ n, n = w6.heap.size := ⟨_, rfl⟩
  refine wp_region_anyE (KM w.heap.size n7 w (fun _ _ => [(w.heap.size, 40, nums 2 (two 0 0))]) 1000 1001 [⟨5, 2000, 5, #[.int .u8 ((byteS s 31 % 128 : Nat) : Int)], #[.int .u8 ((byteS s 31 % 128 : Nat) : Int)], (fun g => .slice (some ⟨g, 0, none⟩) 1 1)⟩, ⟨12, 13, 38, r64 4 (F4 0), r64 4 (F4 y), ptr⟩]) (fun i => i == 5 || i == 12) (by kernel_rfl) (KM.begin h6 hn7 (lows hn7 h6 (fun _ _ => rfl)) _) ?_
  refine kO 0 (.string s) rfl rfl rfl (fun _ => rfl) (fun qv L wx hT => ?_) ?_
  · refine lands_value (w := wx) ?_ hT; go_simp <;> rfl
  simp only [pu]
  refine kO 1 (.string (s.extract 0 31)) rfl rfl rfl (fun _ => rfl) (fun qv L wx hT => ?_) ?_
  · refine lands_value (w := wx) ?_ hT; go_simp
  simp only [pu]
  refine kO 2 (.string s) rfl rfl rfl (fun _ => rfl) (fun qv L wx hT => ?_) ?_
  · refine lands_value (w := wx) ?_ hT; go_simp <;> rfl
  simp only [pu]
  refine kO 3 (.int .u8 (byteS s 31 : Int)) rfl rfl rfl (fun _ => rfl) (fun qv L wx hT => ?_) ?_
  · refine lands_value (w := wx) ?_ hT; go_simp; rw [HB.out]
  simp only [pu]
  refine kO 4 (.int .u8 ((byteS s 31 % 128 : Nat) : Int)) rfl rfl rfl (fun _ => rfl) (fun qv L wx hT => ?_) ?_
  · refine lands_value (w := wx) ?_ hT; go_simp; rw [and127 _ hb256]; omega
  simp only [pu]
  refine anyE_made (i := 5) rfl rfl (by kernel_rfl) (by kernel_rfl) (by kernel_rfl) (fun qv => ym_made (n := 9) ⟨5, 2000, 5, #[.int .u8 ((byteS s 31 % 128 : Nat) : Int)], #[.int .u8 ((byteS s 31 % 128 : Nat) : Int)], (fun g => .slice (some ⟨g, 0, none⟩) 1 1)⟩ (by kernel_rfl) m0 (.inr (by simp)) rfl (fun w => by go_simp)) ?_
  simp only [pu]
  refine anyE_take (i := 6) (.string (oneB (byteS s 31 % 128))) rfl rfl (by kernel_rfl) (by kernel_rfl) (by kernel_rfl) (fun qv => ym_behind ⟨5, 2000, 5, #[.int .u8 ((byteS s 31 % 128 : Nat) : Int)], #[.int .u8 ((byteS s 31 % 128 : Nat) : Int)], (fun g => .slice (some ⟨g, 0, none⟩) 1 1)⟩ m0 rfl (by kernel_rfl) (by simp) rfl (fun L wx g hq hb hT => ?_)) ?_
  · exact lands_convert _ _ _ rfl hq (one_back _ (by omega) hb) hT
  simp only [pu]
  refine kO 7 (.string (bytesV (yV s))) rfl rfl rfl (fun _ => rfl) (fun qv L wx hT => ?_) ?_
  · refine lands_value (w := wx) ?_ hT; go_simp; rw [HL.out, oneB_size, if_neg (by decide)]
  simp only [pu]
  refine kO 8 (.tuple #[.agg (r64 4 (F4 y)), .bool true]) rfl rfl rfl (fun _ => rfl) (fun qv L wx hT => ?_) ?_
  · exact hT.call (fmake_is (bytesV (yV s)) y true wx HM.out) (by go_simp)
  simp only [pu]
  refine kO 9 (.tuple #[.agg (r64 4 (F4 y)), .bool true]) rfl rfl rfl (fun _ => rfl) (fun qv L wx hT => ?_) ?_
  · refine lands_value (w := wx) ?_ hT; go_simp <;> rfl
  simp only [pu]
  refine kO 10 (.agg (r64 4 (F4 y))) rfl rfl rfl (fun _ => rfl) (fun qv L wx hT => ?_) ?_
  · refine lands_value (w := wx) ?_ hT; go_simp <;> rfl
  simp only [pu]
  refine kO 11 (.bool true) rfl rfl rfl (fun _ => rfl) (fun qv L wx hT => ?_) ?_
  · refine lands_value (w := wx) ?_ hT; go_simp <;> rfl
  simp only [pu]
  refine anyE_made (i := 12) rfl rfl (by kernel_rfl) (by kernel_rfl) (by kernel_rfl) (fun qv => ym_made (n := 9) ⟨12, 13, 38, r64 4 (F4 0), r64 4 (F4 y), ptr⟩ (by kernel_rfl) m1 (.inl (show waits .any _ 9 13 12 = true from (by kernel_rfl))) rfl (alloc_run _ _ rfl zero_fe)) ?_
  simp only [pu]
  refine anyE_take (i := 13) undef rfl rfl (by kernel_rfl) (by kernel_rfl) (by kernel_rfl) (fun qv => ym_stored ⟨12, 13, 38, r64 4 (F4 0), r64 4 (F4 y), ptr⟩ _ _ _ (by kernel_rfl) m1 rfl (by kernel_rfl) rfl rfl rfl rfl (by kernel_rfl) (by kernel_rfl) (row_one fun _ => rfl)) ?_
  simp only [pu]
  refine kO 14 (.bool true) rfl rfl rfl (fun _ => rfl) (fun qv L wx hT => ?_) ?_
  · refine lands_value (w := wx) ?_ hT; go_simp <;> rfl
  simp only [pu]
  refine anyE_done (by kernel_rfl) (fun qv w8 hK => ?_) _
  have hE := hK.out (by kernel_rfl) (by kernel_rfl) (fun x hx hge => by simp only [List.mem_cons, List.not_mem_nil, or_false] at hx; (try rcases hx with rfl | rfl) <;> first | rfl | (simp at hge)) (b := false) (c := false) (by kernel_rfl) (by kernel_rfl)
  clear hK h6 hn7
  obtain ⟨g9, eg9, hE'⟩ := hE.next
  clear hE
  replace eg9 : qv 5 = .slice (some ⟨g9, 0, none⟩) 1 1 := eg9
  obtain ⟨g10, eg10, hE''⟩ := hE'.next
  clear hE'
  replace eg10 : qv 12 = .pointer (some ⟨g10, 0, none⟩) := eg10
  have h8 : KD w.heap.size w [(g10, 38, r64 4 (F4 y)), (g9, 5, #[.int .u8 ((byteS s 31 % 128 : Nat) : Int)]), (w.heap.size, 40, nums 2 (two 0 0))] w8 := hE''.k
  clear hE''
  clear n7
  rw [eg9, eg10]
  clear eg9 eg10
  clear qv
  repeat with_reducible (first | (apply wp_seq_k; intro _ _) | (go_at_K; go_step) | apply tn | apply wp_block | apply wp_skip | apply wp_exit | apply then_exit | apply block_normal | apply block_same | exact block_far rfl ?_)
  with_reducible apply wp_region_lit
  refine wpList_val (.bool true) rfl (by refine lands_value (w := w8) ?_ h8; go_simp <;> rfl) ?_
  intro w11 h11
  simp only [pu]
  clear h8
  refine wpList_val (.bool false) rfl (by refine lands_value (w := w11) ?_ h11; go_simp <;> rfl) ?_
  intro w12 h12
  simp only [pu]
  clear h11
  refine wpList_nil ?_
  repeat with_reducible (first | (apply wp_seq_k; intro _ _) | (go_at_K; go_step) | apply tn | apply wp_block | apply wp_skip | apply wp_exit | apply then_exit | apply block_normal | apply block_same | exact block_far rfl ?_)
  refine wp_cond_false rfl ?_
  repeat with_reducible (first | (apply wp_seq_k; intro _ _) | (go_at_K; go_step) | apply tn | apply wp_block | apply wp_skip | apply wp_exit | apply then_exit | apply block_normal | apply block_same | exact block_far rfl ?_)
  with_reducible apply wp_region_lit
  refine wpList_val (.agg (r64 4 (F4 y))) rfl (by exact lands_load _ _ rfl _ rfl _ _ _ (h12.blk _ m0) Try.underlying38 rfl (fe_size _) h12) ?_
  intro w13 h13
  simp only [pu]
  clear h12
  refine wpList_val (.tuple #[.agg (nums 2 (two 0 0)), .bool false]) rfl (by exact h13.call (qeven_f y hyM x hr w13) (by go_simp)) ?_
  intro w14 h14
  simp only [pu]
  clear h13
  refine wpList_val (.tuple #[.agg (nums 2 (two 0 0)), .bool false]) rfl (by refine lands_value (w := w14) ?_ h14; go_simp <;> rfl) ?_
  intro w15 h15
  simp only [pu]
  clear h14
  refine wpList_val (.agg (nums 2 (two 0 0))) rfl (by refine lands_value (w := w15) ?_ h15; go_simp <;> rfl) ?_
  intro w16 h16
  simp only [pu]
  clear h15
  refine wpList_val (.bool false) rfl (by refine lands_value (w := w16) ?_ h16; go_simp <;> rfl) ?_
  intro w17 h17
  simp only [pu]
  clear h16
  refine wpList_val (R := KD w.heap.size w [(w17.heap.size, 40, nums 2 (two 0 0)), (g10, 38, r64 4 (F4 y)), (g9, 5, #[.int .u8 ((byteS s 31 % 128 : Nat) : Int)]), (w.heap.size, 40, nums 2 (two 0 0))]) (.pointer (some ⟨w17.heap.size, 0, none⟩)) rfl (lands_run2 (alloc_run _ _ rfl zero_pt _) (h17.add _ _)) ?_
  intro w18 h18
  simp only [pu]
  clear h17
  generalize w17.heap.size = g19 at h18 ⊢
  refine wpList_val (R := KD w.heap.size w [(g19, 40, nums 2 (two 0 0)), (g10, 38, r64 4 (F4 y)), (g9, 5, #[.int .u8 ((byteS s 31 % 128 : Nat) : Int)]), (w.heap.size, 40, nums 2 (two 0 0))]) undef rfl (lands_store _ _ _ rfl g19 (nums 2 (two 0 0)) rfl rfl _ _ (h18.blk _ m0) (by kernel_rfl) (by kernel_rfl) (row_one fun _ => rfl) (h18.put (k := 0) rfl _)) ?_
  intro w20 h20
  simp only [pu]
  clear h18
  refine wpList_val (.bool false) rfl (by refine lands_value (w := w20) ?_ h20; go_simp <;> rfl) ?_
  intro w21 h21
  simp only [pu]
  clear h20
  refine wpList_nil ?_
  repeat with_reducible (first | (apply wp_seq_k; intro _ _) | (go_at_K; go_step) | apply tn | apply wp_block | apply wp_skip | apply wp_exit | apply then_exit | apply block_normal | apply block_same | exact block_far rfl ?_)
  with_reducible apply wp_region_lit
  refine wpList_val (.bool false) rfl (by refine lands_value (w := w21) ?_ h21; go_simp <;> rfl) ?_
  intro w22 h22
  simp only [pu]
  clear h21
  refine wpList_val (.bool true) rfl (by refine lands_value (w := w22) ?_ h22; go_simp <;> rfl) ?_
  intro w23 h23
  simp only [pu]
  clear h22
  refine wpList_val (.bool true) rfl (by refine lands_value (w := w23) ?_ h23; go_simp <;> rfl) ?_
  intro w24 h24
  simp only [pu]
  clear h23
  refine wpList_skipG rfl ?_
  simp only [pu]
  refine wpList_skipG rfl ?_
  simp only [pu]
  refine wpList_skipG rfl ?_
  simp only [pu]
  refine wpList_val (.bool true) rfl (by refine lands_value (w := w24) ?_ h24; go_simp <;> rfl) ?_
  intro w25 h25
  simp only [pu]
  clear h24
  refine wpList_nil ?_
  repeat with_reducible (first | (apply wp_seq_k; intro _ _) | (go_at_K; go_step) | apply tn | apply wp_block | apply wp_skip | apply wp_exit | apply then_exit | apply block_normal | apply block_same | exact block_far rfl ?_)
  refine wp_cond_true rfl ?_
  repeat with_reducible (first | (apply wp_seq_k; intro _ _) | (go_at_K; go_step) | apply tn | apply wp_block | apply wp_skip | apply wp_exit | apply then_exit | apply block_normal | apply block_same | exact block_far rfl ?_)
  with_reducible apply wp_region_lit
  refine wpList_val (.agg (nums 2 (two 0 0))) rfl (by exact lands_load _ _ rfl _ rfl _ _ _ (h25.blk _ m0) Try.underlying40 rfl (by kernel_rfl) h25) ?_
  intro w26 h26
  simp only [pu]
  clear h25
  refine wpList_val (.bool false) rfl (by refine lands_value (w := w26) ?_ h26; go_simp <;> rfl) ?_
  intro w27 h27
  simp only [pu]
  clear h26
  refine wpList_val (R := KD w.heap.size w [(g19, 40, nums 2 (two 0 0)), (g10, 38, r64 4 (F4 y)), (g9, 5, #[.int .u8 ((byteS s 31 % 128 : Nat) : Int)]), (w.heap.size, 40, nums 2 (two 0 0))]) undef rfl (lands_store _ _ _ rfl w.heap.size (nums 2 (two 0 0)) rfl rfl _ _ (h27.blk _ m3) (by kernel_rfl) (by kernel_rfl) (row_one fun _ => rfl) (h27.put (k := 3) rfl _)) ?_
  intro w28 h28
  simp only [pu]
  clear h27
  refine wpList_val (.bool false) rfl (by refine lands_value (w := w28) ?_ h28; go_simp <;> rfl) ?_
  intro w29 h29
  simp only [pu]
  clear h28
  refine wpList_nil ?_
  repeat with_reducible (first | (apply wp_seq_k; intro _ _) | (go_at_K; go_step) | apply tn | apply wp_block | apply wp_skip | apply wp_exit | apply then_exit | apply block_normal | apply block_same | exact block_far rfl ?_)
  with_reducible apply wp_ret
  repeat (first | with_reducible apply then_ret | with_reducible apply block_ret)
  exact bodyPost_ret (results_cell_row_slot rfl _ _ w.heap.size 40 (nums 2 (two 0 0)) (0, 0) _ _ rfl (h29.blk _ m3) Try.underlying40 rfl (by kernel_rfl) rfl) rfl ⟨rfl, h29.b⟩
set_option maxRecDepth 100000 in
set_option maxHeartbeats 1000000 in
theorem qdec_even (s : ByteArray) (hs : s.size = 32) (y : Nat) (hyM : y < M256) (hm : makeV (bytesV (yV s)) = (y, true)) (x : Nat) (hr : rV (subP (mulP y y) 1) (addP (mulP dP (mulP y y)) 1) = (x, true)) (hbt : ∀ w, Calls Try.prog 32 #[.string s, .int .i64 255] w fun e w' => e = .returned (.int .i64 0) ∧ w' = w) (w : World) :
    Calls Try.prog 16 #[.string s] w fun e w' => e = .returned (.tuple #[.agg (nums 2 (two x y)), .bool true]) ∧ Below w.heap.size w w' := by
  have hc : ((s.size : Int) != 32) = false := by rw [hs]; rfl
  have hks : 31 < s.size := by omega
  have hge : ¬ (s.size : Int) ≤ 31 := by omega
  have HB := Lib.hid (byteS_at s 31 hks)
  have hb256 := byteS_lt s 31
  have HL := Lib.hid (low_one s hs)
  have HM := Lib.hid hm
  clear hm
  have HBT := Lib.hid hbt
  clear hbt
  have h31 : ((31 : Nat) : Int) ≤ s.size := by omega
  go_enter Try.func16, Try.ntmps16
  repeat with_reducible (first | (apply wp_seq_k; intro _ _) | (go_at_K; go_step) | apply tn | apply wp_block | apply wp_skip | apply wp_exit | apply then_exit | apply block_normal | apply block_same | exact block_far rfl ?_)
  have h1 := KD.begin w
  with_reducible apply wp_region_lit
  refine wpList_val (R := KD w.heap.size w [(w.heap.size, 40, nums 2 (two 0 0))]) (.pointer (some ⟨w.heap.size, 0, none⟩)) rfl (lands_run2 (alloc_run _ _ rfl zero_pt _) (h1.add _ _)) ?_
  intro w2 h2
  simp only [pu]
  clear h1
  refine wpList_val (.bool false) rfl (by refine lands_value (w := w2) ?_ h2; go_simp <;> rfl) ?_
  intro w3 h3
  simp only [pu]
  clear h2
  refine wpList_nil ?_
  repeat with_reducible (first | (apply wp_seq_k; intro _ _) | (go_at_K; go_step) | apply tn | apply wp_block | apply wp_skip | apply wp_exit | apply then_exit | apply block_normal | apply block_same | exact block_far rfl ?_)
  with_reducible apply wp_region_lit
  refine wpList_val (.string s) rfl (by refine lands_value (w := w3) ?_ h3; go_simp <;> rfl) ?_
  intro w4 h4
  simp only [pu]
  clear h3
  refine wpList_val (.int .i64 (s.size : Int)) rfl (by refine lands_value (w := w4) ?_ h4; go_simp) ?_
  intro w5 h5
  simp only [pu]
  clear h4
  refine wpList_val (.bool false) rfl (by refine lands_value (w := w5) ?_ h5; go_simp) ?_
  intro w6 h6
  simp only [pu]
  clear h5
  refine wpList_nil ?_
  repeat with_reducible (first | (apply wp_seq_k; intro _ _) | (go_at_K; go_step) | apply tn | apply wp_block | apply wp_skip | apply wp_exit | apply then_exit | apply block_normal | apply block_same | exact block_far rfl ?_)
  refine wp_cond_false rfl ?_
  repeat with_reducible (first | (apply wp_seq_k; intro _ _) | (go_at_K; go_step) | apply tn | apply wp_block | apply wp_skip | apply wp_exit | apply then_exit | apply block_normal | apply block_same | exact block_far rfl ?_)
  obtain ⟨n7, hn7⟩ : ∃ n, n = w6.heap.size := ⟨_, rfl⟩
  refine wp_region_anyE (KM w.heap.size n7 w (fun _ _ => [(w.heap.size, 40, nums 2 (two 0 0))]) 1000 1001 [⟨5, 2000, 5, #[.int .u8 ((byteS s 31 % 128 : Nat) : Int)], #[.int .u8 ((byteS s 31 % 128 : Nat) : Int)], (fun g => .slice (some ⟨g, 0, none⟩) 1 1)⟩, ⟨12, 13, 38, r64 4 (F4 0), r64 4 (F4 y), ptr⟩]) (fun i => i == 5 || i == 12) (by kernel_rfl) (KM.begin h6 hn7 (lows hn7 h6 (fun _ _ => rfl)) _) ?_
  refine kO 0 (.string s) rfl rfl rfl (fun _ => rfl) (fun qv L wx hT => ?_) ?_
  · refine lands_value (w := wx) ?_ hT; go_simp <;> rfl
  simp only [pu]
  refine kO 1 (.string (s.extract 0 31)) rfl rfl rfl (fun _ => rfl) (fun qv L wx hT => ?_) ?_
  · refine lands_value (w := wx) ?_ hT; go_simp
  simp only [pu]
  refine kO 2 (.string s) rfl rfl rfl (fun _ => rfl) (fun qv L wx hT => ?_) ?_
  · refine lands_value (w := wx) ?_ hT; go_simp <;> rfl
  simp only [pu]
  refine kO 3 (.int .u8 (byteS s 31 : Int)) rfl rfl rfl (fun _ => rfl) (fun qv L wx hT => ?_) ?_
  · refine lands_value (w := wx) ?_ hT; go_simp; rw [HB.out]
  simp only [pu]
  refine kO 4 (.int .u8 ((byteS s 31 % 128 : Nat) : Int)) rfl rfl rfl (fun _ => rfl) (fun qv L wx hT => ?_) ?_
  · refine lands_value (w := wx) ?_ hT; go_simp; rw [and127 _ hb256]; omega
  simp only [pu]
  refine anyE_made (i := 5) rfl rfl (by kernel_rfl) (by kernel_rfl) (by kernel_rfl) (fun qv => ym_made (n := 9) ⟨5, 2000, 5, #[.int .u8 ((byteS s 31 % 128 : Nat) : Int)], #[.int .u8 ((byteS s 31 % 128 : Nat) : Int)], (fun g => .slice (some ⟨g, 0, none⟩) 1 1)⟩ (by kernel_rfl) m0 (.inr (by simp)) rfl (fun w => by go_simp)) ?_
  simp only [pu]
  refine anyE_take (i := 6) (.string (oneB (byteS s 31 % 128))) rfl rfl (by kernel_rfl) (by kernel_rfl) (by kernel_rfl) (fun qv => ym_behind ⟨5, 2000, 5, #[.int .u8 ((byteS s 31 % 128 : Nat) : Int)], #[.int .u8 ((byteS s 31 % 128 : Nat) : Int)], (fun g => .slice (some ⟨g, 0, none⟩) 1 1)⟩ m0 rfl (by kernel_rfl) (by simp) rfl (fun L wx g hq hb hT => ?_)) ?_
  · exact lands_convert _ _ _ rfl hq (one_back _ (by omega) hb) hT
  simp only [pu]
  refine kO 7 (.string (bytesV (yV s))) rfl rfl rfl (fun _ => rfl) (fun qv L wx hT => ?_) ?_
  · refine lands_value (w := wx) ?_ hT; go_simp; rw [HL.out, oneB_size, if_neg (by decide)]
  simp only [pu]
  refine kO 8 (.tuple #[.agg (r64 4 (F4 y)), .bool true]) rfl rfl rfl (fun _ => rfl) (fun qv L wx hT => ?_) ?_
  · exact hT.call (fmake_is (bytesV (yV s)) y true wx HM.out) (by go_simp)
  simp only [pu]
  refine kO 9 (.tuple #[.agg (r64 4 (F4 y)), .bool true]) rfl rfl rfl (fun _ => rfl) (fun qv L wx hT => ?_) ?_
  · refine lands_value (w := wx) ?_ hT; go_simp <;> rfl
  simp only [pu]
  refine kO 10 (.agg (r64 4 (F4 y))) rfl rfl rfl (fun _ => rfl) (fun qv L wx hT => ?_) ?_
  · refine lands_value (w := wx) ?_ hT; go_simp <;> rfl
  simp only [pu]
  refine kO 11 (.bool true) rfl rfl rfl (fun _ => rfl) (fun qv L wx hT => ?_) ?_
  · refine lands_value (w := wx) ?_ hT; go_simp <;> rfl
  simp only [pu]
  refine anyE_made (i := 12) rfl rfl (by kernel_rfl) (by kernel_rfl) (by kernel_rfl) (fun qv => ym_made (n := 9) ⟨12, 13, 38, r64 4 (F4 0), r64 4 (F4 y), ptr⟩ (by kernel_rfl) m1 (.inl (show waits .any _ 9 13 12 = true from (by kernel_rfl))) rfl (alloc_run _ _ rfl zero_fe)) ?_
  simp only [pu]
  refine anyE_take (i := 13) undef rfl rfl (by kernel_rfl) (by kernel_rfl) (by kernel_rfl) (fun qv => ym_stored ⟨12, 13, 38, r64 4 (F4 0), r64 4 (F4 y), ptr⟩ _ _ _ (by kernel_rfl) m1 rfl (by kernel_rfl) rfl rfl rfl rfl (by kernel_rfl) (by kernel_rfl) (row_one fun _ => rfl)) ?_
  simp only [pu]
  refine kO 14 (.bool true) rfl rfl rfl (fun _ => rfl) (fun qv L wx hT => ?_) ?_
  · refine lands_value (w := wx) ?_ hT; go_simp <;> rfl
  simp only [pu]
  refine anyE_done (by kernel_rfl) (fun qv w8 hK => ?_) _
  have hE := hK.out (by kernel_rfl) (by kernel_rfl) (fun x hx hge => by simp only [List.mem_cons, List.not_mem_nil, or_false] at hx; (try rcases hx with rfl | rfl) <;> first | rfl | (simp at hge)) (b := false) (c := false) (by kernel_rfl) (by kernel_rfl)
  clear hK h6 hn7
  obtain ⟨g9, eg9, hE'⟩ := hE.next
  clear hE
  replace eg9 : qv 5 = .slice (some ⟨g9, 0, none⟩) 1 1 := eg9
  obtain ⟨g10, eg10, hE''⟩ := hE'.next
  clear hE'
  replace eg10 : qv 12 = .pointer (some ⟨g10, 0, none⟩) := eg10
  have h8 : KD w.heap.size w [(g10, 38, r64 4 (F4 y)), (g9, 5, #[.int .u8 ((byteS s 31 % 128 : Nat) : Int)]), (w.heap.size, 40, nums 2 (two 0 0))] w8 := hE''.k
  clear hE''
  clear n7
  rw [eg9, eg10]
  clear eg9 eg10
  clear qv
  repeat with_reducible (first | (apply wp_seq_k; intro _ _) | (go_at_K; go_step) | apply tn | apply wp_block | apply wp_skip | apply wp_exit | apply then_exit | apply block_normal | apply block_same | exact block_far rfl ?_)
  with_reducible apply wp_region_lit
  refine wpList_val (.bool true) rfl (by refine lands_value (w := w8) ?_ h8; go_simp <;> rfl) ?_
  intro w11 h11
  simp only [pu]
  clear h8
  refine wpList_val (.bool false) rfl (by refine lands_value (w := w11) ?_ h11; go_simp <;> rfl) ?_
  intro w12 h12
  simp only [pu]
  clear h11
  refine wpList_nil ?_
  repeat with_reducible (first | (apply wp_seq_k; intro _ _) | (go_at_K; go_step) | apply tn | apply wp_block | apply wp_skip | apply wp_exit | apply then_exit | apply block_normal | apply block_same | exact block_far rfl ?_)
  refine wp_cond_false rfl ?_
  repeat with_reducible (first | (apply wp_seq_k; intro _ _) | (go_at_K; go_step) | apply tn | apply wp_block | apply wp_skip | apply wp_exit | apply then_exit | apply block_normal | apply block_same | exact block_far rfl ?_)
  with_reducible apply wp_region_lit
  refine wpList_val (.agg (r64 4 (F4 y))) rfl (by exact lands_load _ _ rfl _ rfl _ _ _ (h12.blk _ m0) Try.underlying38 rfl (fe_size _) h12) ?_
  intro w13 h13
  simp only [pu]
  clear h12
  refine wpList_val (.tuple #[.agg (nums 2 (two x y)), .bool true]) rfl (by exact h13.call (qeven_t y hyM x hr w13) (by go_simp)) ?_
  intro w14 h14
  simp only [pu]
  clear h13
  refine wpList_val (.tuple #[.agg (nums 2 (two x y)), .bool true]) rfl (by refine lands_value (w := w14) ?_ h14; go_simp <;> rfl) ?_
  intro w15 h15
  simp only [pu]
  clear h14
  refine wpList_val (.agg (nums 2 (two x y))) rfl (by refine lands_value (w := w15) ?_ h15; go_simp <;> rfl) ?_
  intro w16 h16
  simp only [pu]
  clear h15
  refine wpList_val (.bool true) rfl (by refine lands_value (w := w16) ?_ h16; go_simp <;> rfl) ?_
  intro w17 h17
  simp only [pu]
  clear h16
  refine wpList_val (R := KD w.heap.size w [(w17.heap.size, 40, nums 2 (two 0 0)), (g10, 38, r64 4 (F4 y)), (g9, 5, #[.int .u8 ((byteS s 31 % 128 : Nat) : Int)]), (w.heap.size, 40, nums 2 (two 0 0))]) (.pointer (some ⟨w17.heap.size, 0, none⟩)) rfl (lands_run2 (alloc_run _ _ rfl zero_pt _) (h17.add _ _)) ?_
  intro w18 h18
  simp only [pu]
  clear h17
  generalize w17.heap.size = g19 at h18 ⊢
  refine wpList_val (R := KD w.heap.size w [(g19, 40, nums 2 (two x y)), (g10, 38, r64 4 (F4 y)), (g9, 5, #[.int .u8 ((byteS s 31 % 128 : Nat) : Int)]), (w.heap.size, 40, nums 2 (two 0 0))]) undef rfl (lands_store _ _ _ rfl g19 (nums 2 (two x y)) rfl rfl _ _ (h18.blk _ m0) (by kernel_rfl) (by kernel_rfl) (row_one fun _ => rfl) (h18.put (k := 0) rfl _)) ?_
  intro w20 h20
  simp only [pu]
  clear h18
  refine wpList_val (.bool true) rfl (by refine lands_value (w := w20) ?_ h20; go_simp <;> rfl) ?_
  intro w21 h21
  simp only [pu]
  clear h20
  refine wpList_nil ?_
  repeat with_reducible (first | (apply wp_seq_k; intro _ _) | (go_at_K; go_step) | apply tn | apply wp_block | apply wp_skip | apply wp_exit | apply then_exit | apply block_normal | apply block_same | exact block_far rfl ?_)
  with_reducible apply wp_region_lit
  refine wpList_val (.bool true) rfl (by refine lands_value (w := w21) ?_ h21; go_simp <;> rfl) ?_
  intro w22 h22
  simp only [pu]
  clear h21
  refine wpList_val (.bool false) rfl (by refine lands_value (w := w22) ?_ h22; go_simp <;> rfl) ?_
  intro w23 h23
  simp only [pu]
  clear h22
  refine wpList_val (.bool false) rfl (by refine lands_value (w := w23) ?_ h23; go_simp <;> rfl) ?_
  intro w24 h24
  simp only [pu]
  clear h23
  refine wpList_valG (.string s) rfl (by refine lands_value (w := w24) ?_ h24; go_simp <;> rfl) ?_
  intro w25 h25
  simp only [pu]
  clear h24
  refine wpList_valG (.int .i64 0) rfl (by exact lands_calls (w := w25) ((HBT.out w25).mono fun _ _ ⟨he, hb⟩ => ⟨he, hb ▸ h25⟩) (by go_simp)) ?_
  intro w26 h26
  simp only [pu]
  clear h25
  refine wpList_valG (.bool true) rfl (by refine lands_value (w := w26) ?_ h26; go_simp) ?_
  intro w27 h27
  simp only [pu]
  clear h26
  refine wpList_val (.bool true) rfl (by refine lands_value (w := w27) ?_ h27; go_simp <;> rfl) ?_
  intro w28 h28
  simp only [pu]
  clear h27
  refine wpList_nil ?_
  repeat with_reducible (first | (apply wp_seq_k; intro _ _) | (go_at_K; go_step) | apply tn | apply wp_block | apply wp_skip | apply wp_exit | apply then_exit | apply block_normal | apply block_same | exact block_far rfl ?_)
  refine wp_cond_true rfl ?_
  repeat with_reducible (first | (apply wp_seq_k; intro _ _) | (go_at_K; go_step) | apply tn | apply wp_block | apply wp_skip | apply wp_exit | apply then_exit | apply block_normal | apply block_same | exact block_far rfl ?_)
  with_reducible apply wp_region_lit
  refine wpList_val (.agg (nums 2 (two x y))) rfl (by exact lands_load _ _ rfl _ rfl _ _ _ (h28.blk _ m0) Try.underlying40 rfl (by kernel_rfl) h28) ?_
  intro w29 h29
  simp only [pu]
  clear h28
  refine wpList_val (.bool true) rfl (by refine lands_value (w := w29) ?_ h29; go_simp <;> rfl) ?_
  intro w30 h30
  simp only [pu]
  clear h29
  refine wpList_val (R := KD w.heap.size w [(g19, 40, nums 2 (two x y)), (g10, 38, r64 4 (F4 y)), (g9, 5, #[.int .u8 ((byteS s 31 % 128 : Nat) : Int)]), (w.heap.size, 40, nums 2 (two x y))]) undef rfl (lands_store _ _ _ rfl w.heap.size (nums 2 (two x y)) rfl rfl _ _ (h30.blk _ m3) (by kernel_rfl) (by kernel_rfl) (row_one fun _ => rfl) (h30.put (k := 3) rfl _)) ?_
  intro w31 h31
  simp only [pu]
  clear h30
  refine wpList_val (.bool true) rfl (by refine lands_value (w := w31) ?_ h31; go_simp <;> rfl) ?_
  intro w32 h32
  simp only [pu]
  clear h31
  refine wpList_nil ?_
  repeat with_reducible (first | (apply wp_seq_k; intro _ _) | (go_at_K; go_step) | apply tn | apply wp_block | apply wp_skip | apply wp_exit | apply then_exit | apply block_normal | apply block_same | exact block_far rfl ?_)
  with_reducible apply wp_ret
  repeat (first | with_reducible apply then_ret | with_reducible apply block_ret)
  exact bodyPost_ret (results_cell_row_slot rfl _ _ w.heap.size 40 (nums 2 (two x y)) (0, 0) _ _ rfl (h32.blk _ m3) Try.underlying40 rfl (by kernel_rfl) rfl) rfl ⟨rfl, h32.b⟩
set_option maxRecDepth 100000 in
set_option maxHeartbeats 1000000 in
theorem qdec_odd (s : ByteArray) (hs : s.size = 32) (y : Nat) (hyM : y < M256) (hm : makeV (bytesV (yV s)) = (y, true)) (x : Nat) (hr : rV (subP (mulP y y) 1) (addP (mulP dP (mulP y y)) 1) = (x, true)) (hbt : ∀ w, Calls Try.prog 32 #[.string s, .int .i64 255] w fun e w' => e = .returned (.int .i64 1) ∧ w' = w) (hC : onC ⟨x, y⟩) (hP : (Pt.mk x y).ok) (hb : eqP (pneg ⟨x, y⟩) ⟨x, y⟩ = false) (w : World) :
    Calls Try.prog 16 #[.string s] w fun e w' => e = .returned (.tuple #[.agg (nums 2 (two (pneg ⟨x, y⟩).x (pneg ⟨x, y⟩).y)), .bool true]) ∧ Below w.heap.size w w' := by
  have hc : ((s.size : Int) != 32) = false := by rw [hs]; rfl
  have hks : 31 < s.size := by omega
  have hge : ¬ (s.size : Int) ≤ 31 := by omega
  have HB := Lib.hid (byteS_at s 31 hks)
  have hb256 := byteS_lt s 31
  have HL := Lib.hid (low_one s hs)
  have HM := Lib.hid hm
  clear hm
  have HBT := Lib.hid hbt
  clear hbt
  have h31 : ((31 : Nat) : Int) ≤ s.size := by omega
  go_enter Try.func16, Try.ntmps16
  repeat with_reducible (first | (apply wp_seq_k; intro _ _) | (go_at_K; go_step) | apply tn | apply wp_block | apply wp_skip | apply wp_exit | apply then_exit | apply block_normal | apply block_same | exact block_far rfl ?_)
  have h1 := KD.begin w
  with_reducible apply wp_region_lit
  refine wpList_val (R := KD w.heap.size w [(w.heap.size, 40, nums 2 (two 0 0))]) (.pointer (some ⟨w.heap.size, 0, none⟩)) rfl (lands_run2 (alloc_run _ _ rfl zero_pt _) (h1.add _ _)) ?_
  intro w2 h2
  simp only [pu]
  clear h1
  refine wpList_val (.bool false) rfl (by refine lands_value (w := w2) ?_ h2; go_simp <;> rfl) ?_
  intro w3 h3
  simp only [pu]
  clear h2
  refine wpList_nil ?_
  repeat with_reducible (first | (apply wp_seq_k; intro _ _) | (go_at_K; go_step) | apply tn | apply wp_block | apply wp_skip | apply wp_exit | apply then_exit | apply block_normal | apply block_same | exact block_far rfl ?_)
  with_reducible apply wp_region_lit
  refine wpList_val (.string s) rfl (by refine lands_value (w := w3) ?_ h3; go_simp <;> rfl) ?_
  intro w4 h4
  simp only [pu]
  clear h3
  refine wpList_val (.int .i64 (s.size : Int)) rfl (by refine lands_value (w := w4) ?_ h4; go_simp) ?_
  intro w5 h5
  simp only [pu]
  clear h4
  refine wpList_val (.bool false) rfl (by refine lands_value (w := w5) ?_ h5; go_simp) ?_
  intro w6 h6
  simp only [pu]
  clear h5
  refine wpList_nil ?_
  repeat with_reducible (first | (apply wp_seq_k; intro _ _) | (go_at_K; go_step) | apply tn | apply wp_block | apply wp_skip | apply wp_exit | apply then_exit | apply block_normal | apply block_same | exact block_far rfl ?_)
  refine wp_cond_false rfl ?_
  repeat with_reducible (first | (apply wp_seq_k; intro _ _) | (go_at_K; go_step) | apply tn | apply wp_block | apply wp_skip | apply wp_exit | apply then_exit | apply block_normal | apply block_same | exact block_far rfl ?_)
  obtain ⟨n7, hn7⟩ : ∃ n, n = w6.heap.size := ⟨_, rfl⟩
  refine wp_region_anyE (KM w.heap.size n7 w (fun _ _ => [(w.heap.size, 40, nums 2 (two 0 0))]) 1000 1001 [⟨5, 2000, 5, #[.int .u8 ((byteS s 31 % 128 : Nat) : Int)], #[.int .u8 ((byteS s 31 % 128 : Nat) : Int)], (fun g => .slice (some ⟨g, 0, none⟩) 1 1)⟩, ⟨12, 13, 38, r64 4 (F4 0), r64 4 (F4 y), ptr⟩]) (fun i => i == 5 || i == 12) (by kernel_rfl) (KM.begin h6 hn7 (lows hn7 h6 (fun _ _ => rfl)) _) ?_
  refine kO 0 (.string s) rfl rfl rfl (fun _ => rfl) (fun qv L wx hT => ?_) ?_
  · refine lands_value (w := wx) ?_ hT; go_simp <;> rfl
  simp only [pu]
  refine kO 1 (.string (s.extract 0 31)) rfl rfl rfl (fun _ => rfl) (fun qv L wx hT => ?_) ?_
  · refine lands_value (w := wx) ?_ hT; go_simp
  simp only [pu]
  refine kO 2 (.string s) rfl rfl rfl (fun _ => rfl) (fun qv L wx hT => ?_) ?_
  · refine lands_value (w := wx) ?_ hT; go_simp <;> rfl
  simp only [pu]
  refine kO 3 (.int .u8 (byteS s 31 : Int)) rfl rfl rfl (fun _ => rfl) (fun qv L wx hT => ?_) ?_
  · refine lands_value (w := wx) ?_ hT; go_simp; rw [HB.out]
  simp only [pu]
  refine kO 4 (.int .u8 ((byteS s 31 % 128 : Nat) : Int)) rfl rfl rfl (fun _ => rfl) (fun qv L wx hT => ?_) ?_
  · refine lands_value (w := wx) ?_ hT; go_simp; rw [and127 _ hb256]; omega
  simp only [pu]
  refine anyE_made (i := 5) rfl rfl (by kernel_rfl) (by kernel_rfl) (by kernel_rfl) (fun qv => ym_made (n := 9) ⟨5, 2000, 5, #[.int .u8 ((byteS s 31 % 128 : Nat) : Int)], #[.int .u8 ((byteS s 31 % 128 : Nat) : Int)], (fun g => .slice (some ⟨g, 0, none⟩) 1 1)⟩ (by kernel_rfl) m0 (.inr (by simp)) rfl (fun w => by go_simp)) ?_
  simp only [pu]
  refine anyE_take (i := 6) (.string (oneB (byteS s 31 % 128))) rfl rfl (by kernel_rfl) (by kernel_rfl) (by kernel_rfl) (fun qv => ym_behind ⟨5, 2000, 5, #[.int .u8 ((byteS s 31 % 128 : Nat) : Int)], #[.int .u8 ((byteS s 31 % 128 : Nat) : Int)], (fun g => .slice (some ⟨g, 0, none⟩) 1 1)⟩ m0 rfl (by kernel_rfl) (by simp) rfl (fun L wx g hq hb hT => ?_)) ?_
  · exact lands_convert _ _ _ rfl hq (one_back _ (by omega) hb) hT
  simp only [pu]
  refine kO 7 (.string (bytesV (yV s))) rfl rfl rfl (fun _ => rfl) (fun qv L wx hT => ?_) ?_
  · refine lands_value (w := wx) ?_ hT; go_simp; rw [HL.out, oneB_size, if_neg (by decide)]
  simp only [pu]
  refine kO 8 (.tuple #[.agg (r64 4 (F4 y)), .bool true]) rfl rfl rfl (fun _ => rfl) (fun qv L wx hT => ?_) ?_
  · exact hT.call (fmake_is (bytesV (yV s)) y true wx HM.out) (by go_simp)
  simp only [pu]
  refine kO 9 (.tuple #[.agg (r64 4 (F4 y)), .bool true]) rfl rfl rfl (fun _ => rfl) (fun qv L wx hT => ?_) ?_
  · refine lands_value (w := wx) ?_ hT; go_simp <;> rfl
  simp only [pu]
  refine kO 10 (.agg (r64 4 (F4 y))) rfl rfl rfl (fun _ => rfl) (fun qv L wx hT => ?_) ?_
  · refine lands_value (w := wx) ?_ hT; go_simp <;> rfl
  simp only [pu]
  refine kO 11 (.bool true) rfl rfl rfl (fun _ => rfl) (fun qv L wx hT => ?_) ?_
  · refine lands_value (w := wx) ?_ hT; go_simp <;> rfl
  simp only [pu]
  refine anyE_made (i := 12) rfl rfl (by kernel_rfl) (by kernel_rfl) (by kernel_rfl) (fun qv => ym_made (n := 9) ⟨12, 13, 38, r64 4 (F4 0), r64 4 (F4 y), ptr⟩ (by kernel_rfl) m1 (.inl (show waits .any _ 9 13 12 = true from (by kernel_rfl))) rfl (alloc_run _ _ rfl zero_fe)) ?_
  simp only [pu]
  refine anyE_take (i := 13) undef rfl rfl (by kernel_rfl) (by kernel_rfl) (by kernel_rfl) (fun qv => ym_stored ⟨12, 13, 38, r64 4 (F4 0), r64 4 (F4 y), ptr⟩ _ _ _ (by kernel_rfl) m1 rfl (by kernel_rfl) rfl rfl rfl rfl (by kernel_rfl) (by kernel_rfl) (row_one fun _ => rfl)) ?_
  simp only [pu]
  refine kO 14 (.bool true) rfl rfl rfl (fun _ => rfl) (fun qv L wx hT => ?_) ?_
  · refine lands_value (w := wx) ?_ hT; go_simp <;> rfl
  simp only [pu]
  refine anyE_done (by kernel_rfl) (fun qv w8 hK => ?_) _
  have hE := hK.out (by kernel_rfl) (by kernel_rfl) (fun x hx hge => by simp only [List.mem_cons, List.not_mem_nil, or_false] at hx; (try rcases hx with rfl | rfl) <;> first | rfl | (simp at hge)) (b := false) (c := false) (by kernel_rfl) (by kernel_rfl)
  clear hK h6 hn7
  obtain ⟨g9, eg9, hE'⟩ := hE.next
  clear hE
  replace eg9 : qv 5 = .slice (some ⟨g9, 0, none⟩) 1 1 := eg9
  obtain ⟨g10, eg10, hE''⟩ := hE'.next
  clear hE'
  replace eg10 : qv 12 = .pointer (some ⟨g10, 0, none⟩) := eg10
  have h8 : KD w.heap.size w [(g10, 38, r64 4 (F4 y)), (g9, 5, #[.int .u8 ((byteS s 31 % 128 : Nat) : Int)]), (w.heap.size, 40, nums 2 (two 0 0))] w8 := hE''.k
  clear hE''
  clear n7
  rw [eg9, eg10]
  clear eg9 eg10
  clear qv
  repeat with_reducible (first | (apply wp_seq_k; intro _ _) | (go_at_K; go_step) | apply tn | apply wp_block | apply wp_skip | apply wp_exit | apply then_exit | apply block_normal | apply block_same | exact block_far rfl ?_)
  with_reducible apply wp_region_lit
  refine wpList_val (.bool true) rfl (by refine lands_value (w := w8) ?_ h8; go_simp <;> rfl) ?_
  intro w11 h11
  simp only [pu]
  clear h8
  refine wpList_val (.bool false) rfl (by refine lands_value (w := w11) ?_ h11; go_simp <;> rfl) ?_
  intro w12 h12
  simp only [pu]
  clear h11
  refine wpList_nil ?_
  repeat with_reducible (first | (apply wp_seq_k; intro _ _) | (go_at_K; go_step) | apply tn | apply wp_block | apply wp_skip | apply wp_exit | apply then_exit | apply block_normal | apply block_same | exact block_far rfl ?_)
  refine wp_cond_false rfl ?_
  repeat with_reducible (first | (apply wp_seq_k; intro _ _) | (go_at_K; go_step) | apply tn | apply wp_block | apply wp_skip | apply wp_exit | apply then_exit | apply block_normal | apply block_same | exact block_far rfl ?_)
  with_reducible apply wp_region_lit
  refine wpList_val (.agg (r64 4 (F4 y))) rfl (by exact lands_load _ _ rfl _ rfl _ _ _ (h12.blk _ m0) Try.underlying38 rfl (fe_size _) h12) ?_
  intro w13 h13
  simp only [pu]
  clear h12
  refine wpList_val (.tuple #[.agg (nums 2 (two x y)), .bool true]) rfl (by exact h13.call (qeven_t y hyM x hr w13) (by go_simp)) ?_
  intro w14 h14
  simp only [pu]
  clear h13
  refine wpList_val (.tuple #[.agg (nums 2 (two x y)), .bool true]) rfl (by refine lands_value (w := w14) ?_ h14; go_simp <;> rfl) ?_
  intro w15 h15
  simp only [pu]
  clear h14
  refine wpList_val (.agg (nums 2 (two x y))) rfl (by refine lands_value (w := w15) ?_ h15; go_simp <;> rfl) ?_
  intro w16 h16
  simp only [pu]
  clear h15
  refine wpList_val (.bool true) rfl (by refine lands_value (w := w16) ?_ h16; go_simp <;> rfl) ?_
  intro w17 h17
  simp only [pu]
  clear h16
  refine wpList_val (R := KD w.heap.size w [(w17.heap.size, 40, nums 2 (two 0 0)), (g10, 38, r64 4 (F4 y)), (g9, 5, #[.int .u8 ((byteS s 31 % 128 : Nat) : Int)]), (w.heap.size, 40, nums 2 (two 0 0))]) (.pointer (some ⟨w17.heap.size, 0, none⟩)) rfl (lands_run2 (alloc_run _ _ rfl zero_pt _) (h17.add _ _)) ?_
  intro w18 h18
  simp only [pu]
  clear h17
  generalize w17.heap.size = g19 at h18 ⊢
  refine wpList_val (R := KD w.heap.size w [(g19, 40, nums 2 (two x y)), (g10, 38, r64 4 (F4 y)), (g9, 5, #[.int .u8 ((byteS s 31 % 128 : Nat) : Int)]), (w.heap.size, 40, nums 2 (two 0 0))]) undef rfl (lands_store _ _ _ rfl g19 (nums 2 (two x y)) rfl rfl _ _ (h18.blk _ m0) (by kernel_rfl) (by kernel_rfl) (row_one fun _ => rfl) (h18.put (k := 0) rfl _)) ?_
  intro w20 h20
  simp only [pu]
  clear h18
  refine wpList_val (.bool true) rfl (by refine lands_value (w := w20) ?_ h20; go_simp <;> rfl) ?_
  intro w21 h21
  simp only [pu]
  clear h20
  refine wpList_nil ?_
  repeat with_reducible (first | (apply wp_seq_k; intro _ _) | (go_at_K; go_step) | apply tn | apply wp_block | apply wp_skip | apply wp_exit | apply then_exit | apply block_normal | apply block_same | exact block_far rfl ?_)
  with_reducible apply wp_region_lit
  refine wpList_val (.bool true) rfl (by refine lands_value (w := w21) ?_ h21; go_simp <;> rfl) ?_
  intro w22 h22
  simp only [pu]
  clear h21
  refine wpList_val (.bool false) rfl (by refine lands_value (w := w22) ?_ h22; go_simp <;> rfl) ?_
  intro w23 h23
  simp only [pu]
  clear h22
  refine wpList_val (.bool false) rfl (by refine lands_value (w := w23) ?_ h23; go_simp <;> rfl) ?_
  intro w24 h24
  simp only [pu]
  clear h23
  refine wpList_valG (.string s) rfl (by refine lands_value (w := w24) ?_ h24; go_simp <;> rfl) ?_
  intro w25 h25
  simp only [pu]
  clear h24
  refine wpList_valG (.int .i64 1) rfl (by exact lands_calls (w := w25) ((HBT.out w25).mono fun _ _ ⟨he, hb⟩ => ⟨he, hb ▸ h25⟩) (by go_simp)) ?_
  intro w26 h26
  simp only [pu]
  clear h25
  refine wpList_valG (.bool false) rfl (by refine lands_value (w := w26) ?_ h26; go_simp) ?_
  intro w27 h27
  simp only [pu]
  clear h26
  refine wpList_val (.bool false) rfl (by refine lands_value (w := w27) ?_ h27; go_simp <;> rfl) ?_
  intro w28 h28
  simp only [pu]
  clear h27
  refine wpList_nil ?_
  repeat with_reducible (first | (apply wp_seq_k; intro _ _) | (go_at_K; go_step) | apply tn | apply wp_block | apply wp_skip | apply wp_exit | apply then_exit | apply block_normal | apply block_same | exact block_far rfl ?_)
  refine wp_cond_false rfl ?_
  repeat with_reducible (first | (apply wp_seq_k; intro _ _) | (go_at_K; go_step) | apply tn | apply wp_block | apply wp_skip | apply wp_exit | apply then_exit | apply block_normal | apply block_same | exact block_far rfl ?_)
  with_reducible apply wp_region_lit
  refine wpList_val (.agg (nums 2 (two x y))) rfl (by exact lands_load _ _ rfl _ rfl _ _ _ (h28.blk _ m0) Try.underlying40 rfl (by kernel_rfl) h28) ?_
  intro w29 h29
  simp only [pu]
  clear h28
  refine wpList_val (.tuple #[.agg (nums 2 (two ((pneg ⟨x, y⟩).x) ((pneg ⟨x, y⟩).y))), .bool true]) rfl (by exact h29.call (qturned_f ⟨x, y⟩ hC hP hb w29) (by go_simp)) ?_
  intro w30 h30
  simp only [pu]
  clear h29
  refine wpList_val (.agg (nums 2 (two ((pneg ⟨x, y⟩).x) ((pneg ⟨x, y⟩).y)))) rfl (by refine lands_value (w := w30) ?_ h30; go_simp <;> rfl) ?_
  intro w31 h31
  simp only [pu]
  clear h30
  refine wpList_val (.bool true) rfl (by refine lands_value (w := w31) ?_ h31; go_simp <;> rfl) ?_
  intro w32 h32
  simp only [pu]
  clear h31
  refine wpList_val (R := KD w.heap.size w [(g19, 40, nums 2 (two x y)), (g10, 38, r64 4 (F4 y)), (g9, 5, #[.int .u8 ((byteS s 31 % 128 : Nat) : Int)]), (w.heap.size, 40, nums 2 (two ((pneg ⟨x, y⟩).x) ((pneg ⟨x, y⟩).y)))]) undef rfl (lands_store _ _ _ rfl w.heap.size (nums 2 (two ((pneg ⟨x, y⟩).x) ((pneg ⟨x, y⟩).y))) rfl rfl _ _ (h32.blk _ m3) (by kernel_rfl) (by kernel_rfl) (row_one fun _ => rfl) (h32.put (k := 3) rfl _)) ?_
  intro w33 h33
  simp only [pu]
  clear h32
  refine wpList_val (.bool true) rfl (by refine lands_value (w := w33) ?_ h33; go_simp <;> rfl) ?_
  intro w34 h34
  simp only [pu]
  clear h33
  refine wpList_nil ?_
  repeat with_reducible (first | (apply wp_seq_k; intro _ _) | (go_at_K; go_step) | apply tn | apply wp_block | apply wp_skip | apply wp_exit | apply then_exit | apply block_normal | apply block_same | exact block_far rfl ?_)
  with_reducible apply wp_ret
  repeat (first | with_reducible apply then_ret | with_reducible apply block_ret)
  exact bodyPost_ret (results_cell_row_slot rfl _ _ w.heap.size 40 (nums 2 (two ((pneg ⟨x, y⟩).x) ((pneg ⟨x, y⟩).y))) (0, 0) _ _ rfl (h34.blk _ m3) Try.underlying40 rfl (by kernel_rfl) rfl) rfl ⟨rfl, h34.b⟩
set_option maxRecDepth 100000 in
set_option maxHeartbeats 1000000 in
theorem qdec_same (s : ByteArray) (hs : s.size = 32) (y : Nat) (hyM : y < M256) (hm : makeV (bytesV (yV s)) = (y, true)) (x : Nat) (hr : rV (subP (mulP y y) 1) (addP (mulP dP (mulP y y)) 1) = (x, true)) (hbt : ∀ w, Calls Try.prog 32 #[.string s, .int .i64 255] w fun e w' => e = .returned (.int .i64 1) ∧ w' = w) (hC : onC ⟨x, y⟩) (hP : (Pt.mk x y).ok) (hb : eqP (pneg ⟨x, y⟩) ⟨x, y⟩ = true) (w : World) :
    Calls Try.prog 16 #[.string s] w fun e w' => e = .returned (.tuple #[.agg (nums 2 (two 0 0)), .bool false]) ∧ Below w.heap.size w w' := by
  have hc : ((s.size : Int) != 32) = false := by rw [hs]; rfl
  have hks : 31 < s.size := by omega
  have hge : ¬ (s.size : Int) ≤ 31 := by omega
  have HB := Lib.hid (byteS_at s 31 hks)
  have hb256 := byteS_lt s 31
  have HL := Lib.hid (low_one s hs)
  have HM := Lib.hid hm
  clear hm
  have HBT := Lib.hid hbt
  clear hbt
  have h31 : ((31 : Nat) : Int) ≤ s.size := by omega
  go_enter Try.func16, Try.ntmps16
  repeat with_reducible (first | (apply wp_seq_k; intro _ _) | (go_at_K; go_step) | apply tn | apply wp_block | apply wp_skip | apply wp_exit | apply then_exit | apply block_normal | apply block_same | exact block_far rfl ?_)
  have h1 := KD.begin w
  with_reducible apply wp_region_lit
  refine wpList_val (R := KD w.heap.size w [(w.heap.size, 40, nums 2 (two 0 0))]) (.pointer (some ⟨w.heap.size, 0, none⟩)) rfl (lands_run2 (alloc_run _ _ rfl zero_pt _) (h1.add _ _)) ?_
  intro w2 h2
  simp only [pu]
  clear h1
  refine wpList_val (.bool false) rfl (by refine lands_value (w := w2) ?_ h2; go_simp <;> rfl) ?_
  intro w3 h3
  simp only [pu]
  clear h2
  refine wpList_nil ?_
  repeat with_reducible (first | (apply wp_seq_k; intro _ _) | (go_at_K; go_step) | apply tn | apply wp_block | apply wp_skip | apply wp_exit | apply then_exit | apply block_normal | apply block_same | exact block_far rfl ?_)
  with_reducible apply wp_region_lit
  refine wpList_val (.string s) rfl (by refine lands_value (w := w3) ?_ h3; go_simp <;> rfl) ?_
  intro w4 h4
  simp only [pu]
  clear h3
  refine wpList_val (.int .i64 (s.size : Int)) rfl (by refine lands_value (w := w4) ?_ h4; go_simp) ?_
  intro w5 h5
  simp only [pu]
  clear h4
  refine wpList_val (.bool false) rfl (by refine lands_value (w := w5) ?_ h5; go_simp) ?_
  intro w6 h6
  simp only [pu]
  clear h5
  refine wpList_nil ?_
  repeat with_reducible (first | (apply wp_seq_k; intro _ _) | (go_at_K; go_step) | apply tn | apply wp_block | apply wp_skip | apply wp_exit | apply then_exit | apply block_normal | apply block_same | exact block_far rfl ?_)
  refine wp_cond_false rfl ?_
  repeat with_reducible (first | (apply wp_seq_k; intro _ _) | (go_at_K; go_step) | apply tn | apply wp_block | apply wp_skip | apply wp_exit | apply then_exit | apply block_normal | apply block_same | exact block_far rfl ?_)
  obtain ⟨n7, hn7⟩ : ∃ n, n = w6.heap.size := ⟨_, rfl⟩
  refine wp_region_anyE (KM w.heap.size n7 w (fun _ _ => [(w.heap.size, 40, nums 2 (two 0 0))]) 1000 1001 [⟨5, 2000, 5, #[.int .u8 ((byteS s 31 % 128 : Nat) : Int)], #[.int .u8 ((byteS s 31 % 128 : Nat) : Int)], (fun g => .slice (some ⟨g, 0, none⟩) 1 1)⟩, ⟨12, 13, 38, r64 4 (F4 0), r64 4 (F4 y), ptr⟩]) (fun i => i == 5 || i == 12) (by kernel_rfl) (KM.begin h6 hn7 (lows hn7 h6 (fun _ _ => rfl)) _) ?_
  refine kO 0 (.string s) rfl rfl rfl (fun _ => rfl) (fun qv L wx hT => ?_) ?_
  · refine lands_value (w := wx) ?_ hT; go_simp <;> rfl
  simp only [pu]
  refine kO 1 (.string (s.extract 0 31)) rfl rfl rfl (fun _ => rfl) (fun qv L wx hT => ?_) ?_
  · refine lands_value (w := wx) ?_ hT; go_simp
  simp only [pu]
  refine kO 2 (.string s) rfl rfl rfl (fun _ => rfl) (fun qv L wx hT => ?_) ?_
  · refine lands_value (w := wx) ?_ hT; go_simp <;> rfl
  simp only [pu]
  refine kO 3 (.int .u8 (byteS s 31 : Int)) rfl rfl rfl (fun _ => rfl) (fun qv L wx hT => ?_) ?_
  · refine lands_value (w := wx) ?_ hT; go_simp; rw [HB.out]
  simp only [pu]
  refine kO 4 (.int .u8 ((byteS s 31 % 128 : Nat) : Int)) rfl rfl rfl (fun _ => rfl) (fun qv L wx hT => ?_) ?_
  · refine lands_value (w := wx) ?_ hT; go_simp; rw [and127 _ hb256]; omega
  simp only [pu]
  refine anyE_made (i := 5) rfl rfl (by kernel_rfl) (by kernel_rfl) (by kernel_rfl) (fun qv => ym_made (n := 9) ⟨5, 2000, 5, #[.int .u8 ((byteS s 31 % 128 : Nat) : Int)], #[.int .u8 ((byteS s 31 % 128 : Nat) : Int)], (fun g => .slice (some ⟨g, 0, none⟩) 1 1)⟩ (by kernel_rfl) m0 (.inr (by simp)) rfl (fun w => by go_simp)) ?_
  simp only [pu]
  refine anyE_take (i := 6) (.string (oneB (byteS s 31 % 128))) rfl rfl (by kernel_rfl) (by kernel_rfl) (by kernel_rfl) (fun qv => ym_behind ⟨5, 2000, 5, #[.int .u8 ((byteS s 31 % 128 : Nat) : Int)], #[.int .u8 ((byteS s 31 % 128 : Nat) : Int)], (fun g => .slice (some ⟨g, 0, none⟩) 1 1)⟩ m0 rfl (by kernel_rfl) (by simp) rfl (fun L wx g hq hb hT => ?_)) ?_
  · exact lands_convert _ _ _ rfl hq (one_back _ (by omega) hb) hT
  simp only [pu]
  refine kO 7 (.string (bytesV (yV s))) rfl rfl rfl (fun _ => rfl) (fun qv L wx hT => ?_) ?_
  · refine lands_value (w := wx) ?_ hT; go_simp; rw [HL.out, oneB_size, if_neg (by decide)]
  simp only [pu]
  refine kO 8 (.tuple #[.agg (r64 4 (F4 y)), .bool true]) rfl rfl rfl (fun _ => rfl) (fun qv L wx hT => ?_) ?_
  · exact hT.call (fmake_is (bytesV (yV s)) y true wx HM.out) (by go_simp)
  simp only [pu]
  refine kO 9 (.tuple #[.agg (r64 4 (F4 y)), .bool true]) rfl rfl rfl (fun _ => rfl) (fun qv L wx hT => ?_) ?_
  · refine lands_value (w := wx) ?_ hT; go_simp <;> rfl
  simp only [pu]
  refine kO 10 (.agg (r64 4 (F4 y))) rfl rfl rfl (fun _ => rfl) (fun qv L wx hT => ?_) ?_
  · refine lands_value (w := wx) ?_ hT; go_simp <;> rfl
  simp only [pu]
  refine kO 11 (.bool true) rfl rfl rfl (fun _ => rfl) (fun qv L wx hT => ?_) ?_
  · refine lands_value (w := wx) ?_ hT; go_simp <;> rfl
  simp only [pu]
  refine anyE_made (i := 12) rfl rfl (by kernel_rfl) (by kernel_rfl) (by kernel_rfl) (fun qv => ym_made (n := 9) ⟨12, 13, 38, r64 4 (F4 0), r64 4 (F4 y), ptr⟩ (by kernel_rfl) m1 (.inl (show waits .any _ 9 13 12 = true from (by kernel_rfl))) rfl (alloc_run _ _ rfl zero_fe)) ?_
  simp only [pu]
  refine anyE_take (i := 13) undef rfl rfl (by kernel_rfl) (by kernel_rfl) (by kernel_rfl) (fun qv => ym_stored ⟨12, 13, 38, r64 4 (F4 0), r64 4 (F4 y), ptr⟩ _ _ _ (by kernel_rfl) m1 rfl (by kernel_rfl) rfl rfl rfl rfl (by kernel_rfl) (by kernel_rfl) (row_one fun _ => rfl)) ?_
  simp only [pu]
  refine kO 14 (.bool true) rfl rfl rfl (fun _ => rfl) (fun qv L wx hT => ?_) ?_
  · refine lands_value (w := wx) ?_ hT; go_simp <;> rfl
  simp only [pu]
  refine anyE_done (by kernel_rfl) (fun qv w8 hK => ?_) _
  have hE := hK.out (by kernel_rfl) (by kernel_rfl) (fun x hx hge => by simp only [List.mem_cons, List.not_mem_nil, or_false] at hx; (try rcases hx with rfl | rfl) <;> first | rfl | (simp at hge)) (b := false) (c := false) (by kernel_rfl) (by kernel_rfl)
  clear hK h6 hn7
  obtain ⟨g9, eg9, hE'⟩ := hE.next
  clear hE
  replace eg9 : qv 5 = .slice (some ⟨g9, 0, none⟩) 1 1 := eg9
  obtain ⟨g10, eg10, hE''⟩ := hE'.next
  clear hE'
  replace eg10 : qv 12 = .pointer (some ⟨g10, 0, none⟩) := eg10
  have h8 : KD w.heap.size w [(g10, 38, r64 4 (F4 y)), (g9, 5, #[.int .u8 ((byteS s 31 % 128 : Nat) : Int)]), (w.heap.size, 40, nums 2 (two 0 0))] w8 := hE''.k
  clear hE''
  clear n7
  rw [eg9, eg10]
  clear eg9 eg10
  clear qv
  repeat with_reducible (first | (apply wp_seq_k; intro _ _) | (go_at_K; go_step) | apply tn | apply wp_block | apply wp_skip | apply wp_exit | apply then_exit | apply block_normal | apply block_same | exact block_far rfl ?_)
  with_reducible apply wp_region_lit
  refine wpList_val (.bool true) rfl (by refine lands_value (w := w8) ?_ h8; go_simp <;> rfl) ?_
  intro w11 h11
  simp only [pu]
  clear h8
  refine wpList_val (.bool false) rfl (by refine lands_value (w := w11) ?_ h11; go_simp <;> rfl) ?_
  intro w12 h12
  simp only [pu]
  clear h11
  refine wpList_nil ?_
  repeat with_reducible (first | (apply wp_seq_k; intro _ _) | (go_at_K; go_step) | apply tn | apply wp_block | apply wp_skip | apply wp_exit | apply then_exit | apply block_normal | apply block_same | exact block_far rfl ?_)
  refine wp_cond_false rfl ?_
  repeat with_reducible (first | (apply wp_seq_k; intro _ _) | (go_at_K; go_step) | apply tn | apply wp_block | apply wp_skip | apply wp_exit | apply then_exit | apply block_normal | apply block_same | exact block_far rfl ?_)
  with_reducible apply wp_region_lit
  refine wpList_val (.agg (r64 4 (F4 y))) rfl (by exact lands_load _ _ rfl _ rfl _ _ _ (h12.blk _ m0) Try.underlying38 rfl (fe_size _) h12) ?_
  intro w13 h13
  simp only [pu]
  clear h12
  refine wpList_val (.tuple #[.agg (nums 2 (two x y)), .bool true]) rfl (by exact h13.call (qeven_t y hyM x hr w13) (by go_simp)) ?_
  intro w14 h14
  simp only [pu]
  clear h13
  refine wpList_val (.tuple #[.agg (nums 2 (two x y)), .bool true]) rfl (by refine lands_value (w := w14) ?_ h14; go_simp <;> rfl) ?_
  intro w15 h15
  simp only [pu]
  clear h14
  refine wpList_val (.agg (nums 2 (two x y))) rfl (by refine lands_value (w := w15) ?_ h15; go_simp <;> rfl) ?_
  intro w16 h16
  simp only [pu]
  clear h15
  refine wpList_val (.bool true) rfl (by refine lands_value (w := w16) ?_ h16; go_simp <;> rfl) ?_
  intro w17 h17
  simp only [pu]
  clear h16
  refine wpList_val (R := KD w.heap.size w [(w17.heap.size, 40, nums 2 (two 0 0)), (g10, 38, r64 4 (F4 y)), (g9, 5, #[.int .u8 ((byteS s 31 % 128 : Nat) : Int)]), (w.heap.size, 40, nums 2 (two 0 0))]) (.pointer (some ⟨w17.heap.size, 0, none⟩)) rfl (lands_run2 (alloc_run _ _ rfl zero_pt _) (h17.add _ _)) ?_
  intro w18 h18
  simp only [pu]
  clear h17
  generalize w17.heap.size = g19 at h18 ⊢
  refine wpList_val (R := KD w.heap.size w [(g19, 40, nums 2 (two x y)), (g10, 38, r64 4 (F4 y)), (g9, 5, #[.int .u8 ((byteS s 31 % 128 : Nat) : Int)]), (w.heap.size, 40, nums 2 (two 0 0))]) undef rfl (lands_store _ _ _ rfl g19 (nums 2 (two x y)) rfl rfl _ _ (h18.blk _ m0) (by kernel_rfl) (by kernel_rfl) (row_one fun _ => rfl) (h18.put (k := 0) rfl _)) ?_
  intro w20 h20
  simp only [pu]
  clear h18
  refine wpList_val (.bool true) rfl (by refine lands_value (w := w20) ?_ h20; go_simp <;> rfl) ?_
  intro w21 h21
  simp only [pu]
  clear h20
  refine wpList_nil ?_
  repeat with_reducible (first | (apply wp_seq_k; intro _ _) | (go_at_K; go_step) | apply tn | apply wp_block | apply wp_skip | apply wp_exit | apply then_exit | apply block_normal | apply block_same | exact block_far rfl ?_)
  with_reducible apply wp_region_lit
  refine wpList_val (.bool true) rfl (by refine lands_value (w := w21) ?_ h21; go_simp <;> rfl) ?_
  intro w22 h22
  simp only [pu]
  clear h21
  refine wpList_val (.bool false) rfl (by refine lands_value (w := w22) ?_ h22; go_simp <;> rfl) ?_
  intro w23 h23
  simp only [pu]
  clear h22
  refine wpList_val (.bool false) rfl (by refine lands_value (w := w23) ?_ h23; go_simp <;> rfl) ?_
  intro w24 h24
  simp only [pu]
  clear h23
  refine wpList_valG (.string s) rfl (by refine lands_value (w := w24) ?_ h24; go_simp <;> rfl) ?_
  intro w25 h25
  simp only [pu]
  clear h24
  refine wpList_valG (.int .i64 1) rfl (by exact lands_calls (w := w25) ((HBT.out w25).mono fun _ _ ⟨he, hb⟩ => ⟨he, hb ▸ h25⟩) (by go_simp)) ?_
  intro w26 h26
  simp only [pu]
  clear h25
  refine wpList_valG (.bool false) rfl (by refine lands_value (w := w26) ?_ h26; go_simp) ?_
  intro w27 h27
  simp only [pu]
  clear h26
  refine wpList_val (.bool false) rfl (by refine lands_value (w := w27) ?_ h27; go_simp <;> rfl) ?_
  intro w28 h28
  simp only [pu]
  clear h27
  refine wpList_nil ?_
  repeat with_reducible (first | (apply wp_seq_k; intro _ _) | (go_at_K; go_step) | apply tn | apply wp_block | apply wp_skip | apply wp_exit | apply then_exit | apply block_normal | apply block_same | exact block_far rfl ?_)
  refine wp_cond_false rfl ?_
  repeat with_reducible (first | (apply wp_seq_k; intro _ _) | (go_at_K; go_step) | apply tn | apply wp_block | apply wp_skip | apply wp_exit | apply then_exit | apply block_normal | apply block_same | exact block_far rfl ?_)
  with_reducible apply wp_region_lit
  refine wpList_val (.agg (nums 2 (two x y))) rfl (by exact lands_load _ _ rfl _ rfl _ _ _ (h28.blk _ m0) Try.underlying40 rfl (by kernel_rfl) h28) ?_
  intro w29 h29
  simp only [pu]
  clear h28
  refine wpList_val (.tuple #[.agg (nums 2 (two 0 0)), .bool false]) rfl (by exact h29.call (qturned_t ⟨x, y⟩ hC hP hb w29) (by go_simp)) ?_
  intro w30 h30
  simp only [pu]
  clear h29
  refine wpList_val (.agg (nums 2 (two 0 0))) rfl (by refine lands_value (w := w30) ?_ h30; go_simp <;> rfl) ?_
  intro w31 h31
  simp only [pu]
  clear h30
  refine wpList_val (.bool false) rfl (by refine lands_value (w := w31) ?_ h31; go_simp <;> rfl) ?_
  intro w32 h32
  simp only [pu]
  clear h31
  refine wpList_val (R := KD w.heap.size w [(g19, 40, nums 2 (two x y)), (g10, 38, r64 4 (F4 y)), (g9, 5, #[.int .u8 ((byteS s 31 % 128 : Nat) : Int)]), (w.heap.size, 40, nums 2 (two 0 0))]) undef rfl (lands_store _ _ _ rfl w.heap.size (nums 2 (two 0 0)) rfl rfl _ _ (h32.blk _ m3) (by kernel_rfl) (by kernel_rfl) (row_one fun _ => rfl) (h32.put (k := 3) rfl _)) ?_
  intro w33 h33
  simp only [pu]
  clear h32
  refine wpList_val (.bool false) rfl (by refine lands_value (w := w33) ?_ h33; go_simp <;> rfl) ?_
  intro w34 h34
  simp only [pu]
  clear h33
  refine wpList_nil ?_
  repeat with_reducible (first | (apply wp_seq_k; intro _ _) | (go_at_K; go_step) | apply tn | apply wp_block | apply wp_skip | apply wp_exit | apply then_exit | apply block_normal | apply block_same | exact block_far rfl ?_)
  with_reducible apply wp_ret
  repeat (first | with_reducible apply then_ret | with_reducible apply block_ret)
  exact bodyPost_ret (results_cell_row_slot rfl _ _ w.heap.size 40 (nums 2 (two 0 0)) (0, 0) _ _ rfl (h34.blk _ m3) Try.underlying40 rfl (by kernel_rfl) rfl) rfl ⟨rfl, h34.b⟩
set_option maxRecDepth 100000 in
set_option maxHeartbeats 400000 in
theorem qdec_size (s : ByteArray) (hs : ¬ s.size = 32) (w : World) :
    Calls Try.prog 16 #[.string s] w fun e w' => e = .returned (.tuple #[.agg (nums 2 (two 0 0)), .bool false]) ∧ Below w.heap.size w w' := by
  have hc : ((s.size : Int) != 32) = true := by rw [bne_iff_ne]; omega
  go_enter Try.func16, Try.ntmps16
  repeat with_reducible (first | (apply wp_seq_k; intro _ _) | (go_at_K; go_step) | apply tn | apply wp_block | apply wp_skip | apply wp_exit | apply then_exit | apply block_normal | apply block_same | exact block_far rfl ?_)
  have h1 := KD.begin w
  with_reducible apply wp_region_lit
  refine wpList_val (R := KD w.heap.size w [(w.heap.size, 40, nums 2 (two 0 0))]) (.pointer (some ⟨w.heap.size, 0, none⟩)) rfl (lands_run2 (alloc_run _ _ rfl zero_pt _) (h1.add _ _)) ?_
  intro w2 h2
  simp only [pu]
  clear h1
  refine wpList_val (.bool false) rfl (by refine lands_value (w := w2) ?_ h2; go_simp <;> rfl) ?_
  intro w3 h3
  simp only [pu]
  clear h2
  refine wpList_nil ?_
  repeat with_reducible (first | (apply wp_seq_k; intro _ _) | (go_at_K; go_step) | apply tn | apply wp_block | apply wp_skip | apply wp_exit | apply then_exit | apply block_normal | apply block_same | exact block_far rfl ?_)
  with_reducible apply wp_region_lit
  refine wpList_val (.string s) rfl (by refine lands_value (w := w3) ?_ h3; go_simp <;> rfl) ?_
  intro w4 h4
  simp only [pu]
  clear h3
  refine wpList_val (.int .i64 (s.size : Int)) rfl (by refine lands_value (w := w4) ?_ h4; go_simp) ?_
  intro w5 h5
  simp only [pu]
  clear h4
  refine wpList_val (.bool true) rfl (by refine lands_value (w := w5) ?_ h5; go_simp) ?_
  intro w6 h6
  simp only [pu]
  clear h5
  refine wpList_nil ?_
  repeat with_reducible (first | (apply wp_seq_k; intro _ _) | (go_at_K; go_step) | apply tn | apply wp_block | apply wp_skip | apply wp_exit | apply then_exit | apply block_normal | apply block_same | exact block_far rfl ?_)
  refine wp_cond_true rfl ?_
  repeat with_reducible (first | (apply wp_seq_k; intro _ _) | (go_at_K; go_step) | apply tn | apply wp_block | apply wp_skip | apply wp_exit | apply then_exit | apply block_normal | apply block_same | exact block_far rfl ?_)
  with_reducible apply wp_region_lit
  refine wpList_val (.agg (nums 2 (two 0 0))) rfl (by exact lands_built _ _ rfl _ rfl _ (by kernel_rfl) h6) ?_
  intro w7 h7
  simp only [pu]
  clear h6
  refine wpList_val (R := KD w.heap.size w [(w.heap.size, 40, nums 2 (two 0 0))]) undef rfl (lands_store _ _ _ rfl w.heap.size (nums 2 (two 0 0)) rfl rfl _ _ (h7.blk _ m0) (by kernel_rfl) (by kernel_rfl) (row_one fun _ => rfl) (h7.put (k := 0) rfl _)) ?_
  intro w8 h8
  simp only [pu]
  clear h7
  refine wpList_val (.bool false) rfl (by refine lands_value (w := w8) ?_ h8; go_simp <;> rfl) ?_
  intro w9 h9
  simp only [pu]
  clear h8
  refine wpList_nil ?_
  repeat with_reducible (first | (apply wp_seq_k; intro _ _) | (go_at_K; go_step) | apply tn | apply wp_block | apply wp_skip | apply wp_exit | apply then_exit | apply block_normal | apply block_same | exact block_far rfl ?_)
  with_reducible apply wp_ret
  repeat (first | with_reducible apply then_ret | with_reducible apply block_ret)
  exact bodyPost_ret (results_cell_row_slot rfl _ _ w.heap.size 40 (nums 2 (two 0 0)) (0, 0) _ _ rfl (h9.blk _ m0) Try.underlying40 rfl (by kernel_rfl) rfl) rfl ⟨rfl, h9.b⟩
theorem qbit255 (s : ByteArray) (b : Nat) (h : byteS s 31 / 128 = b) (w : World) : Calls Try.prog 32 #[.string s, .int .i64 255] w fun e w' => e = .returned (.int .i64 (b : Int)) ∧ w' = w := by
  have h1 := qbit_int s 255 w (by decide)
  rwa [bit255, h] at h1
theorem qdec_any (s : ByteArray) (w : World) :
    Calls Try.prog 16 #[.string s] w fun e w' => e = .returned (.tuple #[.agg (nums 2 (two (decV s).1.x (decV s).1.y)), .bool (decV s).2]) ∧ Below w.heap.size w w' := by
  by_cases hs : s.size = 32
  · by_cases hm : yV s % pP = yV s
    · cases hr : rV (subP (mulP (yV s) (yV s)) 1) (addP (mulP dP (mulP (yV s) (yV s))) 1) with
      | mk x b =>
        cases b with
        | false => rw [decV_none hr]; exact qdec_none s hs (yV s) (yV_M s) (make_yes hm) x hr w
        | true =>
          have hC := root_on (yV_p hm) hr
          have h256 := byteS_lt s 31
          by_cases hb : byteS s 31 < 128
          · rw [decV_even hs hm hr hb]
            exact qdec_even s hs (yV s) (yV_M s) (make_yes hm) x hr (qbit255 s 0 (by omega)) w
          · by_cases hx : x = 0
            · rw [decV_same hs hm hr hb hx]
              exact qdec_same s hs (yV s) (yV_M s) (make_yes hm) x hr (qbit255 s 1 (by omega)) hC hC.ok (eqP_iff.2 (Pt.same ((neg_same hC.x).2 hx) rfl)) w
            · rw [decV_odd hs hm hr hb hx]
              exact qdec_odd s hs (yV s) (yV_M s) (make_yes hm) x hr (qbit255 s 1 (by omega)) hC hC.ok (eqP_no.2 fun e => hx ((neg_same hC.x).1 (congrArg Pt.x e))) w
    · rw [decV_make hm]; exact qdec_make s hs (make_not hm) w
  · rw [decV_size hs]; exact qdec_size s hs w
end Go.Proofs.Ytggalphgnloneaa
