/- The layer point: Decode. (written by mkQ5.py) -/
import Derived.Test.YtggalphgnloneaaGreatQx
namespace Go.Proofs.YtggalphgnloneaaGreat
open Go.RowKit
set_option maxRecDepth 100000 in
set_option maxHeartbeats 1000000 in
theorem qdec_make (s : ByteArray) (hs : s.size = 32) (hm : makeV (bytesV (yV s)) = (0, false)) (w : World) :
    Calls Tryz.prog 23 #[.string s] w fun e w' => e = .returned (.tuple #[.agg (nums 2 (two 0 0)), .bool false]) ∧ Below w.heap.size w w' := by
  have hc : ((s.size : Int) != 32) = false := by rw [hs]; rfl
  have hks : 31 < s.size := by omega
  have hge : ¬ (s.size : Int) ≤ 31 := by omega
  have HB := Lib.hid (byteS_at s 31 hks)
  have hb256 := byteS_lt s 31
  have HL := Lib.hid (low_one s hs)
  have HM := Lib.hid hm
  clear hm
  have h31 : ((31 : Nat) : Int) ≤ s.size := by omega
  go_enter Tryz.func23, Tryz.ntmps23
  with_reducible (apply wp_seq_k; intro _ _)
  have h1 := KD.begin w
  with_reducible apply wp_region_lit
  refine wA h1 (alloc_run _ _ rfl zero_pt _) fun w2 h2 => ?_
  simp only [pu]
  clear h1
  refine wV (.bool false) ?_
  simp only [pu]
  refine wpList_nil ?_
  with_reducible (apply tn; go_at_K; go_step; apply wp_seq_k; intro _ _; apply wp_seq_k; intro _ _)
  with_reducible apply wp_region_lit
  refine wV (.string s) ?_
  simp only [pu]
  refine wV (.int .i64 (s.size : Int)) ?_
  simp only [pu]
  refine wV (.bool false) ?_
  simp only [pu]
  refine wpList_nil ?_
  with_reducible (apply tn; go_at_K; go_step)
  refine wp_cond_false rfl ?_
  with_reducible (apply wp_skip; apply tn; go_at_K; go_step; apply wp_seq_k; intro _ _)
  obtain ⟨n3, hn3⟩ : ∃ n, n = w2.heap.size := ⟨_, rfl⟩
  refine wp_region_anyE (KM w.heap.size n3 w (fun _ _ => [(w.heap.size, 42, nums 2 (two 0 0))]) 1000 1001 [⟨5, 2000, 5, #[.int .u8 ((byteS s 31 % 128 : Nat) : Int)], #[.int .u8 ((byteS s 31 % 128 : Nat) : Int)], (fun g => .slice (some ⟨g, 0, none⟩) 1 1)⟩, ⟨12, 13, 40, r64 4 (F4 0), r64 4 (F4 0), ptr⟩]) (fun i => i == 5 || i == 12) (by kernel_rfl) (KM.begin h2 hn3 (lows hn3 h2 (fun _ _ => rfl)) _) ?_
  refine kV 0 (.string s) rfl ?_
  simp only [pu]
  refine kV 1 (.string (s.extract 0 31)) rfl ?_
  simp only [pu]
  refine kV 2 (.string s) rfl ?_
  simp only [pu]
  refine kW 3 (.int .u8 (byteS s 31 : Int)) rfl (fun qv L wx hT => ?_) ?_
  · refine lands_value (w := wx) ?_ hT; go_simp; rw [HB.out]
  simp only [pu]
  refine kW 4 (.int .u8 ((byteS s 31 % 128 : Nat) : Int)) rfl (fun qv L wx hT => ?_) ?_
  · refine lands_value (w := wx) ?_ hT; go_simp; rw [and127 _ hb256]; omega
  simp only [pu]
  refine anyE_made (i := 5) rfl rfl (by kernel_rfl) (by kernel_rfl) (by kernel_rfl) (fun qv => ym_made (n := 9) ⟨5, 2000, 5, #[.int .u8 ((byteS s 31 % 128 : Nat) : Int)], #[.int .u8 ((byteS s 31 % 128 : Nat) : Int)], (fun g => .slice (some ⟨g, 0, none⟩) 1 1)⟩ (by kernel_rfl) m0 (.inr (by simp)) rfl (fun w => by go_simp)) ?_
  simp only [pu]
  refine anyE_take (i := 6) (.string (oneB (byteS s 31 % 128))) rfl rfl (by kernel_rfl) (by kernel_rfl) (by kernel_rfl) (fun qv => ym_behind ⟨5, 2000, 5, #[.int .u8 ((byteS s 31 % 128 : Nat) : Int)], #[.int .u8 ((byteS s 31 % 128 : Nat) : Int)], (fun g => .slice (some ⟨g, 0, none⟩) 1 1)⟩ m0 rfl (by kernel_rfl) (by simp) rfl (fun L wx g hq hb hT => ?_)) ?_
  · exact lands_convert _ _ _ rfl hq (one_back _ (by omega) hb) hT
  simp only [pu]
  refine kW 7 (.string (bytesV (yV s))) rfl (fun qv L wx hT => ?_) ?_
  · refine lands_value (w := wx) ?_ hT; go_simp; rw [HL.out, oneB_size, if_neg (by decide)]
  simp only [pu]
  refine kC 8 rfl (fun wx => fmake_is (bytesV (yV s)) 0 false wx HM.out) ?_
  simp only [pu]
  refine kV 9 (.tuple #[.agg (r64 4 (F4 0)), .bool false]) rfl ?_
  simp only [pu]
  refine kV 10 (.agg (r64 4 (F4 0))) rfl ?_
  simp only [pu]
  refine kV 11 (.bool false) rfl ?_
  simp only [pu]
  refine anyE_made (i := 12) rfl rfl (by kernel_rfl) (by kernel_rfl) (by kernel_rfl) (fun qv => ym_made (n := 9) ⟨12, 13, 40, r64 4 (F4 0), r64 4 (F4 0), ptr⟩ (by kernel_rfl) m1 (.inl (show waits .any _ 9 13 12 = true from (by kernel_rfl))) rfl (alloc_run _ _ rfl zero_fe)) ?_
  simp only [pu]
  refine anyE_take (i := 13) undef rfl rfl (by kernel_rfl) (by kernel_rfl) (by kernel_rfl) (fun qv => ym_stored ⟨12, 13, 40, r64 4 (F4 0), r64 4 (F4 0), ptr⟩ _ _ _ (by kernel_rfl) m1 rfl (by kernel_rfl) rfl rfl rfl rfl (by kernel_rfl) (by kernel_rfl) (row_one fun _ => rfl)) ?_
  simp only [pu]
  refine kV 14 (.bool false) rfl ?_
  simp only [pu]
  refine anyE_done (by kernel_rfl) (fun qv w4 hK => ?_) _
  have hE := hK.out (by kernel_rfl) (by kernel_rfl) (fun x hx hge => by simp only [List.mem_cons, List.not_mem_nil, or_false] at hx; (try rcases hx with rfl | rfl) <;> first | rfl | (simp at hge)) (b := false) (c := false) (by kernel_rfl) (by kernel_rfl)
  clear hK h2 hn3
  obtain ⟨g5, eg5, hE'⟩ := hE.next
  clear hE
  replace eg5 : qv 5 = .slice (some ⟨g5, 0, none⟩) 1 1 := eg5
  obtain ⟨g6, eg6, hE''⟩ := hE'.next
  clear hE'
  replace eg6 : qv 12 = .pointer (some ⟨g6, 0, none⟩) := eg6
  have h4 : KD w.heap.size w [(g6, 40, r64 4 (F4 0)), (g5, 5, #[.int .u8 ((byteS s 31 % 128 : Nat) : Int)]), (w.heap.size, 42, nums 2 (two 0 0))] w4 := hE''.k
  clear hE''
  clear n3
  rw [eg5, eg6]
  clear eg5 eg6
  clear qv
  with_reducible (apply tn; go_at_K; go_step; apply wp_seq_k; intro _ _; apply wp_seq_k; intro _ _)
  with_reducible apply wp_region_lit
  refine wV (.bool false) ?_
  simp only [pu]
  refine wV (.bool true) ?_
  simp only [pu]
  refine wpList_nil ?_
  with_reducible (apply tn; go_at_K; go_step)
  refine wp_cond_true rfl ?_
  with_reducible (apply wp_seq_k; intro _ _)
  with_reducible apply wp_region_lit
  refine wL (.agg (nums 2 (two 0 0))) (by exact lands_built _ _ rfl _ rfl _ (by kernel_rfl) rfl) ?_
  simp only [pu]
  refine wpList_val (R := KD w.heap.size w [(g6, 40, r64 4 (F4 0)), (g5, 5, #[.int .u8 ((byteS s 31 % 128 : Nat) : Int)]), (w.heap.size, 42, nums 2 (two 0 0))]) undef rfl (lands_store _ _ _ rfl w.heap.size (nums 2 (two 0 0)) rfl rfl _ _ (h4.blk _ m2) (by kernel_rfl) (by kernel_rfl) (row_one fun _ => rfl) (h4.put (k := 2) rfl _)) ?_
  intro w7 h7
  simp only [pu]
  clear h4
  refine wV (.bool false) ?_
  simp only [pu]
  refine wpList_nil ?_
  with_reducible (apply tn; go_at_K; go_step)
  with_reducible apply wp_ret
  repeat (first | with_reducible apply then_ret | with_reducible apply block_ret)
  exact bodyPost_ret (results_cell_row_slot rfl _ _ w.heap.size 42 (nums 2 (two 0 0)) (0, 0) _ _ rfl (h7.blk _ m2) Tryz.underlying42 rfl (by kernel_rfl) rfl) rfl ⟨rfl, h7.b⟩
set_option maxRecDepth 100000 in
set_option maxHeartbeats 1000000 in
theorem qdec_none (s : ByteArray) (hs : s.size = 32) (y : Nat) (hyM : y < M256) (hm : makeV (bytesV (yV s)) = (y, true)) (x : Nat) (hr : rV (subP (mulP y y) 1) (addP (mulP dP (mulP y y)) 1) = (x, false)) (w : World) :
    Calls Tryz.prog 23 #[.string s] w fun e w' => e = .returned (.tuple #[.agg (nums 2 (two 0 0)), .bool false]) ∧ Below w.heap.size w w' := by
  have hc : ((s.size : Int) != 32) = false := by rw [hs]; rfl
  have hks : 31 < s.size := by omega
  have hge : ¬ (s.size : Int) ≤ 31 := by omega
  have HB := Lib.hid (byteS_at s 31 hks)
  have hb256 := byteS_lt s 31
  have HL := Lib.hid (low_one s hs)
  have HM := Lib.hid hm
  clear hm
  have h31 : ((31 : Nat) : Int) ≤ s.size := by omega
  go_enter Tryz.func23, Tryz.ntmps23
  with_reducible (apply wp_seq_k; intro _ _)
  have h1 := KD.begin w
  with_reducible apply wp_region_lit
  refine wA h1 (alloc_run _ _ rfl zero_pt _) fun w2 h2 => ?_
  simp only [pu]
  clear h1
  refine wV (.bool false) ?_
  simp only [pu]
  refine wpList_nil ?_
  with_reducible (apply tn; go_at_K; go_step; apply wp_seq_k; intro _ _; apply wp_seq_k; intro _ _)
  with_reducible apply wp_region_lit
  refine wV (.string s) ?_
  simp only [pu]
  refine wV (.int .i64 (s.size : Int)) ?_
  simp only [pu]
  refine wV (.bool false) ?_
  simp only [pu]
  refine wpList_nil ?_
  with_reducible (apply tn; go_at_K; go_step)
  refine wp_cond_false rfl ?_
  with_reducible (apply wp_skip; apply tn; go_at_K; go_step; apply wp_seq_k; intro _ _)
  obtain ⟨n3, hn3⟩ : ∃ n, n = w2.heap.size := ⟨_, rfl⟩
  refine wp_region_anyE (KM w.heap.size n3 w (fun _ _ => [(w.heap.size, 42, nums 2 (two 0 0))]) 1000 1001 [⟨5, 2000, 5, #[.int .u8 ((byteS s 31 % 128 : Nat) : Int)], #[.int .u8 ((byteS s 31 % 128 : Nat) : Int)], (fun g => .slice (some ⟨g, 0, none⟩) 1 1)⟩, ⟨12, 13, 40, r64 4 (F4 0), r64 4 (F4 y), ptr⟩]) (fun i => i == 5 || i == 12) (by kernel_rfl) (KM.begin h2 hn3 (lows hn3 h2 (fun _ _ => rfl)) _) ?_
  refine kV 0 (.string s) rfl ?_
  simp only [pu]
  refine kV 1 (.string (s.extract 0 31)) rfl ?_
  simp only [pu]
  refine kV 2 (.string s) rfl ?_
  simp only [pu]
  refine kW 3 (.int .u8 (byteS s 31 : Int)) rfl (fun qv L wx hT => ?_) ?_
  · refine lands_value (w := wx) ?_ hT; go_simp; rw [HB.out]
  simp only [pu]
  refine kW 4 (.int .u8 ((byteS s 31 % 128 : Nat) : Int)) rfl (fun qv L wx hT => ?_) ?_
  · refine lands_value (w := wx) ?_ hT; go_simp; rw [and127 _ hb256]; omega
  simp only [pu]
  refine anyE_made (i := 5) rfl rfl (by kernel_rfl) (by kernel_rfl) (by kernel_rfl) (fun qv => ym_made (n := 9) ⟨5, 2000, 5, #[.int .u8 ((byteS s 31 % 128 : Nat) : Int)], #[.int .u8 ((byteS s 31 % 128 : Nat) : Int)], (fun g => .slice (some ⟨g, 0, none⟩) 1 1)⟩ (by kernel_rfl) m0 (.inr (by simp)) rfl (fun w => by go_simp)) ?_
  simp only [pu]
  refine anyE_take (i := 6) (.string (oneB (byteS s 31 % 128))) rfl rfl (by kernel_rfl) (by kernel_rfl) (by kernel_rfl) (fun qv => ym_behind ⟨5, 2000, 5, #[.int .u8 ((byteS s 31 % 128 : Nat) : Int)], #[.int .u8 ((byteS s 31 % 128 : Nat) : Int)], (fun g => .slice (some ⟨g, 0, none⟩) 1 1)⟩ m0 rfl (by kernel_rfl) (by simp) rfl (fun L wx g hq hb hT => ?_)) ?_
  · exact lands_convert _ _ _ rfl hq (one_back _ (by omega) hb) hT
  simp only [pu]
  refine kW 7 (.string (bytesV (yV s))) rfl (fun qv L wx hT => ?_) ?_
  · refine lands_value (w := wx) ?_ hT; go_simp; rw [HL.out, oneB_size, if_neg (by decide)]
  simp only [pu]
  refine kC 8 rfl (fun wx => fmake_is (bytesV (yV s)) y true wx HM.out) ?_
  simp only [pu]
  refine kV 9 (.tuple #[.agg (r64 4 (F4 y)), .bool true]) rfl ?_
  simp only [pu]
  refine kV 10 (.agg (r64 4 (F4 y))) rfl ?_
  simp only [pu]
  refine kV 11 (.bool true) rfl ?_
  simp only [pu]
  refine anyE_made (i := 12) rfl rfl (by kernel_rfl) (by kernel_rfl) (by kernel_rfl) (fun qv => ym_made (n := 9) ⟨12, 13, 40, r64 4 (F4 0), r64 4 (F4 y), ptr⟩ (by kernel_rfl) m1 (.inl (show waits .any _ 9 13 12 = true from (by kernel_rfl))) rfl (alloc_run _ _ rfl zero_fe)) ?_
  simp only [pu]
  refine anyE_take (i := 13) undef rfl rfl (by kernel_rfl) (by kernel_rfl) (by kernel_rfl) (fun qv => ym_stored ⟨12, 13, 40, r64 4 (F4 0), r64 4 (F4 y), ptr⟩ _ _ _ (by kernel_rfl) m1 rfl (by kernel_rfl) rfl rfl rfl rfl (by kernel_rfl) (by kernel_rfl) (row_one fun _ => rfl)) ?_
  simp only [pu]
  refine kV 14 (.bool true) rfl ?_
  simp only [pu]
  refine anyE_done (by kernel_rfl) (fun qv w4 hK => ?_) _
  have hE := hK.out (by kernel_rfl) (by kernel_rfl) (fun x hx hge => by simp only [List.mem_cons, List.not_mem_nil, or_false] at hx; (try rcases hx with rfl | rfl) <;> first | rfl | (simp at hge)) (b := false) (c := false) (by kernel_rfl) (by kernel_rfl)
  clear hK h2 hn3
  obtain ⟨g5, eg5, hE'⟩ := hE.next
  clear hE
  replace eg5 : qv 5 = .slice (some ⟨g5, 0, none⟩) 1 1 := eg5
  obtain ⟨g6, eg6, hE''⟩ := hE'.next
  clear hE'
  replace eg6 : qv 12 = .pointer (some ⟨g6, 0, none⟩) := eg6
  have h4 : KD w.heap.size w [(g6, 40, r64 4 (F4 y)), (g5, 5, #[.int .u8 ((byteS s 31 % 128 : Nat) : Int)]), (w.heap.size, 42, nums 2 (two 0 0))] w4 := hE''.k
  clear hE''
  clear n3
  rw [eg5, eg6]
  clear eg5 eg6
  clear qv
  with_reducible (apply tn; go_at_K; go_step; apply wp_seq_k; intro _ _; apply wp_seq_k; intro _ _)
  with_reducible apply wp_region_lit
  refine wV (.bool true) ?_
  simp only [pu]
  refine wV (.bool false) ?_
  simp only [pu]
  refine wpList_nil ?_
  with_reducible (apply tn; go_at_K; go_step)
  refine wp_cond_false rfl ?_
  with_reducible (apply wp_skip; apply tn; go_at_K; go_step; apply wp_seq_k; intro _ _)
  with_reducible apply wp_region_lit
  refine wL (.agg (r64 4 (F4 y))) (by exact lands_load _ _ rfl _ rfl _ _ _ (h4.blk _ m0) Tryz.underlying40 rfl (fe_size _) rfl) ?_
  simp only [pu]
  refine wC h4 (qeven_f y hyM x hr w4) fun w7 h7 => ?_
  simp only [pu]
  clear h4
  refine wV (.tuple #[.agg (nums 2 (two 0 0)), .bool false]) ?_
  simp only [pu]
  refine wV (.agg (nums 2 (two 0 0))) ?_
  simp only [pu]
  refine wV (.bool false) ?_
  simp only [pu]
  refine wA h7 (alloc_run _ _ rfl zero_pt _) fun w8 h8 => ?_
  simp only [pu]
  clear h7
  generalize w7.heap.size = g9 at h8 ⊢
  refine wpList_val (R := KD w.heap.size w [(g9, 42, nums 2 (two 0 0)), (g6, 40, r64 4 (F4 y)), (g5, 5, #[.int .u8 ((byteS s 31 % 128 : Nat) : Int)]), (w.heap.size, 42, nums 2 (two 0 0))]) undef rfl (lands_store _ _ _ rfl g9 (nums 2 (two 0 0)) rfl rfl _ _ (h8.blk _ m0) (by kernel_rfl) (by kernel_rfl) (row_one fun _ => rfl) (h8.put (k := 0) rfl _)) ?_
  intro w10 h10
  simp only [pu]
  clear h8
  refine wV (.bool false) ?_
  simp only [pu]
  refine wpList_nil ?_
  with_reducible (apply tn; go_at_K; go_step; apply wp_seq_k; intro _ _; apply wp_seq_k; intro _ _)
  with_reducible apply wp_region_lit
  refine wV (.bool false) ?_
  simp only [pu]
  refine wV (.bool true) ?_
  simp only [pu]
  refine wV (.bool true) ?_
  simp only [pu]
  refine wpList_skipG rfl ?_
  simp only [pu]
  refine wpList_skipG rfl ?_
  simp only [pu]
  refine wpList_skipG rfl ?_
  simp only [pu]
  refine wV (.bool true) ?_
  simp only [pu]
  refine wpList_nil ?_
  with_reducible (apply tn; go_at_K; go_step)
  refine wp_cond_true rfl ?_
  with_reducible (apply wp_seq_k; intro _ _)
  with_reducible apply wp_region_lit
  refine wL (.agg (nums 2 (two 0 0))) (by exact lands_load _ _ rfl _ rfl _ _ _ (h10.blk _ m0) Tryz.underlying42 rfl (by kernel_rfl) rfl) ?_
  simp only [pu]
  refine wV (.bool false) ?_
  simp only [pu]
  refine wpList_val (R := KD w.heap.size w [(g9, 42, nums 2 (two 0 0)), (g6, 40, r64 4 (F4 y)), (g5, 5, #[.int .u8 ((byteS s 31 % 128 : Nat) : Int)]), (w.heap.size, 42, nums 2 (two 0 0))]) undef rfl (lands_store _ _ _ rfl w.heap.size (nums 2 (two 0 0)) rfl rfl _ _ (h10.blk _ m3) (by kernel_rfl) (by kernel_rfl) (row_one fun _ => rfl) (h10.put (k := 3) rfl _)) ?_
  intro w11 h11
  simp only [pu]
  clear h10
  refine wV (.bool false) ?_
  simp only [pu]
  refine wpList_nil ?_
  with_reducible (apply tn; go_at_K; go_step)
  with_reducible apply wp_ret
  repeat (first | with_reducible apply then_ret | with_reducible apply block_ret)
  exact bodyPost_ret (results_cell_row_slot rfl _ _ w.heap.size 42 (nums 2 (two 0 0)) (0, 0) _ _ rfl (h11.blk _ m3) Tryz.underlying42 rfl (by kernel_rfl) rfl) rfl ⟨rfl, h11.b⟩
set_option maxRecDepth 100000 in
set_option maxHeartbeats 1000000 in
theorem qdec_even (s : ByteArray) (hs : s.size = 32) (y : Nat) (hyM : y < M256) (hm : makeV (bytesV (yV s)) = (y, true)) (x : Nat) (hr : rV (subP (mulP y y) 1) (addP (mulP dP (mulP y y)) 1) = (x, true)) (hbt : ∀ w, Calls Tryz.prog 52 #[.string s, .int .i64 255] w fun e w' => e = .returned (.int .i64 0) ∧ w' = w) (w : World) :
    Calls Tryz.prog 23 #[.string s] w fun e w' => e = .returned (.tuple #[.agg (nums 2 (two x y)), .bool true]) ∧ Below w.heap.size w w' := by
  have hc : ((s.size : Int) != 32) = false := by rw [hs]; rfl
  have hks : 31 < s.size := by omega
  have hge : ¬ (s.size : Int) ≤ 31 := by omega
  have HB := Lib.hid (byteS_at s 31 hks)
  have hb256 := byteS_lt s 31
  have HL := Lib.hid (low_one s hs)
  have HM := Lib.hid hm
  clear hm
  have HBT := Lib.hid hbt
  clear hbt
  have h31 : ((31 : Nat) : Int) ≤ s.size := by omega
  go_enter Tryz.func23, Tryz.ntmps23
  with_reducible (apply wp_seq_k; intro _ _)
  have h1 := KD.begin w
  with_reducible apply wp_region_lit
  refine wA h1 (alloc_run _ _ rfl zero_pt _) fun w2 h2 => ?_
  simp only [pu]
  clear h1
  refine wV (.bool false) ?_
  simp only [pu]
  refine wpList_nil ?_
  with_reducible (apply tn; go_at_K; go_step; apply wp_seq_k; intro _ _; apply wp_seq_k; intro _ _)
  with_reducible apply wp_region_lit
  refine wV (.string s) ?_
  simp only [pu]
  refine wV (.int .i64 (s.size : Int)) ?_
  simp only [pu]
  refine wV (.bool false) ?_
  simp only [pu]
  refine wpList_nil ?_
  with_reducible (apply tn; go_at_K; go_step)
  refine wp_cond_false rfl ?_
  with_reducible (apply wp_skip; apply tn; go_at_K; go_step; apply wp_seq_k; intro _ _)
  obtain ⟨n3, hn3⟩ : ∃ n, n = w2.heap.size := ⟨_, rfl⟩
  refine wp_region_anyE (KM w.heap.size n3 w (fun _ _ => [(w.heap.size, 42, nums 2 (two 0 0))]) 1000 1001 [⟨5, 2000, 5, #[.int .u8 ((byteS s 31 % 128 : Nat) : Int)], #[.int .u8 ((byteS s 31 % 128 : Nat) : Int)], (fun g => .slice (some ⟨g, 0, none⟩) 1 1)⟩, ⟨12, 13, 40, r64 4 (F4 0), r64 4 (F4 y), ptr⟩]) (fun i => i == 5 || i == 12) (by kernel_rfl) (KM.begin h2 hn3 (lows hn3 h2 (fun _ _ => rfl)) _) ?_
  refine kV 0 (.string s) rfl ?_
  simp only [pu]
  refine kV 1 (.string (s.extract 0 31)) rfl ?_
  simp only [pu]
  refine kV 2 (.string s) rfl ?_
  simp only [pu]
  refine kW 3 (.int .u8 (byteS s 31 : Int)) rfl (fun qv L wx hT => ?_) ?_
  · refine lands_value (w := wx) ?_ hT; go_simp; rw [HB.out]
  simp only [pu]
  refine kW 4 (.int .u8 ((byteS s 31 % 128 : Nat) : Int)) rfl (fun qv L wx hT => ?_) ?_
  · refine lands_value (w := wx) ?_ hT; go_simp; rw [and127 _ hb256]; omega
  simp only [pu]
  refine anyE_made (i := 5) rfl rfl (by kernel_rfl) (by kernel_rfl) (by kernel_rfl) (fun qv => ym_made (n := 9) ⟨5, 2000, 5, #[.int .u8 ((byteS s 31 % 128 : Nat) : Int)], #[.int .u8 ((byteS s 31 % 128 : Nat) : Int)], (fun g => .slice (some ⟨g, 0, none⟩) 1 1)⟩ (by kernel_rfl) m0 (.inr (by simp)) rfl (fun w => by go_simp)) ?_
  simp only [pu]
  refine anyE_take (i := 6) (.string (oneB (byteS s 31 % 128))) rfl rfl (by kernel_rfl) (by kernel_rfl) (by kernel_rfl) (fun qv => ym_behind ⟨5, 2000, 5, #[.int .u8 ((byteS s 31 % 128 : Nat) : Int)], #[.int .u8 ((byteS s 31 % 128 : Nat) : Int)], (fun g => .slice (some ⟨g, 0, none⟩) 1 1)⟩ m0 rfl (by kernel_rfl) (by simp) rfl (fun L wx g hq hb hT => ?_)) ?_
  · exact lands_convert _ _ _ rfl hq (one_back _ (by omega) hb) hT
  simp only [pu]
  refine kW 7 (.string (bytesV (yV s))) rfl (fun qv L wx hT => ?_) ?_
  · refine lands_value (w := wx) ?_ hT; go_simp; rw [HL.out, oneB_size, if_neg (by decide)]
  simp only [pu]
  refine kC 8 rfl (fun wx => fmake_is (bytesV (yV s)) y true wx HM.out) ?_
  simp only [pu]
  refine kV 9 (.tuple #[.agg (r64 4 (F4 y)), .bool true]) rfl ?_
  simp only [pu]
  refine kV 10 (.agg (r64 4 (F4 y))) rfl ?_
  simp only [pu]
  refine kV 11 (.bool true) rfl ?_
  simp only [pu]
  refine anyE_made (i := 12) rfl rfl (by kernel_rfl) (by kernel_rfl) (by kernel_rfl) (fun qv => ym_made (n := 9) ⟨12, 13, 40, r64 4 (F4 0), r64 4 (F4 y), ptr⟩ (by kernel_rfl) m1 (.inl (show waits .any _ 9 13 12 = true from (by kernel_rfl))) rfl (alloc_run _ _ rfl zero_fe)) ?_
  simp only [pu]
  refine anyE_take (i := 13) undef rfl rfl (by kernel_rfl) (by kernel_rfl) (by kernel_rfl) (fun qv => ym_stored ⟨12, 13, 40, r64 4 (F4 0), r64 4 (F4 y), ptr⟩ _ _ _ (by kernel_rfl) m1 rfl (by kernel_rfl) rfl rfl rfl rfl (by kernel_rfl) (by kernel_rfl) (row_one fun _ => rfl)) ?_
  simp only [pu]
  refine kV 14 (.bool true) rfl ?_
  simp only [pu]
  refine anyE_done (by kernel_rfl) (fun qv w4 hK => ?_) _
  have hE := hK.out (by kernel_rfl) (by kernel_rfl) (fun x hx hge => by simp only [List.mem_cons, List.not_mem_nil, or_false] at hx; (try rcases hx with rfl | rfl) <;> first | rfl | (simp at hge)) (b := false) (c := false) (by kernel_rfl) (by kernel_rfl)
  clear hK h2 hn3
  obtain ⟨g5, eg5, hE'⟩ := hE.next
  clear hE
  replace eg5 : qv 5 = .slice (some ⟨g5, 0, none⟩) 1 1 := eg5
  obtain ⟨g6, eg6, hE''⟩ := hE'.next
  clear hE'
  replace eg6 : qv 12 = .pointer (some ⟨g6, 0, none⟩) := eg6
  have h4 : KD w.heap.size w [(g6, 40, r64 4 (F4 y)), (g5, 5, #[.int .u8 ((byteS s 31 % 128 : Nat) : Int)]), (w.heap.size, 42, nums 2 (two 0 0))] w4 := hE''.k
  clear hE''
  clear n3
  rw [eg5, eg6]
  clear eg5 eg6
  clear qv
  with_reducible (apply tn; go_at_K; go_step; apply wp_seq_k; intro _ _; apply wp_seq_k; intro _ _)
  with_reducible apply wp_region_lit
  refine wV (.bool true) ?_
  simp only [pu]
  refine wV (.bool false) ?_
  simp only [pu]
  refine wpList_nil ?_
  with_reducible (apply tn; go_at_K; go_step)
  refine wp_cond_false rfl ?_
  with_reducible (apply wp_skip; apply tn; go_at_K; go_step; apply wp_seq_k; intro _ _)
  with_reducible apply wp_region_lit
  refine wL (.agg (r64 4 (F4 y))) (by exact lands_load _ _ rfl _ rfl _ _ _ (h4.blk _ m0) Tryz.underlying40 rfl (fe_size _) rfl) ?_
  simp only [pu]
  refine wC h4 (qeven_t y hyM x hr w4) fun w7 h7 => ?_
  simp only [pu]
  clear h4
  refine wV (.tuple #[.agg (nums 2 (two x y)), .bool true]) ?_
  simp only [pu]
  refine wV (.agg (nums 2 (two x y))) ?_
  simp only [pu]
  refine wV (.bool true) ?_
  simp only [pu]
  refine wA h7 (alloc_run _ _ rfl zero_pt _) fun w8 h8 => ?_
  simp only [pu]
  clear h7
  generalize w7.heap.size = g9 at h8 ⊢
  refine wpList_val (R := KD w.heap.size w [(g9, 42, nums 2 (two x y)), (g6, 40, r64 4 (F4 y)), (g5, 5, #[.int .u8 ((byteS s 31 % 128 : Nat) : Int)]), (w.heap.size, 42, nums 2 (two 0 0))]) undef rfl (lands_store _ _ _ rfl g9 (nums 2 (two x y)) rfl rfl _ _ (h8.blk _ m0) (by kernel_rfl) (by kernel_rfl) (row_one fun _ => rfl) (h8.put (k := 0) rfl _)) ?_
  intro w10 h10
  simp only [pu]
  clear h8
  refine wV (.bool true) ?_
  simp only [pu]
  refine wpList_nil ?_
  with_reducible (apply tn; go_at_K; go_step; apply wp_seq_k; intro _ _; apply wp_seq_k; intro _ _)
  with_reducible apply wp_region_lit
  refine wV (.bool true) ?_
  simp only [pu]
  refine wV (.bool false) ?_
  simp only [pu]
  refine wV (.bool false) ?_
  simp only [pu]
  refine wVG (.string s) ?_
  simp only [pu]
  refine wpList_valG (.int .i64 0) rfl (by exact lands_calls (w := w10) ((HBT.out w10).mono fun _ _ ⟨he, hb⟩ => ⟨he, hb ▸ h10⟩) (by go_simp)) ?_
  intro w11 h11
  simp only [pu]
  clear h10
  refine wVG (.bool true) ?_
  simp only [pu]
  refine wV (.bool true) ?_
  simp only [pu]
  refine wpList_nil ?_
  with_reducible (apply tn; go_at_K; go_step)
  refine wp_cond_true rfl ?_
  with_reducible (apply wp_seq_k; intro _ _)
  with_reducible apply wp_region_lit
  refine wL (.agg (nums 2 (two x y))) (by exact lands_load _ _ rfl _ rfl _ _ _ (h11.blk _ m0) Tryz.underlying42 rfl (by kernel_rfl) rfl) ?_
  simp only [pu]
  refine wV (.bool true) ?_
  simp only [pu]
  refine wpList_val (R := KD w.heap.size w [(g9, 42, nums 2 (two x y)), (g6, 40, r64 4 (F4 y)), (g5, 5, #[.int .u8 ((byteS s 31 % 128 : Nat) : Int)]), (w.heap.size, 42, nums 2 (two x y))]) undef rfl (lands_store _ _ _ rfl w.heap.size (nums 2 (two x y)) rfl rfl _ _ (h11.blk _ m3) (by kernel_rfl) (by kernel_rfl) (row_one fun _ => rfl) (h11.put (k := 3) rfl _)) ?_
  intro w12 h12
  simp only [pu]
  clear h11
  refine wV (.bool true) ?_
  simp only [pu]
  refine wpList_nil ?_
  with_reducible (apply tn; go_at_K; go_step)
  with_reducible apply wp_ret
  repeat (first | with_reducible apply then_ret | with_reducible apply block_ret)
  exact bodyPost_ret (results_cell_row_slot rfl _ _ w.heap.size 42 (nums 2 (two x y)) (0, 0) _ _ rfl (h12.blk _ m3) Tryz.underlying42 rfl (by kernel_rfl) rfl) rfl ⟨rfl, h12.b⟩
set_option maxRecDepth 100000 in
set_option maxHeartbeats 1000000 in
theorem qdec_odd (s : ByteArray) (hs : s.size = 32) (y : Nat) (hyM : y < M256) (hm : makeV (bytesV (yV s)) = (y, true)) (x : Nat) (hr : rV (subP (mulP y y) 1) (addP (mulP dP (mulP y y)) 1) = (x, true)) (hbt : ∀ w, Calls Tryz.prog 52 #[.string s, .int .i64 255] w fun e w' => e = .returned (.int .i64 1) ∧ w' = w) (hC : onC ⟨x, y⟩) (hP : (Pt.mk x y).ok) (hb : eqP (pneg ⟨x, y⟩) ⟨x, y⟩ = false) (w : World) :
    Calls Tryz.prog 23 #[.string s] w fun e w' => e = .returned (.tuple #[.agg (nums 2 (two (pneg ⟨x, y⟩).x (pneg ⟨x, y⟩).y)), .bool true]) ∧ Below w.heap.size w w' := by
  have hc : ((s.size : Int) != 32) = false := by rw [hs]; rfl
  have hks : 31 < s.size := by omega
  have hge : ¬ (s.size : Int) ≤ 31 := by omega
  have HB := Lib.hid (byteS_at s 31 hks)
  have hb256 := byteS_lt s 31
  have HL := Lib.hid (low_one s hs)
  have HM := Lib.hid hm
  clear hm
  have HBT := Lib.hid hbt
  clear hbt
  have h31 : ((31 : Nat) : Int) ≤ s.size := by omega
  go_enter Tryz.func23, Tryz.ntmps23
  with_reducible (apply wp_seq_k; intro _ _)
  have h1 := KD.begin w
  with_reducible apply wp_region_lit
  refine wA h1 (alloc_run _ _ rfl zero_pt _) fun w2 h2 => ?_
  simp only [pu]
  clear h1
  refine wV (.bool false) ?_
  simp only [pu]
  refine wpList_nil ?_
  with_reducible (apply tn; go_at_K; go_step; apply wp_seq_k; intro _ _; apply wp_seq_k; intro _ _)
  with_reducible apply wp_region_lit
  refine wV (.string s) ?_
  simp only [pu]
  refine wV (.int .i64 (s.size : Int)) ?_
  simp only [pu]
  refine wV (.bool false) ?_
  simp only [pu]
  refine wpList_nil ?_
  with_reducible (apply tn; go_at_K; go_step)
  refine wp_cond_false rfl ?_
  with_reducible (apply wp_skip; apply tn; go_at_K; go_step; apply wp_seq_k; intro _ _)
  obtain ⟨n3, hn3⟩ : ∃ n, n = w2.heap.size := ⟨_, rfl⟩
  refine wp_region_anyE (KM w.heap.size n3 w (fun _ _ => [(w.heap.size, 42, nums 2 (two 0 0))]) 1000 1001 [⟨5, 2000, 5, #[.int .u8 ((byteS s 31 % 128 : Nat) : Int)], #[.int .u8 ((byteS s 31 % 128 : Nat) : Int)], (fun g => .slice (some ⟨g, 0, none⟩) 1 1)⟩, ⟨12, 13, 40, r64 4 (F4 0), r64 4 (F4 y), ptr⟩]) (fun i => i == 5 || i == 12) (by kernel_rfl) (KM.begin h2 hn3 (lows hn3 h2 (fun _ _ => rfl)) _) ?_
  refine kV 0 (.string s) rfl ?_
  simp only [pu]
  refine kV 1 (.string (s.extract 0 31)) rfl ?_
  simp only [pu]
  refine kV 2 (.string s) rfl ?_
  simp only [pu]
  refine kW 3 (.int .u8 (byteS s 31 : Int)) rfl (fun qv L wx hT => ?_) ?_
  · refine lands_value (w := wx) ?_ hT; go_simp; rw [HB.out]
  simp only [pu]
  refine kW 4 (.int .u8 ((byteS s 31 % 128 : Nat) : Int)) rfl (fun qv L wx hT => ?_) ?_
  · refine lands_value (w := wx) ?_ hT; go_simp; rw [and127 _ hb256]; omega
  simp only [pu]
  refine anyE_made (i := 5) rfl rfl (by kernel_rfl) (by kernel_rfl) (by kernel_rfl) (fun qv => ym_made (n := 9) ⟨5, 2000, 5, #[.int .u8 ((byteS s 31 % 128 : Nat) : Int)], #[.int .u8 ((byteS s 31 % 128 : Nat) : Int)], (fun g => .slice (some ⟨g, 0, none⟩) 1 1)⟩ (by kernel_rfl) m0 (.inr (by simp)) rfl (fun w => by go_simp)) ?_
  simp only [pu]
  refine anyE_take (i := 6) (.string (oneB (byteS s 31 % 128))) rfl rfl (by kernel_rfl) (by kernel_rfl) (by kernel_rfl) (fun qv => ym_behind ⟨5, 2000, 5, #[.int .u8 ((byteS s 31 % 128 : Nat) : Int)], #[.int .u8 ((byteS s 31 % 128 : Nat) : Int)], (fun g => .slice (some ⟨g, 0, none⟩) 1 1)⟩ m0 rfl (by kernel_rfl) (by simp) rfl (fun L wx g hq hb hT => ?_)) ?_
  · exact lands_convert _ _ _ rfl hq (one_back _ (by omega) hb) hT
  simp only [pu]
  refine kW 7 (.string (bytesV (yV s))) rfl (fun qv L wx hT => ?_) ?_
  · refine lands_value (w := wx) ?_ hT; go_simp; rw [HL.out, oneB_size, if_neg (by decide)]
  simp only [pu]
  refine kC 8 rfl (fun wx => fmake_is (bytesV (yV s)) y true wx HM.out) ?_
  simp only [pu]
  refine kV 9 (.tuple #[.agg (r64 4 (F4 y)), .bool true]) rfl ?_
  simp only [pu]
  refine kV 10 (.agg (r64 4 (F4 y))) rfl ?_
  simp only [pu]
  refine kV 11 (.bool true) rfl ?_
  simp only [pu]
  refine anyE_made (i := 12) rfl rfl (by kernel_rfl) (by kernel_rfl) (by kernel_rfl) (fun qv => ym_made (n := 9) ⟨12, 13, 40, r64 4 (F4 0), r64 4 (F4 y), ptr⟩ (by kernel_rfl) m1 (.inl (show waits .any _ 9 13 12 = true from (by kernel_rfl))) rfl (alloc_run _ _ rfl zero_fe)) ?_
  simp only [pu]
  refine anyE_take (i := 13) undef rfl rfl (by kernel_rfl) (by kernel_rfl) (by kernel_rfl) (fun qv => ym_stored ⟨12, 13, 40, r64 4 (F4 0), r64 4 (F4 y), ptr⟩ _ _ _ (by kernel_rfl) m1 rfl (by kernel_rfl) rfl rfl rfl rfl (by kernel_rfl) (by kernel_rfl) (row_one fun _ => rfl)) ?_
  simp only [pu]
  refine kV 14 (.bool true) rfl ?_
  simp only [pu]
  refine anyE_done (by kernel_rfl) (fun qv w4 hK => ?_) _
  have hE := hK.out (by kernel_rfl) (by kernel_rfl) (fun x hx hge => by simp only [List.mem_cons, List.not_mem_nil, or_false] at hx; (try rcases hx with rfl | rfl) <;> first | rfl | (simp at hge)) (b := false) (c := false) (by kernel_rfl) (by kernel_rfl)
  clear hK h2 hn3
  obtain ⟨g5, eg5, hE'⟩ := hE.next
  clear hE
  replace eg5 : qv 5 = .slice (some ⟨g5, 0, none⟩) 1 1 := eg5
  obtain ⟨g6, eg6, hE''⟩ := hE'.next
  clear hE'
  replace eg6 : qv 12 = .pointer (some ⟨g6, 0, none⟩) := eg6
  have h4 : KD w.heap.size w [(g6, 40, r64 4 (F4 y)), (g5, 5, #[.int .u8 ((byteS s 31 % 128 : Nat) : Int)]), (w.heap.size, 42, nums 2 (two 0 0))] w4 := hE''.k
  clear hE''
  clear n3
  rw [eg5, eg6]
  clear eg5 eg6
  clear qv
  with_reducible (apply tn; go_at_K; go_step; apply wp_seq_k; intro _ _; apply wp_seq_k; intro _ _)
  with_reducible apply wp_region_lit
  refine wV (.bool true) ?_
  simp only [pu]
  refine wV (.bool false) ?_
  simp only [pu]
  refine wpList_nil ?_
  with_reducible (apply tn; go_at_K; go_step)
  refine wp_cond_false rfl ?_
  with_reducible (apply wp_skip; apply tn; go_at_K; go_step; apply wp_seq_k; intro _ _)
  with_reducible apply wp_region_lit
  refine wL (.agg (r64 4 (F4 y))) (by exact lands_load _ _ rfl _ rfl _ _ _ (h4.blk _ m0) Tryz.underlying40 rfl (fe_size _) rfl) ?_
  simp only [pu]
  refine wC h4 (qeven_t y hyM x hr w4) fun w7 h7 => ?_
  simp only [pu]
  clear h4
  refine wV (.tuple #[.agg (nums 2 (two x y)), .bool true]) ?_
  simp only [pu]
  refine wV (.agg (nums 2 (two x y))) ?_
  simp only [pu]
  refine wV (.bool true) ?_
  simp only [pu]
  refine wA h7 (alloc_run _ _ rfl zero_pt _) fun w8 h8 => ?_
  simp only [pu]
  clear h7
  generalize w7.heap.size = g9 at h8 ⊢
  refine wpList_val (R := KD w.heap.size w [(g9, 42, nums 2 (two x y)), (g6, 40, r64 4 (F4 y)), (g5, 5, #[.int .u8 ((byteS s 31 % 128 : Nat) : Int)]), (w.heap.size, 42, nums 2 (two 0 0))]) undef rfl (lands_store _ _ _ rfl g9 (nums 2 (two x y)) rfl rfl _ _ (h8.blk _ m0) (by kernel_rfl) (by kernel_rfl) (row_one fun _ => rfl) (h8.put (k := 0) rfl _)) ?_
  intro w10 h10
  simp only [pu]
  clear h8
  refine wV (.bool true) ?_
  simp only [pu]
  refine wpList_nil ?_
  with_reducible (apply tn; go_at_K; go_step; apply wp_seq_k; intro _ _; apply wp_seq_k; intro _ _)
  with_reducible apply wp_region_lit
  refine wV (.bool true) ?_
  simp only [pu]
  refine wV (.bool false) ?_
  simp only [pu]
  refine wV (.bool false) ?_
  simp only [pu]
  refine wVG (.string s) ?_
  simp only [pu]
  refine wpList_valG (.int .i64 1) rfl (by exact lands_calls (w := w10) ((HBT.out w10).mono fun _ _ ⟨he, hb⟩ => ⟨he, hb ▸ h10⟩) (by go_simp)) ?_
  intro w11 h11
  simp only [pu]
  clear h10
  refine wVG (.bool false) ?_
  simp only [pu]
  refine wV (.bool false) ?_
  simp only [pu]
  refine wpList_nil ?_
  with_reducible (apply tn; go_at_K; go_step)
  refine wp_cond_false rfl ?_
  with_reducible (apply wp_skip; apply tn; go_at_K; go_step; apply wp_seq_k; intro _ _)
  with_reducible apply wp_region_lit
  refine wL (.agg (nums 2 (two x y))) (by exact lands_load _ _ rfl _ rfl _ _ _ (h11.blk _ m0) Tryz.underlying42 rfl (by kernel_rfl) rfl) ?_
  simp only [pu]
  refine wC h11 (qturned_f ⟨x, y⟩ hC hP hb w11) fun w12 h12 => ?_
  simp only [pu]
  clear h11
  refine wV (.agg (nums 2 (two ((pneg ⟨x, y⟩).x) ((pneg ⟨x, y⟩).y)))) ?_
  simp only [pu]
  refine wV (.bool true) ?_
  simp only [pu]
  refine wpList_val (R := KD w.heap.size w [(g9, 42, nums 2 (two x y)), (g6, 40, r64 4 (F4 y)), (g5, 5, #[.int .u8 ((byteS s 31 % 128 : Nat) : Int)]), (w.heap.size, 42, nums 2 (two ((pneg ⟨x, y⟩).x) ((pneg ⟨x, y⟩).y)))]) undef rfl (lands_store _ _ _ rfl w.heap.size (nums 2 (two ((pneg ⟨x, y⟩).x) ((pneg ⟨x, y⟩).y))) rfl rfl _ _ (h12.blk _ m3) (by kernel_rfl) (by kernel_rfl) (row_one fun _ => rfl) (h12.put (k := 3) rfl _)) ?_
  intro w13 h13
  simp only [pu]
  clear h12
  refine wV (.bool true) ?_
  simp only [pu]
  refine wpList_nil ?_
  with_reducible (apply tn; go_at_K; go_step)
  with_reducible apply wp_ret
  repeat (first | with_reducible apply then_ret | with_reducible apply block_ret)
  exact bodyPost_ret (results_cell_row_slot rfl _ _ w.heap.size 42 (nums 2 (two ((pneg ⟨x, y⟩).x) ((pneg ⟨x, y⟩).y))) (0, 0) _ _ rfl (h13.blk _ m3) Tryz.underlying42 rfl (by kernel_rfl) rfl) rfl ⟨rfl, h13.b⟩
set_option maxRecDepth 100000 in
set_option maxHeartbeats 1000000 in
theorem qdec_same (s : ByteArray) (hs : s.size = 32) (y : Nat) (hyM : y < M256) (hm : makeV (bytesV (yV s)) = (y, true)) (x : Nat) (hr : rV (subP (mulP y y) 1) (addP (mulP dP (mulP y y)) 1) = (x, true)) (hbt : ∀ w, Calls Tryz.prog 52 #[.string s, .int .i64 255] w fun e w' => e = .returned (.int .i64 1) ∧ w' = w) (hC : onC ⟨x, y⟩) (hP : (Pt.mk x y).ok) (hb : eqP (pneg ⟨x, y⟩) ⟨x, y⟩ = true) (w : World) :
    Calls Tryz.prog 23 #[.string s] w fun e w' => e = .returned (.tuple #[.agg (nums 2 (two 0 0)), .bool false]) ∧ Below w.heap.size w w' := by
  have hc : ((s.size : Int) != 32) = false := by rw [hs]; rfl
  have hks : 31 < s.size := by omega
  have hge : ¬ (s.size : Int) ≤ 31 := by omega
  have HB := Lib.hid (byteS_at s 31 hks)
  have hb256 := byteS_lt s 31
  have HL := Lib.hid (low_one s hs)
  have HM := Lib.hid hm
  clear hm
  have HBT := Lib.hid hbt
  clear hbt
  have h31 : ((31 : Nat) : Int) ≤ s.size := by omega
  go_enter Tryz.func23, Tryz.ntmps23
  with_reducible (apply wp_seq_k; intro _ _)
  have h1 := KD.begin w
  with_reducible apply wp_region_lit
  refine wA h1 (alloc_run _ _ rfl zero_pt _) fun w2 h2 => ?_
  simp only [pu]
  clear h1
  refine wV (.bool false) ?_
  simp only [pu]
  refine wpList_nil ?_
  with_reducible (apply tn; go_at_K; go_step; apply wp_seq_k; intro _ _; apply wp_seq_k; intro _ _)
  with_reducible apply wp_region_lit
  refine wV (.string s) ?_
  simp only [pu]
  refine wV (.int .i64 (s.size : Int)) ?_
  simp only [pu]
  refine wV (.bool false) ?_
  simp only [pu]
  refine wpList_nil ?_
  with_reducible (apply tn; go_at_K; go_step)
  refine wp_cond_false rfl ?_
  with_reducible (apply wp_skip; apply tn; go_at_K; go_step; apply wp_seq_k; intro _ _)
  obtain ⟨n3, hn3⟩ : ∃ n, n = w2.heap.size := ⟨_, rfl⟩
  refine wp_region_anyE (KM w.heap.size n3 w (fun _ _ => [(w.heap.size, 42, nums 2 (two 0 0))]) 1000 1001 [⟨5, 2000, 5, #[.int .u8 ((byteS s 31 % 128 : Nat) : Int)], #[.int .u8 ((byteS s 31 % 128 : Nat) : Int)], (fun g => .slice (some ⟨g, 0, none⟩) 1 1)⟩, ⟨12, 13, 40, r64 4 (F4 0), r64 4 (F4 y), ptr⟩]) (fun i => i == 5 || i == 12) (by kernel_rfl) (KM.begin h2 hn3 (lows hn3 h2 (fun _ _ => rfl)) _) ?_
  refine kV 0 (.string s) rfl ?_
  simp only [pu]
  refine kV 1 (.string (s.extract 0 31)) rfl ?_
  simp only [pu]
  refine kV 2 (.string s) rfl ?_
  simp only [pu]
  refine kW 3 (.int .u8 (byteS s 31 : Int)) rfl (fun qv L wx hT => ?_) ?_
  · refine lands_value (w := wx) ?_ hT; go_simp; rw [HB.out]
  simp only [pu]
  refine kW 4 (.int .u8 ((byteS s 31 % 128 : Nat) : Int)) rfl (fun qv L wx hT => ?_) ?_
  · refine lands_value (w := wx) ?_ hT; go_simp; rw [and127 _ hb256]; omega
  simp only [pu]
  refine anyE_made (i := 5) rfl rfl (by kernel_rfl) (by kernel_rfl) (by kernel_rfl) (fun qv => ym_made (n := 9) ⟨5, 2000, 5, #[.int .u8 ((byteS s 31 % 128 : Nat) : Int)], #[.int .u8 ((byteS s 31 % 128 : Nat) : Int)], (fun g => .slice (some ⟨g, 0, none⟩) 1 1)⟩ (by kernel_rfl) m0 (.inr (by simp)) rfl (fun w => by go_simp)) ?_
  simp only [pu]
  refine anyE_take (i := 6) (.string (oneB (byteS s 31 % 128))) rfl rfl (by kernel_rfl) (by kernel_rfl) (by kernel_rfl) (fun qv => ym_behind ⟨5, 2000, 5, #[.int .u8 ((byteS s 31 % 128 : Nat) : Int)], #[.int .u8 ((byteS s 31 % 128 : Nat) : Int)], (fun g => .slice (some ⟨g, 0, none⟩) 1 1)⟩ m0 rfl (by kernel_rfl) (by simp) rfl (fun L wx g hq hb hT => ?_)) ?_
  · exact lands_convert _ _ _ rfl hq (one_back _ (by omega) hb) hT
  simp only [pu]
  refine kW 7 (.string (bytesV (yV s))) rfl (fun qv L wx hT => ?_) ?_
  · refine lands_value (w := wx) ?_ hT; go_simp; rw [HL.out, oneB_size, if_neg (by decide)]
  simp only [pu]
  refine kC 8 rfl (fun wx => fmake_is (bytesV (yV s)) y true wx HM.out) ?_
  simp only [pu]
  refine kV 9 (.tuple #[.agg (r64 4 (F4 y)), .bool true]) rfl ?_
  simp only [pu]
  refine kV 10 (.agg (r64 4 (F4 y))) rfl ?_
  simp only [pu]
  refine kV 11 (.bool true) rfl ?_
  simp only [pu]
  refine anyE_made (i := 12) rfl rfl (by kernel_rfl) (by kernel_rfl) (by kernel_rfl) (fun qv => ym_made (n := 9) ⟨12, 13, 40, r64 4 (F4 0), r64 4 (F4 y), ptr⟩ (by kernel_rfl) m1 (.inl (show waits .any _ 9 13 12 = true from (by kernel_rfl))) rfl (alloc_run _ _ rfl zero_fe)) ?_
  simp only [pu]
  refine anyE_take (i := 13) undef rfl rfl (by kernel_rfl) (by kernel_rfl) (by kernel_rfl) (fun qv => ym_stored ⟨12, 13, 40, r64 4 (F4 0), r64 4 (F4 y), ptr⟩ _ _ _ (by kernel_rfl) m1 rfl (by kernel_rfl) rfl rfl rfl rfl (by kernel_rfl) (by kernel_rfl) (row_one fun _ => rfl)) ?_
  simp only [pu]
  refine kV 14 (.bool true) rfl ?_
  simp only [pu]
  refine anyE_done (by kernel_rfl) (fun qv w4 hK => ?_) _
  have hE := hK.out (by kernel_rfl) (by kernel_rfl) (fun x hx hge => by simp only [List.mem_cons, List.not_mem_nil, or_false] at hx; (try rcases hx with rfl | rfl) <;> first | rfl | (simp at hge)) (b := false) (c := false) (by kernel_rfl) (by kernel_rfl)
  clear hK h2 hn3
  obtain ⟨g5, eg5, hE'⟩ := hE.next
  clear hE
  replace eg5 : qv 5 = .slice (some ⟨g5, 0, none⟩) 1 1 := eg5
  obtain ⟨g6, eg6, hE''⟩ := hE'.next
  clear hE'
  replace eg6 : qv 12 = .pointer (some ⟨g6, 0, none⟩) := eg6
  have h4 : KD w.heap.size w [(g6, 40, r64 4 (F4 y)), (g5, 5, #[.int .u8 ((byteS s 31 % 128 : Nat) : Int)]), (w.heap.size, 42, nums 2 (two 0 0))] w4 := hE''.k
  clear hE''
  clear n3
  rw [eg5, eg6]
  clear eg5 eg6
  clear qv
  with_reducible (apply tn; go_at_K; go_step; apply wp_seq_k; intro _ _; apply wp_seq_k; intro _ _)
  with_reducible apply wp_region_lit
  refine wV (.bool true) ?_
  simp only [pu]
  refine wV (.bool false) ?_
  simp only [pu]
  refine wpList_nil ?_
  with_reducible (apply tn; go_at_K; go_step)
  refine wp_cond_false rfl ?_
  with_reducible (apply wp_skip; apply tn; go_at_K; go_step; apply wp_seq_k; intro _ _)
  with_reducible apply wp_region_lit
  refine wL (.agg (r64 4 (F4 y))) (by exact lands_load _ _ rfl _ rfl _ _ _ (h4.blk _ m0) Tryz.underlying40 rfl (fe_size _) rfl) ?_
  simp only [pu]
  refine wC h4 (qeven_t y hyM x hr w4) fun w7 h7 => ?_
  simp only [pu]
  clear h4
  refine wV (.tuple #[.agg (nums 2 (two x y)), .bool true]) ?_
  simp only [pu]
  refine wV (.agg (nums 2 (two x y))) ?_
  simp only [pu]
  refine wV (.bool true) ?_
  simp only [pu]
  refine wA h7 (alloc_run _ _ rfl zero_pt _) fun w8 h8 => ?_
  simp only [pu]
  clear h7
  generalize w7.heap.size = g9 at h8 ⊢
  refine wpList_val (R := KD w.heap.size w [(g9, 42, nums 2 (two x y)), (g6, 40, r64 4 (F4 y)), (g5, 5, #[.int .u8 ((byteS s 31 % 128 : Nat) : Int)]), (w.heap.size, 42, nums 2 (two 0 0))]) undef rfl (lands_store _ _ _ rfl g9 (nums 2 (two x y)) rfl rfl _ _ (h8.blk _ m0) (by kernel_rfl) (by kernel_rfl) (row_one fun _ => rfl) (h8.put (k := 0) rfl _)) ?_
  intro w10 h10
  simp only [pu]
  clear h8
  refine wV (.bool true) ?_
  simp only [pu]
  refine wpList_nil ?_
  with_reducible (apply tn; go_at_K; go_step; apply wp_seq_k; intro _ _; apply wp_seq_k; intro _ _)
  with_reducible apply wp_region_lit
  refine wV (.bool true) ?_
  simp only [pu]
  refine wV (.bool false) ?_
  simp only [pu]
  refine wV (.bool false) ?_
  simp only [pu]
  refine wVG (.string s) ?_
  simp only [pu]
  refine wpList_valG (.int .i64 1) rfl (by exact lands_calls (w := w10) ((HBT.out w10).mono fun _ _ ⟨he, hb⟩ => ⟨he, hb ▸ h10⟩) (by go_simp)) ?_
  intro w11 h11
  simp only [pu]
  clear h10
  refine wVG (.bool false) ?_
  simp only [pu]
  refine wV (.bool false) ?_
  simp only [pu]
  refine wpList_nil ?_
  with_reducible (apply tn; go_at_K; go_step)
  refine wp_cond_false rfl ?_
  with_reducible (apply wp_skip; apply tn; go_at_K; go_step; apply wp_seq_k; intro _ _)
  with_reducible apply wp_region_lit
  refine wL (.agg (nums 2 (two x y))) (by exact lands_load _ _ rfl _ rfl _ _ _ (h11.blk _ m0) Tryz.underlying42 rfl (by kernel_rfl) rfl) ?_
  simp only [pu]
  refine wC h11 (qturned_t ⟨x, y⟩ hC hP hb w11) fun w12 h12 => ?_
  simp only [pu]
  clear h11
  refine wV (.agg (nums 2 (two 0 0))) ?_
  simp only [pu]
  refine wV (.bool false) ?_
  simp only [pu]
  refine wpList_val (R := KD w.heap.size w [(g9, 42, nums 2 (two x y)), (g6, 40, r64 4 (F4 y)), (g5, 5, #[.int .u8 ((byteS s 31 % 128 : Nat) : Int)]), (w.heap.size, 42, nums 2 (two 0 0))]) undef rfl (lands_store _ _ _ rfl w.heap.size (nums 2 (two 0 0)) rfl rfl _ _ (h12.blk _ m3) (by kernel_rfl) (by kernel_rfl) (row_one fun _ => rfl) (h12.put (k := 3) rfl _)) ?_
  intro w13 h13
  simp only [pu]
  clear h12
  refine wV (.bool false) ?_
  simp only [pu]
  refine wpList_nil ?_
  with_reducible (apply tn; go_at_K; go_step)
  with_reducible apply wp_ret
  repeat (first | with_reducible apply then_ret | with_reducible apply block_ret)
  exact bodyPost_ret (results_cell_row_slot rfl _ _ w.heap.size 42 (nums 2 (two 0 0)) (0, 0) _ _ rfl (h13.blk _ m3) Tryz.underlying42 rfl (by kernel_rfl) rfl) rfl ⟨rfl, h13.b⟩
set_option maxRecDepth 100000 in
set_option maxHeartbeats 400000 in
theorem qdec_size (s : ByteArray) (hs : ¬ s.size = 32) (w : World) :
    Calls Tryz.prog 23 #[.string s] w fun e w' => e = .returned (.tuple #[.agg (nums 2 (two 0 0)), .bool false]) ∧ Below w.heap.size w w' := by
  have hc : ((s.size : Int) != 32) = true := by rw [bne_iff_ne]; omega
  go_enter Tryz.func23, Tryz.ntmps23
  with_reducible (apply wp_seq_k; intro _ _)
  have h1 := KD.begin w
  with_reducible apply wp_region_lit
  refine wA h1 (alloc_run _ _ rfl zero_pt _) fun w2 h2 => ?_
  simp only [pu]
  clear h1
  refine wV (.bool false) ?_
  simp only [pu]
  refine wpList_nil ?_
  with_reducible (apply tn; go_at_K; go_step; apply wp_seq_k; intro _ _; apply wp_seq_k; intro _ _)
  with_reducible apply wp_region_lit
  refine wV (.string s) ?_
  simp only [pu]
  refine wV (.int .i64 (s.size : Int)) ?_
  simp only [pu]
  refine wV (.bool true) ?_
  simp only [pu]
  refine wpList_nil ?_
  with_reducible (apply tn; go_at_K; go_step)
  refine wp_cond_true rfl ?_
  with_reducible (apply wp_seq_k; intro _ _)
  with_reducible apply wp_region_lit
  refine wL (.agg (nums 2 (two 0 0))) (by exact lands_built _ _ rfl _ rfl _ (by kernel_rfl) rfl) ?_
  simp only [pu]
  refine wpList_val (R := KD w.heap.size w [(w.heap.size, 42, nums 2 (two 0 0))]) undef rfl (lands_store _ _ _ rfl w.heap.size (nums 2 (two 0 0)) rfl rfl _ _ (h2.blk _ m0) (by kernel_rfl) (by kernel_rfl) (row_one fun _ => rfl) (h2.put (k := 0) rfl _)) ?_
  intro w3 h3
  simp only [pu]
  clear h2
  refine wV (.bool false) ?_
  simp only [pu]
  refine wpList_nil ?_
  with_reducible (apply tn; go_at_K; go_step)
  with_reducible apply wp_ret
  repeat (first | with_reducible apply then_ret | with_reducible apply block_ret)
  exact bodyPost_ret (results_cell_row_slot rfl _ _ w.heap.size 42 (nums 2 (two 0 0)) (0, 0) _ _ rfl (h3.blk _ m0) Tryz.underlying42 rfl (by kernel_rfl) rfl) rfl ⟨rfl, h3.b⟩
theorem qbit255 (s : ByteArray) (b : Nat) (h : byteS s 31 / 128 = b) (w : World) : Calls Tryz.prog 52 #[.string s, .int .i64 255] w fun e w' => e = .returned (.int .i64 (b : Int)) ∧ w' = w := by
  have h1 := qbit_int s 255 w (by decide)
  rwa [bit255, h] at h1
theorem qdec_any (s : ByteArray) (w : World) :
    Calls Tryz.prog 23 #[.string s] w fun e w' => e = .returned (.tuple #[.agg (nums 2 (two (decV s).1.x (decV s).1.y)), .bool (decV s).2]) ∧ Below w.heap.size w w' := by
  by_cases hs : s.size = 32
  · by_cases hm : yV s % pP = yV s
    · cases hr : rV (subP (mulP (yV s) (yV s)) 1) (addP (mulP dP (mulP (yV s) (yV s))) 1) with
      | mk x b =>
        cases b with
        | false => rw [decV_none hr]; exact qdec_none s hs (yV s) (yV_M s) (make_yes hm) x hr w
        | true =>
          have hC := root_on (yV_p hm) hr
          have h256 := byteS_lt s 31
          by_cases hb : byteS s 31 < 128
          · rw [decV_even hs hm hr hb]
            exact qdec_even s hs (yV s) (yV_M s) (make_yes hm) x hr (qbit255 s 0 (by omega)) w
          · by_cases hx : x = 0
            · rw [decV_same hs hm hr hb hx]
              exact qdec_same s hs (yV s) (yV_M s) (make_yes hm) x hr (qbit255 s 1 (by omega)) hC hC.ok (eqP_iff.2 (Pt.same ((neg_same hC.x).2 hx) rfl)) w
            · rw [decV_odd hs hm hr hb hx]
              exact qdec_odd s hs (yV s) (yV_M s) (make_yes hm) x hr (qbit255 s 1 (by omega)) hC hC.ok (eqP_no.2 fun e => hx ((neg_same hC.x).1 (congrArg Pt.x e))) w
    · rw [decV_make hm]; exact qdec_make s hs (make_not hm) w
  · rw [decV_size hs]; exact qdec_size s hs w
end Go.Proofs.YtggalphgnloneaaGreat
