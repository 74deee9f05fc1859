/- The layer point: Mul. (written by mkQ3.py) -/
import Derived.Test.YtggalphgnloneaaGreatQn
namespace Go.Proofs.YtggalphgnloneaaGreat
open Go.RowKit
set_option maxRecDepth 100000 in
set_option maxHeartbeats 4000000 in
theorem qmul_any (s : ByteArray) (P : Pt) (hx : P.x < M256) (hy : P.y < M256) (w : World) :
    Calls Tryz.prog 27 #[.string s, .agg (nums 2 (two P.x P.y))] w fun e w' => e = .returned (.agg (nums 2 (two (mulV s P).x (mulV s P).y))) ∧ Below w.heap.size w w' := by
  go_enter Tryz.func27, Tryz.ntmps27
  with_reducible (apply wp_seq_k; intro _ _)
  have h1 := KD.begin w
  with_reducible apply wp_region_lit
  refine wA h1 (box_run _ _ _ rfl rfl _) fun w2 h2 => ?_
  simp only [pu]
  clear h1
  refine wA h2 (alloc_run _ _ rfl zero_pt _) fun w3 h3 => ?_
  simp only [pu]
  clear h2
  generalize w2.heap.size = g4 at h3 ⊢
  refine wpList_nil ?_
  with_reducible (apply tn; go_at_K; go_step; apply wp_seq_k; intro _ _)
  with_reducible apply wp_region_lit
  refine wL (.agg (nums 2 (two P.x P.y))) (by exact lands_load _ _ rfl _ rfl _ _ _ (h3.blk _ m1) Tryz.underlying42 rfl (by kernel_rfl) rfl) ?_
  simp only [pu]
  refine wC h3 (qcounted_any P hx hy w3) fun w5 h5 => ?_
  simp only [pu]
  clear h3
  refine wC h5 (qmultiples_any (cnt P) (cnt_C P).ok w5) fun w6 h6 => ?_
  simp only [pu]
  clear h5
  refine wA h6 (alloc_run _ _ rfl zero_tab _) fun w7 h7 => ?_
  simp only [pu]
  clear h6
  generalize w6.heap.size = g8 at h7 ⊢
  refine wpList_val (R := KD w.heap.size w [(g8, 77, nums 48 (tab (cnt P) 15)), (g4, 42, nums 2 (two 0 0)), (w.heap.size, 42, nums 2 (two P.x P.y))]) undef rfl (lands_store _ _ _ rfl g8 (nums 48 (tab (cnt P) 15)) rfl rfl _ _ (h7.blk _ m0) (by kernel_rfl) (by kernel_rfl) (row_one fun _ => rfl) (h7.put (k := 0) rfl _)) ?_
  intro w9 h9
  simp only [pu]
  clear h7
  refine wpList_nil ?_
  with_reducible (apply tn; go_at_K; go_step; apply wp_seq_k; intro _ _)
  with_reducible apply wp_region_lit
  refine wV (.pointer (some ⟨g8, 0, none⟩)) ?_
  simp only [pu]
  refine wL (.agg (nums 3 (tri ((mulQ (cnt P) 0).x) ((mulQ (cnt P) 0).y) ((mulQ (cnt P) 0).z)))) (by rw [← tab_at (cnt P) 15 0 (by decide)]; exact lands_nums 0 3 _ _ rfl _ 48 _ rfl _ (h9.blk _ m0) (by decide) _ Tryz.underlying74 rfl (by kernel_rfl) rfl) ?_
  simp only [pu]
  refine wA h9 (alloc_run _ _ rfl zero_rk _) fun w10 h10 => ?_
  simp only [pu]
  clear h9
  generalize w9.heap.size = g11 at h10 ⊢
  refine wpList_val (R := KD w.heap.size w [(g11, 74, nums 3 (tri ((mulQ (cnt P) 0).x) ((mulQ (cnt P) 0).y) ((mulQ (cnt P) 0).z))), (g8, 77, nums 48 (tab (cnt P) 15)), (g4, 42, nums 2 (two 0 0)), (w.heap.size, 42, nums 2 (two P.x P.y))]) undef rfl (lands_store _ _ _ rfl g11 (nums 3 (tri ((mulQ (cnt P) 0).x) ((mulQ (cnt P) 0).y) ((mulQ (cnt P) 0).z))) rfl rfl _ _ (h10.blk _ m0) (by kernel_rfl) (by kernel_rfl) (row_one fun _ => rfl) (h10.put (k := 0) rfl _)) ?_
  intro w12 h12
  simp only [pu]
  clear h10
  refine wpList_nil ?_
  with_reducible (apply tn; go_at_K; go_step; apply wp_seq_k; intro _ _; apply wp_seq_k; intro _ _)
  with_reducible apply wp_region_lit
  refine wV (.string s) ?_
  simp only [pu]
  refine wV (.int .i64 (s.size : Int)) ?_
  simp only [pu]
  refine wL (.int .i64 ((min s.size 32 : Nat) : Int)) (by exact (lands_min (w := w12) _ s.size 32 rfl rfl rfl).weak fun _ e => e ▸ rfl) ?_
  simp only [pu]
  refine wL (.int .i64 ((min s.size 32 : Nat) - 1 : Int)) (by refine lands_value (w := w12) ?_ rfl; go_simp; rw [IntWalk.i64_in _ (by omega)]) ?_
  simp only [pu]
  refine wV (.int .i64 ((min s.size 32 : Nat) - 1 : Int)) ?_
  simp only [pu]
  refine wpList_nil ?_
  with_reducible (apply tn; go_at_K; go_step; apply wp_block)
  generalize hn : min s.size 32 = n
  have hn32 : n ≤ 32 := by omega
  have hns : n ≤ s.size := by omega
  go_loopw [7] (fun i wr => ∃ j : Nat, j ≤ n ∧ i = .int .i64 ((n : Int) - 1 - j) ∧ KD w.heap.size w [(g11, 74, nums 3 (tri ((accQ s (cnt P) n j).x) ((accQ s (cnt P) n j).y) ((accQ s (cnt P) n j).z))), (g8, 77, nums 48 (tab (cnt P) 15)), (g4, 42, nums 2 (two 0 0)), (w.heap.size, 42, nums 2 (two P.x P.y))] wr) (fun i _ => (intOf i + 1).toNat)
  case atStart => exact ⟨0, by omega, by simp, h12⟩
  case round =>
    obtain ⟨j, hj, rfl, hr⟩ := hrel
    clear h12
    by_cases hlt : j < n
    · obtain ⟨k, hk⟩ : ∃ k : Nat, (n : Int) - 1 - j = (k : Int) := ⟨n - 1 - j, by omega⟩
      rw [hk]
      have hkj : k = n - 1 - j := by omega
      have hks : k < s.size := by omega
      have hge : ¬ (s.size : Int) ≤ k := by omega
      have HB := Lib.hid (byteS_at s k hks)
      have hb := byteS_lt s k
      have HN := Lib.hid (accQ_next s (cnt P) n j k hkj)
      have HKJ := Lib.hid hkj
      have HK := Lib.hid hk
      have hkb : k < 32 := by omega
      clear hkj hk hns hn32 hlt hn hj
      with_reducible (apply wp_seq_k; intro _ _; apply wp_seq_k; intro _ _)
      with_reducible apply wp_region_lit
      refine wV (.int .i64 (k : Int)) ?_
      simp only [pu]
      refine wV (.bool true) ?_
      simp only [pu]
      refine wpList_nil ?_
      with_reducible (apply tn; go_at_K; go_step)
      refine wp_cond_true rfl ?_
      with_reducible (apply wp_skip; apply tn; go_at_K; go_step; apply wp_seq_k; intro _ _; apply wp_block; apply wp_seq_k; intro _ _)
      obtain ⟨n13, hn13⟩ : ∃ n, n = wr.heap.size := ⟨_, rfl⟩
      refine wp_region_anyE (KM w.heap.size n13 w (fun b _ => bif b then [(g11, 74, nums 3 (tri ((R3.plus (R3.t16 (accQ s (cnt P) n j)) (mulQ (cnt P) (byteS s k / 16))).x) ((R3.plus (R3.t16 (accQ s (cnt P) n j)) (mulQ (cnt P) (byteS s k / 16))).y) ((R3.plus (R3.t16 (accQ s (cnt P) n j)) (mulQ (cnt P) (byteS s k / 16))).z))), (g8, 77, nums 48 (tab (cnt P) 15)), (g4, 42, nums 2 (two 0 0)), (w.heap.size, 42, nums 2 (two P.x P.y))] else [(g11, 74, nums 3 (tri ((accQ s (cnt P) n j).x) ((accQ s (cnt P) n j).y) ((accQ s (cnt P) n j).z))), (g8, 77, nums 48 (tab (cnt P) 15)), (g4, 42, nums 2 (two 0 0)), (w.heap.size, 42, nums 2 (two P.x P.y))]) 9 1001 []) (fun _ => false) (by kernel_rfl) (KM.begin hr hn13 (lows hn13 hr (fun b _ => by cases b <;> simp only [cond_true, cond_false, List.map_cons, List.map_nil])) _) ?_
      refine kA 0 9 (.agg (nums 3 (tri ((accQ s (cnt P) n j).x) ((accQ s (cnt P) n j).y) ((accQ s (cnt P) n j).z)))) rfl rfl rfl (fun _ => rfl) (fun qv L wx hk hT => ?_) ?_
      · exact lands_load _ _ rfl _ rfl _ _ _ (hk.blk _ m0) Tryz.underlying74 rfl (by kernel_rfl) hT
      simp only [pu]
      refine kC 1 rfl (fun wx => qt16_any (accQ s (cnt P) n j) (accQ_ok _ _ _ _) wx) ?_
      simp only [pu]
      refine kV 2 (.string s) rfl ?_
      simp only [pu]
      refine kV 3 (.int .i64 (k : Int)) rfl ?_
      simp only [pu]
      refine kW 4 (.int .u8 (byteS s k : Int)) rfl (fun qv L wx hT => ?_) ?_
      · refine lands_value (w := wx) ?_ hT; go_simp; rw [HB.out]
      simp only [pu]
      refine kV 5 (.int .u8 ((byteS s k / 16 : Nat) : Int)) rfl ?_
      simp only [pu]
      refine kW 6 (.pointer (some ⟨g8, 4 * (3 * (byteS s k / 16)), none⟩)) rfl (fun qv L wx hT => ?_) ?_
      · refine lands_value (w := wx) ?_ hT; go_simp; rw [show ((byteS s k : Int) / 16).toNat * 12 = 4 * (3 * (byteS s k / 16)) by omega, if_pos (by omega)]
      simp only [pu]
      refine kA 7 9 (.agg (nums 3 (tri ((mulQ (cnt P) (byteS s k / 16)).x) ((mulQ (cnt P) (byteS s k / 16)).y) ((mulQ (cnt P) (byteS s k / 16)).z)))) rfl rfl rfl (fun _ => rfl) (fun qv L wx hk hT => ?_) ?_
      · rw [← tab_at (cnt P) 15 (byteS s k / 16) (by omega)]; exact lands_nums (3 * (byteS s k / 16)) 3 _ _ rfl _ 48 _ rfl _ (hk.blk _ m1) (by omega) _ Tryz.underlying74 rfl (by kernel_rfl) hT
      simp only [pu]
      refine kC 8 rfl (fun wx => qplus_any (R3.t16 (accQ s (cnt P) n j)) (R3.t16_ok) (mulQ (cnt P) (byteS s k / 16)) (mulQ_ok _ _) wx) ?_
      simp only [pu]
      refine anyE_take (i := 9) undef rfl rfl (by kernel_rfl) (by kernel_rfl) (by kernel_rfl) (fun qv => ym_first (k := 0) _ _ _ (by kernel_rfl) rfl rfl rfl rfl (by kernel_rfl) (by kernel_rfl) (row_one fun _ => rfl) (fun _ => rfl) (fun _ => rfl)) ?_
      simp only [pu]
      refine anyE_done (by kernel_rfl) (fun qv w14 hK => ?_) _
      have hE := hK.outs (by kernel_rfl) (by kernel_rfl)  (b := true) (c := false) (by kernel_rfl) (by kernel_rfl)
      clear hK hr hn13
      have h14 : KD w.heap.size w [(g11, 74, nums 3 (tri ((R3.plus (R3.t16 (accQ s (cnt P) n j)) (mulQ (cnt P) (byteS s k / 16))).x) ((R3.plus (R3.t16 (accQ s (cnt P) n j)) (mulQ (cnt P) (byteS s k / 16))).y) ((R3.plus (R3.t16 (accQ s (cnt P) n j)) (mulQ (cnt P) (byteS s k / 16))).z))), (g8, 77, nums 48 (tab (cnt P) 15)), (g4, 42, nums 2 (two 0 0)), (w.heap.size, 42, nums 2 (two P.x P.y))] w14 := hE.k
      clear hE
      clear n13
      clear qv
      with_reducible (apply tn; go_at_K; go_step)
      obtain ⟨n15, hn15⟩ : ∃ n, n = w14.heap.size := ⟨_, rfl⟩
      refine wp_region_anyE (KM w.heap.size n15 w (fun b _ => bif b then [(g11, 74, nums 3 (tri ((R3.plus (R3.t16 (R3.plus (R3.t16 (accQ s (cnt P) n j)) (mulQ (cnt P) (byteS s k / 16)))) (mulQ (cnt P) (byteS s k % 16))).x) ((R3.plus (R3.t16 (R3.plus (R3.t16 (accQ s (cnt P) n j)) (mulQ (cnt P) (byteS s k / 16)))) (mulQ (cnt P) (byteS s k % 16))).y) ((R3.plus (R3.t16 (R3.plus (R3.t16 (accQ s (cnt P) n j)) (mulQ (cnt P) (byteS s k / 16)))) (mulQ (cnt P) (byteS s k % 16))).z))), (g8, 77, nums 48 (tab (cnt P) 15)), (g4, 42, nums 2 (two 0 0)), (w.heap.size, 42, nums 2 (two P.x P.y))] else [(g11, 74, nums 3 (tri ((R3.plus (R3.t16 (accQ s (cnt P) n j)) (mulQ (cnt P) (byteS s k / 16))).x) ((R3.plus (R3.t16 (accQ s (cnt P) n j)) (mulQ (cnt P) (byteS s k / 16))).y) ((R3.plus (R3.t16 (accQ s (cnt P) n j)) (mulQ (cnt P) (byteS s k / 16))).z))), (g8, 77, nums 48 (tab (cnt P) 15)), (g4, 42, nums 2 (two 0 0)), (w.heap.size, 42, nums 2 (two P.x P.y))]) 9 1001 []) (fun _ => false) (by kernel_rfl) (KM.begin h14 hn15 (lows hn15 h14 (fun b _ => by cases b <;> simp only [cond_true, cond_false, List.map_cons, List.map_nil])) _) ?_
      refine kA 0 9 (.agg (nums 3 (tri ((R3.plus (R3.t16 (accQ s (cnt P) n j)) (mulQ (cnt P) (byteS s k / 16))).x) ((R3.plus (R3.t16 (accQ s (cnt P) n j)) (mulQ (cnt P) (byteS s k / 16))).y) ((R3.plus (R3.t16 (accQ s (cnt P) n j)) (mulQ (cnt P) (byteS s k / 16))).z)))) rfl rfl rfl (fun _ => rfl) (fun qv L wx hk hT => ?_) ?_
      · exact lands_load _ _ rfl _ rfl _ _ _ (hk.blk _ m0) Tryz.underlying74 rfl (by kernel_rfl) hT
      simp only [pu]
      refine kC 1 rfl (fun wx => qt16_any (R3.plus (R3.t16 (accQ s (cnt P) n j)) (mulQ (cnt P) (byteS s k / 16))) (R3.plus_ok) wx) ?_
      simp only [pu]
      refine kV 2 (.string s) rfl ?_
      simp only [pu]
      refine kV 3 (.int .i64 (k : Int)) rfl ?_
      simp only [pu]
      refine kW 4 (.int .u8 (byteS s k : Int)) rfl (fun qv L wx hT => ?_) ?_
      · refine lands_value (w := wx) ?_ hT; go_simp; rw [HB.out]
      simp only [pu]
      refine kW 5 (.int .u8 ((byteS s k % 16 : Nat) : Int)) rfl (fun qv L wx hT => ?_) ?_
      · refine lands_value (w := wx) ?_ hT; go_simp; rw [and15 _ hb]; omega
      simp only [pu]
      refine kW 6 (.pointer (some ⟨g8, 4 * (3 * (byteS s k % 16)), none⟩)) rfl (fun qv L wx hT => ?_) ?_
      · refine lands_value (w := wx) ?_ hT; go_simp; rw [show ((byteS s k : Int) % 16).toNat * 12 = 4 * (3 * (byteS s k % 16)) by omega, if_pos (by omega)]
      simp only [pu]
      refine kA 7 9 (.agg (nums 3 (tri ((mulQ (cnt P) (byteS s k % 16)).x) ((mulQ (cnt P) (byteS s k % 16)).y) ((mulQ (cnt P) (byteS s k % 16)).z)))) rfl rfl rfl (fun _ => rfl) (fun qv L wx hk hT => ?_) ?_
      · rw [← tab_at (cnt P) 15 (byteS s k % 16) (by omega)]; exact lands_nums (3 * (byteS s k % 16)) 3 _ _ rfl _ 48 _ rfl _ (hk.blk _ m1) (by omega) _ Tryz.underlying74 rfl (by kernel_rfl) hT
      simp only [pu]
      refine kC 8 rfl (fun wx => qplus_any (R3.t16 (R3.plus (R3.t16 (accQ s (cnt P) n j)) (mulQ (cnt P) (byteS s k / 16)))) (R3.t16_ok) (mulQ (cnt P) (byteS s k % 16)) (mulQ_ok _ _) wx) ?_
      simp only [pu]
      refine anyE_take (i := 9) undef rfl rfl (by kernel_rfl) (by kernel_rfl) (by kernel_rfl) (fun qv => ym_first (k := 0) _ _ _ (by kernel_rfl) rfl rfl rfl rfl (by kernel_rfl) (by kernel_rfl) (row_one fun _ => rfl) (fun _ => rfl) (fun _ => rfl)) ?_
      simp only [pu]
      refine anyE_done (by kernel_rfl) (fun qv w16 hK => ?_) _
      have hE := hK.outs (by kernel_rfl) (by kernel_rfl)  (b := true) (c := false) (by kernel_rfl) (by kernel_rfl)
      clear hK h14 hn15
      have h16 : KD w.heap.size w [(g11, 74, nums 3 (tri ((R3.plus (R3.t16 (R3.plus (R3.t16 (accQ s (cnt P) n j)) (mulQ (cnt P) (byteS s k / 16)))) (mulQ (cnt P) (byteS s k % 16))).x) ((R3.plus (R3.t16 (R3.plus (R3.t16 (accQ s (cnt P) n j)) (mulQ (cnt P) (byteS s k / 16)))) (mulQ (cnt P) (byteS s k % 16))).y) ((R3.plus (R3.t16 (R3.plus (R3.t16 (accQ s (cnt P) n j)) (mulQ (cnt P) (byteS s k / 16)))) (mulQ (cnt P) (byteS s k % 16))).z))), (g8, 77, nums 48 (tab (cnt P) 15)), (g4, 42, nums 2 (two 0 0)), (w.heap.size, 42, nums 2 (two P.x P.y))] w16 := hE.k
      clear hE
      clear n15
      clear qv
      rw [HN.out] at h16
      go_wp2_with fail
      go_roundw
      case rel => exact ⟨j + 1, by have := HKJ.out; have := HK.out; omega, by have := HK.out; go_num, h16⟩
      case measure => simp [intOf]
    · obtain rfl : j = n := by omega
      rw [show (j : Int) - 1 - j = -1 by omega]
      with_reducible (apply wp_seq_k; intro _ _; apply wp_seq_k; intro _ _)
      with_reducible apply wp_region_lit
      refine wV (.int .i64 (-1)) ?_
      simp only [pu]
      refine wV (.bool false) ?_
      simp only [pu]
      refine wpList_nil ?_
      with_reducible (apply tn; go_at_K; go_step)
      refine wp_cond_false rfl ?_
      with_reducible (apply wp_exit; apply then_exit; apply then_exit; apply block_same; apply tn; go_at_K; go_step; apply wp_seq_k; intro _ _)
      with_reducible apply wp_region_lit
      refine wL (.agg (nums 3 (tri ((accQ s (cnt P) j j).x) ((accQ s (cnt P) j j).y) ((accQ s (cnt P) j j).z)))) (by exact lands_load _ _ rfl _ rfl _ _ _ (hr.blk _ m0) Tryz.underlying74 rfl (by kernel_rfl) rfl) ?_
      simp only [pu]
      refine wC hr (qplain_any (accQ s (cnt P) j j) (accQ_ok _ _ _ _) wr) fun w17 h17 => ?_
      simp only [pu]
      clear hr
      refine wpList_val (R := KD w.heap.size w [(g11, 74, nums 3 (tri ((accQ s (cnt P) j j).x) ((accQ s (cnt P) j j).y) ((accQ s (cnt P) j j).z))), (g8, 77, nums 48 (tab (cnt P) 15)), (g4, 42, nums 2 (two ((R3.plain (accQ s (cnt P) j j)).x) ((R3.plain (accQ s (cnt P) j j)).y))), (w.heap.size, 42, nums 2 (two P.x P.y))]) undef rfl (lands_store _ _ _ rfl g4 (nums 2 (two ((R3.plain (accQ s (cnt P) j j)).x) ((R3.plain (accQ s (cnt P) j j)).y))) rfl rfl _ _ (h17.blk _ m2) (by kernel_rfl) (by kernel_rfl) (row_one fun _ => rfl) (h17.put (k := 2) rfl _)) ?_
      intro w18 h18
      simp only [pu]
      clear h17
      refine wpList_nil ?_
      with_reducible (apply tn; go_at_K; go_step)
      with_reducible apply wp_ret
      repeat (first | with_reducible apply then_ret | with_reducible apply block_ret)
      exact bodyPost_ret (results_cell_row rfl _ _ g4 42 (nums 2 (two ((R3.plain (accQ s (cnt P) j j)).x) ((R3.plain (accQ s (cnt P) j j)).y))) (0, 0) _ rfl (h18.blk _ m2) Tryz.underlying42 rfl (by kernel_rfl)) rfl ⟨by unfold mulV; rw [hn], h18.b⟩
end Go.Proofs.YtggalphgnloneaaGreat
