/- The reference of layer 5: Mul. (written by mkQ3.py) -/
import Derived.Test.YtggalphgnloneaaGreatQn
namespace Go.Proofs.YtggalphgnloneaaGreat
open Go.RowKit
set_option maxRecDepth 100000 in
set_option maxHeartbeats 4000000 in
theorem rmul5_any (s : ByteArray) (P : Pt) (hx : P.x < M256) (hy : P.y < M256) (w : World) :
    Calls Tryz.prog 32 #[.string s, .agg (nums 2 (two P.x P.y))] w fun e w' => e = .returned (.agg (nums 2 (two (rmulV s P).x (rmulV s P).y))) ∧ Below w.heap.size w w' := by
  go_enter Tryz.func32, Tryz.ntmps32
  with_reducible (apply wp_seq_k; intro _ _)
  have h1 := KD.begin w
  with_reducible apply wp_region_lit
  refine wA h1 (box_run _ _ _ rfl rfl _) fun w2 h2 => ?_
  simp only [pu]
  clear h1
  refine wA h2 (alloc_run _ _ rfl zero_pt _) fun w3 h3 => ?_
  simp only [pu]
  clear h2
  generalize w2.heap.size = g4 at h3 ⊢
  refine wpList_nil ?_
  with_reducible (apply tn; go_at_K; go_step; apply wp_seq_k; intro _ _)
  with_reducible apply wp_region_lit
  refine wC h3 (rd_any w3) fun w5 h5 => ?_
  simp only [pu]
  clear h3
  refine wA h5 (alloc_run _ _ rfl zero_fe _) fun w6 h6 => ?_
  simp only [pu]
  clear h5
  generalize w5.heap.size = g7 at h6 ⊢
  refine wpList_val (R := KD w.heap.size w [(g7, 40, r64 4 (F4 dP)), (g4, 42, nums 2 (two 0 0)), (w.heap.size, 42, nums 2 (two P.x P.y))]) undef rfl (lands_store _ _ _ rfl g7 (r64 4 (F4 dP)) rfl rfl _ _ (h6.blk _ m0) (by kernel_rfl) (by kernel_rfl) (row_one fun _ => rfl) (h6.put (k := 0) rfl _)) ?_
  intro w8 h8
  simp only [pu]
  clear h6
  refine wpList_nil ?_
  with_reducible (apply tn; go_at_K; go_step; apply wp_seq_k; intro _ _)
  with_reducible apply wp_region_lit
  refine wL (.agg (nums 2 (two P.x P.y))) (by exact lands_load _ _ rfl _ rfl _ _ _ (h8.blk _ m2) Tryz.underlying42 rfl (by kernel_rfl) rfl) ?_
  simp only [pu]
  refine wC h8 (rmade_any P hx hy w8) fun w9 h9 => ?_
  simp only [pu]
  clear h8
  refine wC h9 (rpart_any (cnt P) cnt_x_lt cnt_y_lt w9) fun w10 h10 => ?_
  simp only [pu]
  clear h9
  refine wA h10 (alloc_run _ _ rfl zero_pa _) fun w11 h11 => ?_
  simp only [pu]
  clear h10
  generalize w10.heap.size = g12 at h11 ⊢
  refine wpList_val (R := KD w.heap.size w [(g12, 84, nums 4 (qua ((partV (cnt P)).x) ((partV (cnt P)).y) ((partV (cnt P)).z) ((partV (cnt P)).t))), (g7, 40, r64 4 (F4 dP)), (g4, 42, nums 2 (two 0 0)), (w.heap.size, 42, nums 2 (two P.x P.y))]) undef rfl (lands_store _ _ _ rfl g12 (nums 4 (qua ((partV (cnt P)).x) ((partV (cnt P)).y) ((partV (cnt P)).z) ((partV (cnt P)).t))) rfl rfl _ _ (h11.blk _ m0) (by kernel_rfl) (by kernel_rfl) (row_one fun _ => rfl) (h11.put (k := 0) rfl _)) ?_
  intro w13 h13
  simp only [pu]
  clear h11
  refine wpList_nil ?_
  with_reducible (apply tn; go_at_K; go_step; apply wp_seq_k; intro _ _)
  with_reducible apply wp_region_lit
  refine wC h13 (rzero_any w13) fun w14 h14 => ?_
  simp only [pu]
  clear h13
  refine wC h14 (rpart_any pZ pZ_on.ok.x pZ_on.ok.y w14) fun w15 h15 => ?_
  simp only [pu]
  clear h14
  refine wA h15 (alloc_run _ _ rfl zero_pa _) fun w16 h16 => ?_
  simp only [pu]
  clear h15
  generalize w15.heap.size = g17 at h16 ⊢
  refine wpList_val (R := KD w.heap.size w [(g17, 84, nums 4 (qua ((partV pZ).x) ((partV pZ).y) ((partV pZ).z) ((partV pZ).t))), (g12, 84, nums 4 (qua ((partV (cnt P)).x) ((partV (cnt P)).y) ((partV (cnt P)).z) ((partV (cnt P)).t))), (g7, 40, r64 4 (F4 dP)), (g4, 42, nums 2 (two 0 0)), (w.heap.size, 42, nums 2 (two P.x P.y))]) undef rfl (lands_store _ _ _ rfl g17 (nums 4 (qua ((partV pZ).x) ((partV pZ).y) ((partV pZ).z) ((partV pZ).t))) rfl rfl _ _ (h16.blk _ m0) (by kernel_rfl) (by kernel_rfl) (row_one fun _ => rfl) (h16.put (k := 0) rfl _)) ?_
  intro w18 h18
  simp only [pu]
  clear h16
  refine wpList_nil ?_
  with_reducible (apply tn; go_at_K; go_step; apply wp_seq_k; intro _ _; apply wp_seq_k; intro _ _)
  with_reducible apply wp_region_lit
  refine wV (.string s) ?_
  simp only [pu]
  refine wV (.int .i64 (s.size : Int)) ?_
  simp only [pu]
  refine wL (.int .i64 ((min s.size 32 : Nat) : Int)) (by exact (lands_min (w := w18) _ s.size 32 rfl rfl rfl).weak fun _ e => e ▸ rfl) ?_
  simp only [pu]
  refine wL (.int .i64 ((8 * min s.size 32 : Nat) : Int)) (by refine lands_value (w := w18) ?_ rfl; go_simp; rw [IntWalk.i64_in _ (by omega)]) ?_
  simp only [pu]
  refine wL (.int .i64 ((8 * min s.size 32 : Nat) - 1 : Int)) (by refine lands_value (w := w18) ?_ rfl; go_simp; rw [IntWalk.i64_in _ (by omega)]) ?_
  simp only [pu]
  refine wV (.int .i64 ((8 * min s.size 32 : Nat) - 1 : Int)) ?_
  simp only [pu]
  refine wpList_nil ?_
  with_reducible (apply tn; go_at_K; go_step; apply wp_block)
  generalize hn : 8 * min s.size 32 = n
  have hn32 : n ≤ 256 := by omega
  go_loopw [8] (fun i wr => ∃ j : Nat, j ≤ n ∧ i = .int .i64 ((n : Int) - 1 - j) ∧ KD w.heap.size w [(g17, 84, nums 4 (qua ((accB s (cnt P) n j).x) ((accB s (cnt P) n j).y) ((accB s (cnt P) n j).z) ((accB s (cnt P) n j).t))), (g12, 84, nums 4 (qua ((partV (cnt P)).x) ((partV (cnt P)).y) ((partV (cnt P)).z) ((partV (cnt P)).t))), (g7, 40, r64 4 (F4 dP)), (g4, 42, nums 2 (two 0 0)), (w.heap.size, 42, nums 2 (two P.x P.y))] wr) (fun i _ => (intOf i + 1).toNat)
  case atStart => exact ⟨0, by omega, by simp, h18⟩
  case round =>
    obtain ⟨j, hj, rfl, hr⟩ := hrel
    clear h18
    by_cases hlt : j < n
    · obtain ⟨k, hk⟩ : ∃ k : Nat, (n : Int) - 1 - j = (k : Int) := ⟨n - 1 - j, by omega⟩
      rw [hk]
      have hkj : k = n - 1 - j := by omega
      have HK := Lib.hid hk
      have hkb : k < 256 := by omega
      have CB := Lib.hid (fun w => rbit_any s k w (by omega))
      have HN1 := Lib.hid (accB_one s (cnt P) n j k hkj)
      have HN0 := Lib.hid (accB_zero s (cnt P) n j k hkj)
      have hbl := bitS_le s k
      have HJ : Hid (j + 1 ≤ n) := Lib.hid (by omega)
      clear hkj hk hn32 hlt hn hj
      with_reducible (apply wp_seq_k; intro _ _; apply wp_seq_k; intro _ _)
      with_reducible apply wp_region_lit
      refine wV (.int .i64 (k : Int)) ?_
      simp only [pu]
      refine wV (.bool true) ?_
      simp only [pu]
      refine wpList_nil ?_
      with_reducible (apply tn; go_at_K; go_step)
      refine wp_cond_true rfl ?_
      with_reducible (apply wp_skip; apply tn; go_at_K; go_step; apply wp_seq_k; intro _ _; apply wp_block; apply wp_seq_k; intro _ _)
      with_reducible apply wp_region_lit
      refine wL (.agg (r64 4 (F4 dP))) (by exact lands_load _ _ rfl _ rfl _ _ _ (hr.blk _ m2) Tryz.underlying40 rfl (fe_size _) rfl) ?_
      simp only [pu]
      refine wL (.agg (nums 4 (qua ((accB s (cnt P) n j).x) ((accB s (cnt P) n j).y) ((accB s (cnt P) n j).z) ((accB s (cnt P) n j).t)))) (by exact lands_load _ _ rfl _ rfl _ _ _ (hr.blk _ m0) Tryz.underlying84 rfl (by kernel_rfl) rfl) ?_
      simp only [pu]
      refine wL (.agg (nums 4 (qua ((accB s (cnt P) n j).x) ((accB s (cnt P) n j).y) ((accB s (cnt P) n j).z) ((accB s (cnt P) n j).t)))) (by exact lands_load _ _ rfl _ rfl _ _ _ (hr.blk _ m0) Tryz.underlying84 rfl (by kernel_rfl) rfl) ?_
      simp only [pu]
      refine wC hr (rsum_any (accB s (cnt P) n j) (accB_ok _ _ _ _) (accB s (cnt P) n j) (accB_ok _ _ _ _) wr) fun w19 h19 => ?_
      simp only [pu]
      clear hr
      refine wpList_val (R := KD w.heap.size w [(g17, 84, nums 4 (qua ((R4.sum (accB s (cnt P) n j) (accB s (cnt P) n j)).x) ((R4.sum (accB s (cnt P) n j) (accB s (cnt P) n j)).y) ((R4.sum (accB s (cnt P) n j) (accB s (cnt P) n j)).z) ((R4.sum (accB s (cnt P) n j) (accB s (cnt P) n j)).t))), (g12, 84, nums 4 (qua ((partV (cnt P)).x) ((partV (cnt P)).y) ((partV (cnt P)).z) ((partV (cnt P)).t))), (g7, 40, r64 4 (F4 dP)), (g4, 42, nums 2 (two 0 0)), (w.heap.size, 42, nums 2 (two P.x P.y))]) undef rfl (lands_store _ _ _ rfl g17 (nums 4 (qua ((R4.sum (accB s (cnt P) n j) (accB s (cnt P) n j)).x) ((R4.sum (accB s (cnt P) n j) (accB s (cnt P) n j)).y) ((R4.sum (accB s (cnt P) n j) (accB s (cnt P) n j)).z) ((R4.sum (accB s (cnt P) n j) (accB s (cnt P) n j)).t))) rfl rfl _ _ (h19.blk _ m0) (by kernel_rfl) (by kernel_rfl) (row_one fun _ => rfl) (h19.put (k := 0) rfl _)) ?_
      intro w20 h20
      simp only [pu]
      clear h19
      refine wpList_nil ?_
      by_cases hb : bitS s k = 1
      · have hb1 : (bitS s k : Int) = 1 := by omega
        have CB1 : ∀ w, Calls Tryz.prog 46 #[.string s, .int .i64 (k : Int)] w fun e w' => e = .returned (.int .i64 1) ∧ w' = w := fun w => by have := CB.out w; rwa [hb1] at this
        with_reducible (apply tn; go_at_K; go_step; apply wp_seq_k; intro _ _)
        with_reducible apply wp_region_lit
        refine wV (.string s) ?_
        simp only [pu]
        refine wV (.int .i64 (k : Int)) ?_
        simp only [pu]
        refine wpList_val (.int .i64 1) rfl (by exact lands_calls (w := w20) ((CB1 w20).mono fun _ _ ⟨he, hb⟩ => ⟨he, hb ▸ h20⟩) (by go_simp)) ?_
        intro w21 h21
        simp only [pu]
        clear h20
        refine wV (.bool true) ?_
        simp only [pu]
        refine wpList_nil ?_
        with_reducible (apply tn; go_at_K; go_step)
        refine wp_cond_true rfl ?_
        with_reducible apply wp_region_lit
        refine wL (.agg (r64 4 (F4 dP))) (by exact lands_load _ _ rfl _ rfl _ _ _ (h21.blk _ m2) Tryz.underlying40 rfl (fe_size _) rfl) ?_
        simp only [pu]
        refine wL (.agg (nums 4 (qua ((R4.sum (accB s (cnt P) n j) (accB s (cnt P) n j)).x) ((R4.sum (accB s (cnt P) n j) (accB s (cnt P) n j)).y) ((R4.sum (accB s (cnt P) n j) (accB s (cnt P) n j)).z) ((R4.sum (accB s (cnt P) n j) (accB s (cnt P) n j)).t)))) (by exact lands_load _ _ rfl _ rfl _ _ _ (h21.blk _ m0) Tryz.underlying84 rfl (by kernel_rfl) rfl) ?_
        simp only [pu]
        refine wL (.agg (nums 4 (qua ((partV (cnt P)).x) ((partV (cnt P)).y) ((partV (cnt P)).z) ((partV (cnt P)).t)))) (by exact lands_load _ _ rfl _ rfl _ _ _ (h21.blk _ m1) Tryz.underlying84 rfl (by kernel_rfl) rfl) ?_
        simp only [pu]
        refine wC h21 (rsum_any (R4.sum (accB s (cnt P) n j) (accB s (cnt P) n j)) (R4.sum_ok) (partV (cnt P)) (partV_ok (cnt_C P).ok) w21) fun w22 h22 => ?_
        simp only [pu]
        clear h21
        refine wpList_val (R := KD w.heap.size w [(g17, 84, nums 4 (qua ((R4.sum (R4.sum (accB s (cnt P) n j) (accB s (cnt P) n j)) (partV (cnt P))).x) ((R4.sum (R4.sum (accB s (cnt P) n j) (accB s (cnt P) n j)) (partV (cnt P))).y) ((R4.sum (R4.sum (accB s (cnt P) n j) (accB s (cnt P) n j)) (partV (cnt P))).z) ((R4.sum (R4.sum (accB s (cnt P) n j) (accB s (cnt P) n j)) (partV (cnt P))).t))), (g12, 84, nums 4 (qua ((partV (cnt P)).x) ((partV (cnt P)).y) ((partV (cnt P)).z) ((partV (cnt P)).t))), (g7, 40, r64 4 (F4 dP)), (g4, 42, nums 2 (two 0 0)), (w.heap.size, 42, nums 2 (two P.x P.y))]) undef rfl (lands_store _ _ _ rfl g17 (nums 4 (qua ((R4.sum (R4.sum (accB s (cnt P) n j) (accB s (cnt P) n j)) (partV (cnt P))).x) ((R4.sum (R4.sum (accB s (cnt P) n j) (accB s (cnt P) n j)) (partV (cnt P))).y) ((R4.sum (R4.sum (accB s (cnt P) n j) (accB s (cnt P) n j)) (partV (cnt P))).z) ((R4.sum (R4.sum (accB s (cnt P) n j) (accB s (cnt P) n j)) (partV (cnt P))).t))) rfl rfl _ _ (h22.blk _ m0) (by kernel_rfl) (by kernel_rfl) (row_one fun _ => rfl) (h22.put (k := 0) rfl _)) ?_
        intro w23 h23
        simp only [pu]
        clear h22
        refine wpList_nil ?_
        with_reducible (apply block_normal; apply tn; go_at_K; go_step)
        rw [HN1.out hb] at h23
        go_wp2_with fail
        go_roundw
        case rel => exact ⟨j + 1, HJ.out, by have := HK.out; go_num, h23⟩
        case measure => simp [intOf]
      · have hb0 : bitS s k = 0 := by omega
        have hb1 : (bitS s k : Int) = 0 := by omega
        have CB1 : ∀ w, Calls Tryz.prog 46 #[.string s, .int .i64 (k : Int)] w fun e w' => e = .returned (.int .i64 0) ∧ w' = w := fun w => by have := CB.out w; rwa [hb1] at this
        with_reducible (apply tn; go_at_K; go_step; apply wp_seq_k; intro _ _)
        with_reducible apply wp_region_lit
        refine wV (.string s) ?_
        simp only [pu]
        refine wV (.int .i64 (k : Int)) ?_
        simp only [pu]
        refine wpList_val (.int .i64 0) rfl (by exact lands_calls (w := w20) ((CB1 w20).mono fun _ _ ⟨he, hb⟩ => ⟨he, hb ▸ h20⟩) (by go_simp)) ?_
        intro w24 h24
        simp only [pu]
        clear h20
        refine wV (.bool false) ?_
        simp only [pu]
        refine wpList_nil ?_
        with_reducible (apply tn; go_at_K; go_step)
        refine wp_cond_false rfl ?_
        with_reducible (apply wp_skip; apply block_normal; apply tn; go_at_K; go_step)
        rw [HN0.out hb0] at h24
        go_wp2_with fail
        go_roundw
        case rel => exact ⟨j + 1, HJ.out, by have := HK.out; go_num, h24⟩
        case measure => simp [intOf]
    · obtain rfl : j = n := by omega
      rw [show (j : Int) - 1 - j = -1 by omega]
      with_reducible (apply wp_seq_k; intro _ _; apply wp_seq_k; intro _ _)
      with_reducible apply wp_region_lit
      refine wV (.int .i64 (-1)) ?_
      simp only [pu]
      refine wV (.bool false) ?_
      simp only [pu]
      refine wpList_nil ?_
      with_reducible (apply tn; go_at_K; go_step)
      refine wp_cond_false rfl ?_
      with_reducible (apply wp_exit; apply then_exit; apply then_exit; apply block_same; apply tn; go_at_K; go_step; apply wp_seq_k; intro _ _)
      with_reducible apply wp_region_lit
      refine wL (.agg (nums 4 (qua ((accB s (cnt P) j j).x) ((accB s (cnt P) j j).y) ((accB s (cnt P) j j).z) ((accB s (cnt P) j j).t)))) (by exact lands_load _ _ rfl _ rfl _ _ _ (hr.blk _ m0) Tryz.underlying84 rfl (by kernel_rfl) rfl) ?_
      simp only [pu]
      refine wC hr (rwhole_any (accB s (cnt P) j j) (accB_ok _ _ _ _) wr) fun w25 h25 => ?_
      simp only [pu]
      clear hr
      refine wpList_val (R := KD w.heap.size w [(g17, 84, nums 4 (qua ((accB s (cnt P) j j).x) ((accB s (cnt P) j j).y) ((accB s (cnt P) j j).z) ((accB s (cnt P) j j).t))), (g12, 84, nums 4 (qua ((partV (cnt P)).x) ((partV (cnt P)).y) ((partV (cnt P)).z) ((partV (cnt P)).t))), (g7, 40, r64 4 (F4 dP)), (g4, 42, nums 2 (two ((R4.whole (accB s (cnt P) j j)).x) ((R4.whole (accB s (cnt P) j j)).y))), (w.heap.size, 42, nums 2 (two P.x P.y))]) undef rfl (lands_store _ _ _ rfl g4 (nums 2 (two ((R4.whole (accB s (cnt P) j j)).x) ((R4.whole (accB s (cnt P) j j)).y))) rfl rfl _ _ (h25.blk _ m3) (by kernel_rfl) (by kernel_rfl) (row_one fun _ => rfl) (h25.put (k := 3) rfl _)) ?_
      intro w26 h26
      simp only [pu]
      clear h25
      refine wpList_nil ?_
      with_reducible (apply tn; go_at_K; go_step)
      with_reducible apply wp_ret
      repeat (first | with_reducible apply then_ret | with_reducible apply block_ret)
      exact bodyPost_ret (results_cell_row rfl _ _ g4 42 (nums 2 (two ((R4.whole (accB s (cnt P) j j)).x) ((R4.whole (accB s (cnt P) j j)).y))) (0, 0) _ rfl (h26.blk _ m3) Tryz.underlying42 rfl (by kernel_rfl)) rfl ⟨by unfold rmulV; rw [hn], h26.b⟩
end Go.Proofs.YtggalphgnloneaaGreat
