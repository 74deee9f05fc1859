/- The reference of layer 5: Mul. (written by mkQ3.py) -/
import Derived.Test.YtggalphgnloneaaGreatQn
namespace Go.Proofs.YtggalphgnloneaaGreat
open Go.RowKit
set_option maxRecDepth 100000 in
set_option maxHeartbeats 4000000 in
theorem rmul5_any (s : ByteArray) (P : Pt) (hx : P.x < M256) (hy : P.y < M256) (w : World) :
    Calls Tryz.prog 32 #[.string s, .agg (nums 2 (two P.x P.y))] w fun e w' => e = .returned (.agg (nums 2 (two (rmulV s P).x (rmulV s P).y))) ∧ Below w.heap.size w w' := by
  go_enter Tryz.func32, Tryz.ntmps32
  repeat with_reducible (first | (apply wp_seq_k; intro _ _) | (go_at_K; go_step) | apply tn | apply wp_block | apply wp_skip | apply wp_exit | apply then_exit | apply block_normal | apply block_same | exact block_far rfl ?_)
  have h1 := KD.begin w
  with_reducible apply wp_region_lit
  refine wpList_val (R := KD w.heap.size w [(w.heap.size, 42, nums 2 (two P.x P.y))]) (.pointer (some ⟨w.heap.size, 0, none⟩)) rfl (lands_run2 (box_run _ _ _ rfl rfl _) (h1.add _ _)) ?_
  intro w2 h2
  simp only [pu]
  clear h1
  refine wpList_val (R := KD w.heap.size w [(w2.heap.size, 42, nums 2 (two 0 0)), (w.heap.size, 42, nums 2 (two P.x P.y))]) (.pointer (some ⟨w2.heap.size, 0, none⟩)) rfl (lands_run2 (alloc_run _ _ rfl zero_pt _) (h2.add _ _)) ?_
  intro w3 h3
  simp only [pu]
  clear h2
  generalize w2.heap.size = g4 at h3 ⊢
  refine wpList_nil ?_
  repeat with_reducible (first | (apply wp_seq_k; intro _ _) | (go_at_K; go_step) | apply tn | apply wp_block | apply wp_skip | apply wp_exit | apply then_exit | apply block_normal | apply block_same | exact block_far rfl ?_)
  with_reducible apply wp_region_lit
  refine wpList_val (.agg (r64 4 (F4 dP))) rfl (by exact h3.call (rd_any w3) (by go_simp)) ?_
  intro w5 h5
  simp only [pu]
  clear h3
  refine wpList_val (R := KD w.heap.size w [(w5.heap.size, 40, r64 4 (F4 0)), (g4, 42, nums 2 (two 0 0)), (w.heap.size, 42, nums 2 (two P.x P.y))]) (.pointer (some ⟨w5.heap.size, 0, none⟩)) rfl (lands_run2 (alloc_run _ _ rfl zero_fe _) (h5.add _ _)) ?_
  intro w6 h6
  simp only [pu]
  clear h5
  generalize w5.heap.size = g7 at h6 ⊢
  refine wpList_val (R := KD w.heap.size w [(g7, 40, r64 4 (F4 dP)), (g4, 42, nums 2 (two 0 0)), (w.heap.size, 42, nums 2 (two P.x P.y))]) undef rfl (lands_store _ _ _ rfl g7 (r64 4 (F4 dP)) rfl rfl _ _ (h6.blk _ m0) (by kernel_rfl) (by kernel_rfl) (row_one fun _ => rfl) (h6.put (k := 0) rfl _)) ?_
  intro w8 h8
  simp only [pu]
  clear h6
  refine wpList_nil ?_
  repeat with_reducible (first | (apply wp_seq_k; intro _ _) | (go_at_K; go_step) | apply tn | apply wp_block | apply wp_skip | apply wp_exit | apply then_exit | apply block_normal | apply block_same | exact block_far rfl ?_)
  with_reducible apply wp_region_lit
  refine wpList_val (.agg (nums 2 (two P.x P.y))) rfl (by exact lands_load _ _ rfl _ rfl _ _ _ (h8.blk _ m2) Tryz.underlying42 rfl (by kernel_rfl) h8) ?_
  intro w9 h9
  simp only [pu]
  clear h8
  refine wpList_val (.agg (nums 2 (two ((cnt P).x) ((cnt P).y)))) rfl (by exact h9.call (rmade_any P hx hy w9) (by go_simp)) ?_
  intro w10 h10
  simp only [pu]
  clear h9
  refine wpList_val (.agg (nums 4 (qua ((partV (cnt P)).x) ((partV (cnt P)).y) ((partV (cnt P)).z) ((partV (cnt P)).t)))) rfl (by exact h10.call (rpart_any (cnt P) cnt_x_lt cnt_y_lt w10) (by go_simp)) ?_
  intro w11 h11
  simp only [pu]
  clear h10
  refine wpList_val (R := KD w.heap.size w [(w11.heap.size, 84, nums 4 (qua 0 0 0 0)), (g7, 40, r64 4 (F4 dP)), (g4, 42, nums 2 (two 0 0)), (w.heap.size, 42, nums 2 (two P.x P.y))]) (.pointer (some ⟨w11.heap.size, 0, none⟩)) rfl (lands_run2 (alloc_run _ _ rfl zero_pa _) (h11.add _ _)) ?_
  intro w12 h12
  simp only [pu]
  clear h11
  generalize w11.heap.size = g13 at h12 ⊢
  refine wpList_val (R := KD w.heap.size w [(g13, 84, nums 4 (qua ((partV (cnt P)).x) ((partV (cnt P)).y) ((partV (cnt P)).z) ((partV (cnt P)).t))), (g7, 40, r64 4 (F4 dP)), (g4, 42, nums 2 (two 0 0)), (w.heap.size, 42, nums 2 (two P.x P.y))]) undef rfl (lands_store _ _ _ rfl g13 (nums 4 (qua ((partV (cnt P)).x) ((partV (cnt P)).y) ((partV (cnt P)).z) ((partV (cnt P)).t))) rfl rfl _ _ (h12.blk _ m0) (by kernel_rfl) (by kernel_rfl) (row_one fun _ => rfl) (h12.put (k := 0) rfl _)) ?_
  intro w14 h14
  simp only [pu]
  clear h12
  refine wpList_nil ?_
  repeat with_reducible (first | (apply wp_seq_k; intro _ _) | (go_at_K; go_step) | apply tn | apply wp_block | apply wp_skip | apply wp_exit | apply then_exit | apply block_normal | apply block_same | exact block_far rfl ?_)
  with_reducible apply wp_region_lit
  refine wpList_val (.agg (nums 2 (two pZ.x pZ.y))) rfl (by exact h14.call (rzero_any w14) (by go_simp)) ?_
  intro w15 h15
  simp only [pu]
  clear h14
  refine wpList_val (.agg (nums 4 (qua ((partV pZ).x) ((partV pZ).y) ((partV pZ).z) ((partV pZ).t)))) rfl (by exact h15.call (rpart_any pZ pZ_on.ok.x pZ_on.ok.y w15) (by go_simp)) ?_
  intro w16 h16
  simp only [pu]
  clear h15
  refine wpList_val (R := KD w.heap.size w [(w16.heap.size, 84, nums 4 (qua 0 0 0 0)), (g13, 84, nums 4 (qua ((partV (cnt P)).x) ((partV (cnt P)).y) ((partV (cnt P)).z) ((partV (cnt P)).t))), (g7, 40, r64 4 (F4 dP)), (g4, 42, nums 2 (two 0 0)), (w.heap.size, 42, nums 2 (two P.x P.y))]) (.pointer (some ⟨w16.heap.size, 0, none⟩)) rfl (lands_run2 (alloc_run _ _ rfl zero_pa _) (h16.add _ _)) ?_
  intro w17 h17
  simp only [pu]
  clear h16
  generalize w16.heap.size = g18 at h17 ⊢
  refine wpList_val (R := KD w.heap.size w [(g18, 84, nums 4 (qua ((partV pZ).x) ((partV pZ).y) ((partV pZ).z) ((partV pZ).t))), (g13, 84, nums 4 (qua ((partV (cnt P)).x) ((partV (cnt P)).y) ((partV (cnt P)).z) ((partV (cnt P)).t))), (g7, 40, r64 4 (F4 dP)), (g4, 42, nums 2 (two 0 0)), (w.heap.size, 42, nums 2 (two P.x P.y))]) undef rfl (lands_store _ _ _ rfl g18 (nums 4 (qua ((partV pZ).x) ((partV pZ).y) ((partV pZ).z) ((partV pZ).t))) rfl rfl _ _ (h17.blk _ m0) (by kernel_rfl) (by kernel_rfl) (row_one fun _ => rfl) (h17.put (k := 0) rfl _)) ?_
  intro w19 h19
  simp only [pu]
  clear h17
  refine wpList_nil ?_
  repeat with_reducible (first | (apply wp_seq_k; intro _ _) | (go_at_K; go_step) | apply tn | apply wp_block | apply wp_skip | apply wp_exit | apply then_exit | apply block_normal | apply block_same | exact block_far rfl ?_)
  with_reducible apply wp_region_lit
  refine wpList_val (.string s) rfl (by refine lands_value (w := w19) ?_ h19; go_simp <;> rfl) ?_
  intro w20 h20
  simp only [pu]
  clear h19
  refine wpList_val (.int .i64 (s.size : Int)) rfl (by refine lands_value (w := w20) ?_ h20; go_simp) ?_
  intro w21 h21
  simp only [pu]
  clear h20
  refine wpList_val (.int .i64 ((min s.size 32 : Nat) : Int)) rfl (by exact (lands_min (w := w21) _ s.size 32 rfl rfl rfl).weak fun _ e => e ▸ h21) ?_
  intro w22 h22
  simp only [pu]
  clear h21
  refine wpList_val (.int .i64 ((8 * min s.size 32 : Nat) : Int)) rfl (by refine lands_value (w := w22) ?_ h22; go_simp; rw [IntWalk.i64_in _ (by omega)]) ?_
  intro w23 h23
  simp only [pu]
  clear h22
  refine wpList_val (.int .i64 ((8 * min s.size 32 : Nat) - 1 : Int)) rfl (by refine lands_value (w := w23) ?_ h23; go_simp; rw [IntWalk.i64_in _ (by omega)]) ?_
  intro w24 h24
  simp only [pu]
  clear h23
  refine wpList_val (.int .i64 ((8 * min s.size 32 : Nat) - 1 : Int)) rfl (by refine lands_value (w := w24) ?_ h24; go_simp <;> rfl) ?_
  intro w25 h25
  simp only [pu]
  clear h24
  refine wpList_nil ?_
  repeat with_reducible (first | (apply wp_seq_k; intro _ _) | (go_at_K; go_step) | apply tn | apply wp_block | apply wp_skip | apply wp_exit | apply then_exit | apply block_normal | apply block_same | exact block_far rfl ?_)
  generalize hn : 8 * min s.size 32 = n
  have hn32 : n ≤ 256 := by omega
  go_loopw [8] (fun i wr => ∃ j : Nat, j ≤ n ∧ i = .int .i64 ((n : Int) - 1 - j) ∧ KD w.heap.size w [(g18, 84, nums 4 (qua ((accB s (cnt P) n j).x) ((accB s (cnt P) n j).y) ((accB s (cnt P) n j).z) ((accB s (cnt P) n j).t))), (g13, 84, nums 4 (qua ((partV (cnt P)).x) ((partV (cnt P)).y) ((partV (cnt P)).z) ((partV (cnt P)).t))), (g7, 40, r64 4 (F4 dP)), (g4, 42, nums 2 (two 0 0)), (w.heap.size, 42, nums 2 (two P.x P.y))] wr) (fun i _ => (intOf i + 1).toNat)
  case atStart => exact ⟨0, by omega, by simp, h25⟩
  case round =>
    obtain ⟨j, hj, rfl, hr⟩ := hrel
    clear h25
    by_cases hlt : j < n
    · obtain ⟨k, hk⟩ : ∃ k : Nat, (n : Int) - 1 - j = (k : Int) := ⟨n - 1 - j, by omega⟩
      rw [hk]
      have hkj : k = n - 1 - j := by omega
      have HK := Lib.hid hk
      have hkb : k < 256 := by omega
      have CB := Lib.hid (fun w => rbit_any s k w (by omega))
      have HN1 := Lib.hid (accB_one s (cnt P) n j k hkj)
      have HN0 := Lib.hid (accB_zero s (cnt P) n j k hkj)
      have hbl := bitS_le s k
      have HJ : Hid (j + 1 ≤ n) := Lib.hid (by omega)
      clear hkj hk hn32 hlt hn hj
      repeat with_reducible (first | (apply wp_seq_k; intro _ _) | (go_at_K; go_step) | apply tn | apply wp_block | apply wp_skip | apply wp_exit | apply then_exit | apply block_normal | apply block_same | exact block_far rfl ?_)
      with_reducible apply wp_region_lit
      refine wpList_val (.int .i64 (k : Int)) rfl (by refine lands_value (w := wr) ?_ hr; go_simp <;> rfl) ?_
      intro w26 h26
      simp only [pu]
      clear hr
      refine wpList_val (.bool true) rfl (by refine lands_value (w := w26) ?_ h26; go_simp) ?_
      intro w27 h27
      simp only [pu]
      clear h26
      refine wpList_nil ?_
      repeat with_reducible (first | (apply wp_seq_k; intro _ _) | (go_at_K; go_step) | apply tn | apply wp_block | apply wp_skip | apply wp_exit | apply then_exit | apply block_normal | apply block_same | exact block_far rfl ?_)
      refine wp_cond_true rfl ?_
      repeat with_reducible (first | (apply wp_seq_k; intro _ _) | (go_at_K; go_step) | apply tn | apply wp_block | apply wp_skip | apply wp_exit | apply then_exit | apply block_normal | apply block_same | exact block_far rfl ?_)
      with_reducible apply wp_region_lit
      refine wpList_val (.agg (r64 4 (F4 dP))) rfl (by exact lands_load _ _ rfl _ rfl _ _ _ (h27.blk _ m2) Tryz.underlying40 rfl (fe_size _) h27) ?_
      intro w28 h28
      simp only [pu]
      clear h27
      refine wpList_val (.agg (nums 4 (qua ((accB s (cnt P) n j).x) ((accB s (cnt P) n j).y) ((accB s (cnt P) n j).z) ((accB s (cnt P) n j).t)))) rfl (by exact lands_load _ _ rfl _ rfl _ _ _ (h28.blk _ m0) Tryz.underlying84 rfl (by kernel_rfl) h28) ?_
      intro w29 h29
      simp only [pu]
      clear h28
      refine wpList_val (.agg (nums 4 (qua ((accB s (cnt P) n j).x) ((accB s (cnt P) n j).y) ((accB s (cnt P) n j).z) ((accB s (cnt P) n j).t)))) rfl (by exact lands_load _ _ rfl _ rfl _ _ _ (h29.blk _ m0) Tryz.underlying84 rfl (by kernel_rfl) h29) ?_
      intro w30 h30
      simp only [pu]
      clear h29
      refine wpList_val (.agg (nums 4 (qua ((R4.sum (accB s (cnt P) n j) (accB s (cnt P) n j)).x) ((R4.sum (accB s (cnt P) n j) (accB s (cnt P) n j)).y) ((R4.sum (accB s (cnt P) n j) (accB s (cnt P) n j)).z) ((R4.sum (accB s (cnt P) n j) (accB s (cnt P) n j)).t)))) rfl (by exact h30.call (rsum_any (accB s (cnt P) n j) (accB_ok _ _ _ _) (accB s (cnt P) n j) (accB_ok _ _ _ _) w30) (by go_simp)) ?_
      intro w31 h31
      simp only [pu]
      clear h30
      refine wpList_val (R := KD w.heap.size w [(g18, 84, nums 4 (qua ((R4.sum (accB s (cnt P) n j) (accB s (cnt P) n j)).x) ((R4.sum (accB s (cnt P) n j) (accB s (cnt P) n j)).y) ((R4.sum (accB s (cnt P) n j) (accB s (cnt P) n j)).z) ((R4.sum (accB s (cnt P) n j) (accB s (cnt P) n j)).t))), (g13, 84, nums 4 (qua ((partV (cnt P)).x) ((partV (cnt P)).y) ((partV (cnt P)).z) ((partV (cnt P)).t))), (g7, 40, r64 4 (F4 dP)), (g4, 42, nums 2 (two 0 0)), (w.heap.size, 42, nums 2 (two P.x P.y))]) undef rfl (lands_store _ _ _ rfl g18 (nums 4 (qua ((R4.sum (accB s (cnt P) n j) (accB s (cnt P) n j)).x) ((R4.sum (accB s (cnt P) n j) (accB s (cnt P) n j)).y) ((R4.sum (accB s (cnt P) n j) (accB s (cnt P) n j)).z) ((R4.sum (accB s (cnt P) n j) (accB s (cnt P) n j)).t))) rfl rfl _ _ (h31.blk _ m0) (by kernel_rfl) (by kernel_rfl) (row_one fun _ => rfl) (h31.put (k := 0) rfl _)) ?_
      intro w32 h32
      simp only [pu]
      clear h31
      refine wpList_nil ?_
      by_cases hb : bitS s k = 1
      · have hb1 : (bitS s k : Int) = 1 := by omega
        have CB1 : ∀ w, Calls Tryz.prog 46 #[.string s, .int .i64 (k : Int)] w fun e w' => e = .returned (.int .i64 1) ∧ w' = w := fun w => by have := CB.out w; rwa [hb1] at this
        repeat with_reducible (first | (apply wp_seq_k; intro _ _) | (go_at_K; go_step) | apply tn | apply wp_block | apply wp_skip | apply wp_exit | apply then_exit | apply block_normal | apply block_same | exact block_far rfl ?_)
        with_reducible apply wp_region_lit
        refine wpList_val (.string s) rfl (by refine lands_value (w := w32) ?_ h32; go_simp <;> rfl) ?_
        intro w33 h33
        simp only [pu]
        clear h32
        refine wpList_val (.int .i64 (k : Int)) rfl (by refine lands_value (w := w33) ?_ h33; go_simp <;> rfl) ?_
        intro w34 h34
        simp only [pu]
        clear h33
        refine wpList_val (.int .i64 1) rfl (by exact lands_calls (w := w34) ((CB1 w34).mono fun _ _ ⟨he, hb⟩ => ⟨he, hb ▸ h34⟩) (by go_simp)) ?_
        intro w35 h35
        simp only [pu]
        clear h34
        refine wpList_val (.bool true) rfl (by refine lands_value (w := w35) ?_ h35; go_simp) ?_
        intro w36 h36
        simp only [pu]
        clear h35
        refine wpList_nil ?_
        repeat with_reducible (first | (apply wp_seq_k; intro _ _) | (go_at_K; go_step) | apply tn | apply wp_block | apply wp_skip | apply wp_exit | apply then_exit | apply block_normal | apply block_same | exact block_far rfl ?_)
        refine wp_cond_true rfl ?_
        repeat with_reducible (first | (apply wp_seq_k; intro _ _) | (go_at_K; go_step) | apply tn | apply wp_block | apply wp_skip | apply wp_exit | apply then_exit | apply block_normal | apply block_same | exact block_far rfl ?_)
        with_reducible apply wp_region_lit
        refine wpList_val (.agg (r64 4 (F4 dP))) rfl (by exact lands_load _ _ rfl _ rfl _ _ _ (h36.blk _ m2) Tryz.underlying40 rfl (fe_size _) h36) ?_
        intro w37 h37
        simp only [pu]
        clear h36
        refine wpList_val (.agg (nums 4 (qua ((R4.sum (accB s (cnt P) n j) (accB s (cnt P) n j)).x) ((R4.sum (accB s (cnt P) n j) (accB s (cnt P) n j)).y) ((R4.sum (accB s (cnt P) n j) (accB s (cnt P) n j)).z) ((R4.sum (accB s (cnt P) n j) (accB s (cnt P) n j)).t)))) rfl (by exact lands_load _ _ rfl _ rfl _ _ _ (h37.blk _ m0) Tryz.underlying84 rfl (by kernel_rfl) h37) ?_
        intro w38 h38
        simp only [pu]
        clear h37
        refine wpList_val (.agg (nums 4 (qua ((partV (cnt P)).x) ((partV (cnt P)).y) ((partV (cnt P)).z) ((partV (cnt P)).t)))) rfl (by exact lands_load _ _ rfl _ rfl _ _ _ (h38.blk _ m1) Tryz.underlying84 rfl (by kernel_rfl) h38) ?_
        intro w39 h39
        simp only [pu]
        clear h38
        refine wpList_val (.agg (nums 4 (qua ((R4.sum (R4.sum (accB s (cnt P) n j) (accB s (cnt P) n j)) (partV (cnt P))).x) ((R4.sum (R4.sum (accB s (cnt P) n j) (accB s (cnt P) n j)) (partV (cnt P))).y) ((R4.sum (R4.sum (accB s (cnt P) n j) (accB s (cnt P) n j)) (partV (cnt P))).z) ((R4.sum (R4.sum (accB s (cnt P) n j) (accB s (cnt P) n j)) (partV (cnt P))).t)))) rfl (by exact h39.call (rsum_any (R4.sum (accB s (cnt P) n j) (accB s (cnt P) n j)) (R4.sum_ok) (partV (cnt P)) (partV_ok (cnt_C P).ok) w39) (by go_simp)) ?_
        intro w40 h40
        simp only [pu]
        clear h39
        refine wpList_val (R := KD w.heap.size w [(g18, 84, nums 4 (qua ((R4.sum (R4.sum (accB s (cnt P) n j) (accB s (cnt P) n j)) (partV (cnt P))).x) ((R4.sum (R4.sum (accB s (cnt P) n j) (accB s (cnt P) n j)) (partV (cnt P))).y) ((R4.sum (R4.sum (accB s (cnt P) n j) (accB s (cnt P) n j)) (partV (cnt P))).z) ((R4.sum (R4.sum (accB s (cnt P) n j) (accB s (cnt P) n j)) (partV (cnt P))).t))), (g13, 84, nums 4 (qua ((partV (cnt P)).x) ((partV (cnt P)).y) ((partV (cnt P)).z) ((partV (cnt P)).t))), (g7, 40, r64 4 (F4 dP)), (g4, 42, nums 2 (two 0 0)), (w.heap.size, 42, nums 2 (two P.x P.y))]) undef rfl (lands_store _ _ _ rfl g18 (nums 4 (qua ((R4.sum (R4.sum (accB s (cnt P) n j) (accB s (cnt P) n j)) (partV (cnt P))).x) ((R4.sum (R4.sum (accB s (cnt P) n j) (accB s (cnt P) n j)) (partV (cnt P))).y) ((R4.sum (R4.sum (accB s (cnt P) n j) (accB s (cnt P) n j)) (partV (cnt P))).z) ((R4.sum (R4.sum (accB s (cnt P) n j) (accB s (cnt P) n j)) (partV (cnt P))).t))) rfl rfl _ _ (h40.blk _ m0) (by kernel_rfl) (by kernel_rfl) (row_one fun _ => rfl) (h40.put (k := 0) rfl _)) ?_
        intro w41 h41
        simp only [pu]
        clear h40
        refine wpList_nil ?_
        repeat with_reducible (first | (apply wp_seq_k; intro _ _) | (go_at_K; go_step) | apply tn | apply wp_block | apply wp_skip | apply wp_exit | apply then_exit | apply block_normal | apply block_same | exact block_far rfl ?_)
        rw [HN1.out hb] at h41
        go_wp2_with fail
        go_roundw
        case rel => exact ⟨j + 1, HJ.out, by have := HK.out; go_num, h41⟩
        case measure => simp [intOf]
      · have hb0 : bitS s k = 0 := by omega
        have hb1 : (bitS s k : Int) = 0 := by omega
        have CB1 : ∀ w, Calls Tryz.prog 46 #[.string s, .int .i64 (k : Int)] w fun e w' => e = .returned (.int .i64 0) ∧ w' = w := fun w => by have := CB.out w; rwa [hb1] at this
        repeat with_reducible (first | (apply wp_seq_k; intro _ _) | (go_at_K; go_step) | apply tn | apply wp_block | apply wp_skip | apply wp_exit | apply then_exit | apply block_normal | apply block_same | exact block_far rfl ?_)
        with_reducible apply wp_region_lit
        refine wpList_val (.string s) rfl (by refine lands_value (w := w32) ?_ h32; go_simp <;> rfl) ?_
        intro w42 h42
        simp only [pu]
        clear h32
        refine wpList_val (.int .i64 (k : Int)) rfl (by refine lands_value (w := w42) ?_ h42; go_simp <;> rfl) ?_
        intro w43 h43
        simp only [pu]
        clear h42
        refine wpList_val (.int .i64 0) rfl (by exact lands_calls (w := w43) ((CB1 w43).mono fun _ _ ⟨he, hb⟩ => ⟨he, hb ▸ h43⟩) (by go_simp)) ?_
        intro w44 h44
        simp only [pu]
        clear h43
        refine wpList_val (.bool false) rfl (by refine lands_value (w := w44) ?_ h44; go_simp) ?_
        intro w45 h45
        simp only [pu]
        clear h44
        refine wpList_nil ?_
        repeat with_reducible (first | (apply wp_seq_k; intro _ _) | (go_at_K; go_step) | apply tn | apply wp_block | apply wp_skip | apply wp_exit | apply then_exit | apply block_normal | apply block_same | exact block_far rfl ?_)
        refine wp_cond_false rfl ?_
        repeat with_reducible (first | (apply wp_seq_k; intro _ _) | (go_at_K; go_step) | apply tn | apply wp_block | apply wp_skip | apply wp_exit | apply then_exit | apply block_normal | apply block_same | exact block_far rfl ?_)
        rw [HN0.out hb0] at h45
        go_wp2_with fail
        go_roundw
        case rel => exact ⟨j + 1, HJ.out, by have := HK.out; go_num, h45⟩
        case measure => simp [intOf]
    · obtain rfl : j = n := by omega
      rw [show (j : Int) - 1 - j = -1 by omega]
      repeat with_reducible (first | (apply wp_seq_k; intro _ _) | (go_at_K; go_step) | apply tn | apply wp_block | apply wp_skip | apply wp_exit | apply then_exit | apply block_normal | apply block_same | exact block_far rfl ?_)
      with_reducible apply wp_region_lit
      refine wpList_val (.int .i64 (-1)) rfl (by refine lands_value (w := wr) ?_ hr; go_simp <;> rfl) ?_
      intro w46 h46
      simp only [pu]
      clear hr
      refine wpList_val (.bool false) rfl (by refine lands_value (w := w46) ?_ h46; go_simp) ?_
      intro w47 h47
      simp only [pu]
      clear h46
      refine wpList_nil ?_
      repeat with_reducible (first | (apply wp_seq_k; intro _ _) | (go_at_K; go_step) | apply tn | apply wp_block | apply wp_skip | apply wp_exit | apply then_exit | apply block_normal | apply block_same | exact block_far rfl ?_)
      refine wp_cond_false rfl ?_
      repeat with_reducible (first | (apply wp_seq_k; intro _ _) | (go_at_K; go_step) | apply tn | apply wp_block | apply wp_skip | apply wp_exit | apply then_exit | apply block_normal | apply block_same | exact block_far rfl ?_)
      with_reducible apply wp_region_lit
      refine wpList_val (.agg (nums 4 (qua ((accB s (cnt P) j j).x) ((accB s (cnt P) j j).y) ((accB s (cnt P) j j).z) ((accB s (cnt P) j j).t)))) rfl (by exact lands_load _ _ rfl _ rfl _ _ _ (h47.blk _ m0) Tryz.underlying84 rfl (by kernel_rfl) h47) ?_
      intro w48 h48
      simp only [pu]
      clear h47
      refine wpList_val (.agg (nums 2 (two ((R4.whole (accB s (cnt P) j j)).x) ((R4.whole (accB s (cnt P) j j)).y)))) rfl (by exact h48.call (rwhole_any (accB s (cnt P) j j) (accB_ok _ _ _ _) w48) (by go_simp)) ?_
      intro w49 h49
      simp only [pu]
      clear h48
      refine wpList_val (R := KD w.heap.size w [(g18, 84, nums 4 (qua ((accB s (cnt P) j j).x) ((accB s (cnt P) j j).y) ((accB s (cnt P) j j).z) ((accB s (cnt P) j j).t))), (g13, 84, nums 4 (qua ((partV (cnt P)).x) ((partV (cnt P)).y) ((partV (cnt P)).z) ((partV (cnt P)).t))), (g7, 40, r64 4 (F4 dP)), (g4, 42, nums 2 (two ((R4.whole (accB s (cnt P) j j)).x) ((R4.whole (accB s (cnt P) j j)).y))), (w.heap.size, 42, nums 2 (two P.x P.y))]) undef rfl (lands_store _ _ _ rfl g4 (nums 2 (two ((R4.whole (accB s (cnt P) j j)).x) ((R4.whole (accB s (cnt P) j j)).y))) rfl rfl _ _ (h49.blk _ m3) (by kernel_rfl) (by kernel_rfl) (row_one fun _ => rfl) (h49.put (k := 3) rfl _)) ?_
      intro w50 h50
      simp only [pu]
      clear h49
      refine wpList_nil ?_
      repeat with_reducible (first | (apply wp_seq_k; intro _ _) | (go_at_K; go_step) | apply tn | apply wp_block | apply wp_skip | apply wp_exit | apply then_exit | apply block_normal | apply block_same | exact block_far rfl ?_)
      with_reducible apply wp_ret
      repeat (first | with_reducible apply then_ret | with_reducible apply block_ret)
      exact bodyPost_ret (results_cell_row rfl _ _ g4 42 (nums 2 (two ((R4.whole (accB s (cnt P) j j)).x) ((R4.whole (accB s (cnt P) j j)).y))) (0, 0) _ rfl (h50.blk _ m3) Tryz.underlying42 rfl (by kernel_rfl)) rfl ⟨by unfold rmulV; rw [hn], h50.b⟩
end Go.Proofs.YtggalphgnloneaaGreat
