/- The layer point: Mul. (written by mkQ3.py) -/
import Derived.Test.YtggalphgnloneaaGreatQn
namespace Go.Proofs.YtggalphgnloneaaGreat
open Go.RowKit
set_option maxRecDepth 100000 in
set_option maxHeartbeats 4000000 in
theorem qmul_any (s : ByteArray) (P : Pt) (hx : P.x < M256) (hy : P.y < M256) (w : World) :
    Calls Tryz.prog 27 #[.string s, .agg (nums 2 (two P.x P.y))] w fun e w' => e = .returned (.agg (nums 2 (two (mulV s P).x (mulV s P).y))) ∧ Below w.heap.size w w' := by
  go_enter Tryz.func27, Tryz.ntmps27
  repeat with_reducible (first | (apply wp_seq_k; intro _ _) | (go_at_K; go_step) | apply tn | apply wp_block | apply wp_skip | apply wp_exit | apply then_exit | apply block_normal | apply block_same | exact block_far rfl ?_)
  have h1 := KD.begin w
  with_reducible apply wp_region_lit
  refine wpList_val (R := KD w.heap.size w [(w.heap.size, 42, nums 2 (two P.x P.y))]) (.pointer (some ⟨w.heap.size, 0, none⟩)) rfl (lands_run2 (box_run _ _ _ rfl rfl _) (h1.add _ _)) ?_
  intro w2 h2
  simp only [pu]
  clear h1
  refine wpList_val (R := KD w.heap.size w [(w2.heap.size, 42, nums 2 (two 0 0)), (w.heap.size, 42, nums 2 (two P.x P.y))]) (.pointer (some ⟨w2.heap.size, 0, none⟩)) rfl (lands_run2 (alloc_run _ _ rfl zero_pt _) (h2.add _ _)) ?_
  intro w3 h3
  simp only [pu]
  clear h2
  generalize w2.heap.size = g4 at h3 ⊢
  refine wpList_nil ?_
  repeat with_reducible (first | (apply wp_seq_k; intro _ _) | (go_at_K; go_step) | apply tn | apply wp_block | apply wp_skip | apply wp_exit | apply then_exit | apply block_normal | apply block_same | exact block_far rfl ?_)
  with_reducible apply wp_region_lit
  refine wpList_val (.agg (nums 2 (two P.x P.y))) rfl (by exact lands_load _ _ rfl _ rfl _ _ _ (h3.blk _ m1) Tryz.underlying42 rfl (by kernel_rfl) h3) ?_
  intro w5 h5
  simp only [pu]
  clear h3
  refine wpList_val (.agg (nums 2 (two ((cnt P).x) ((cnt P).y)))) rfl (by exact h5.call (qcounted_any P hx hy w5) (by go_simp)) ?_
  intro w6 h6
  simp only [pu]
  clear h5
  refine wpList_val (.agg (nums 48 (tab (cnt P) 15))) rfl (by exact h6.call (qmultiples_any (cnt P) (cnt_C P).ok w6) (by go_simp)) ?_
  intro w7 h7
  simp only [pu]
  clear h6
  refine wpList_val (R := KD w.heap.size w [(w7.heap.size, 77, nums 48 (fun _ => 0)), (g4, 42, nums 2 (two 0 0)), (w.heap.size, 42, nums 2 (two P.x P.y))]) (.pointer (some ⟨w7.heap.size, 0, none⟩)) rfl (lands_run2 (alloc_run _ _ rfl zero_tab _) (h7.add _ _)) ?_
  intro w8 h8
  simp only [pu]
  clear h7
  generalize w7.heap.size = g9 at h8 ⊢
  refine wpList_val (R := KD w.heap.size w [(g9, 77, nums 48 (tab (cnt P) 15)), (g4, 42, nums 2 (two 0 0)), (w.heap.size, 42, nums 2 (two P.x P.y))]) undef rfl (lands_store _ _ _ rfl g9 (nums 48 (tab (cnt P) 15)) rfl rfl _ _ (h8.blk _ m0) (by kernel_rfl) (by kernel_rfl) (row_one fun _ => rfl) (h8.put (k := 0) rfl _)) ?_
  intro w10 h10
  simp only [pu]
  clear h8
  refine wpList_nil ?_
  repeat with_reducible (first | (apply wp_seq_k; intro _ _) | (go_at_K; go_step) | apply tn | apply wp_block | apply wp_skip | apply wp_exit | apply then_exit | apply block_normal | apply block_same | exact block_far rfl ?_)
  with_reducible apply wp_region_lit
  refine wpList_val (.pointer (some ⟨g9, 0, none⟩)) rfl (by refine lands_value (w := w10) ?_ h10; go_simp) ?_
  intro w11 h11
  simp only [pu]
  clear h10
  refine wpList_val (.agg (nums 3 (tri ((mulQ (cnt P) 0).x) ((mulQ (cnt P) 0).y) ((mulQ (cnt P) 0).z)))) rfl (by rw [← tab_at (cnt P) 15 0 (by decide)]; exact lands_nums 0 3 _ _ rfl _ 48 _ rfl _ (h11.blk _ m0) (by decide) _ Tryz.underlying74 rfl (by kernel_rfl) h11) ?_
  intro w12 h12
  simp only [pu]
  clear h11
  refine wpList_val (R := KD w.heap.size w [(w12.heap.size, 74, nums 3 (tri 0 0 0)), (g9, 77, nums 48 (tab (cnt P) 15)), (g4, 42, nums 2 (two 0 0)), (w.heap.size, 42, nums 2 (two P.x P.y))]) (.pointer (some ⟨w12.heap.size, 0, none⟩)) rfl (lands_run2 (alloc_run _ _ rfl zero_rk _) (h12.add _ _)) ?_
  intro w13 h13
  simp only [pu]
  clear h12
  generalize w12.heap.size = g14 at h13 ⊢
  refine wpList_val (R := KD w.heap.size w [(g14, 74, nums 3 (tri ((mulQ (cnt P) 0).x) ((mulQ (cnt P) 0).y) ((mulQ (cnt P) 0).z))), (g9, 77, nums 48 (tab (cnt P) 15)), (g4, 42, nums 2 (two 0 0)), (w.heap.size, 42, nums 2 (two P.x P.y))]) undef rfl (lands_store _ _ _ rfl g14 (nums 3 (tri ((mulQ (cnt P) 0).x) ((mulQ (cnt P) 0).y) ((mulQ (cnt P) 0).z))) rfl rfl _ _ (h13.blk _ m0) (by kernel_rfl) (by kernel_rfl) (row_one fun _ => rfl) (h13.put (k := 0) rfl _)) ?_
  intro w15 h15
  simp only [pu]
  clear h13
  refine wpList_nil ?_
  repeat with_reducible (first | (apply wp_seq_k; intro _ _) | (go_at_K; go_step) | apply tn | apply wp_block | apply wp_skip | apply wp_exit | apply then_exit | apply block_normal | apply block_same | exact block_far rfl ?_)
  with_reducible apply wp_region_lit
  refine wpList_val (.string s) rfl (by refine lands_value (w := w15) ?_ h15; go_simp <;> rfl) ?_
  intro w16 h16
  simp only [pu]
  clear h15
  refine wpList_val (.int .i64 (s.size : Int)) rfl (by refine lands_value (w := w16) ?_ h16; go_simp) ?_
  intro w17 h17
  simp only [pu]
  clear h16
  refine wpList_val (.int .i64 ((min s.size 32 : Nat) : Int)) rfl (by exact (lands_min (w := w17) _ s.size 32 rfl rfl rfl).weak fun _ e => e ▸ h17) ?_
  intro w18 h18
  simp only [pu]
  clear h17
  refine wpList_val (.int .i64 ((min s.size 32 : Nat) - 1 : Int)) rfl (by refine lands_value (w := w18) ?_ h18; go_simp; rw [IntWalk.i64_in _ (by omega)]) ?_
  intro w19 h19
  simp only [pu]
  clear h18
  refine wpList_val (.int .i64 ((min s.size 32 : Nat) - 1 : Int)) rfl (by refine lands_value (w := w19) ?_ h19; go_simp <;> rfl) ?_
  intro w20 h20
  simp only [pu]
  clear h19
  refine wpList_nil ?_
  repeat with_reducible (first | (apply wp_seq_k; intro _ _) | (go_at_K; go_step) | apply tn | apply wp_block | apply wp_skip | apply wp_exit | apply then_exit | apply block_normal | apply block_same | exact block_far rfl ?_)
  generalize hn : min s.size 32 = n
  have hn32 : n ≤ 32 := by omega
  have hns : n ≤ s.size := by omega
  go_loopw [7] (fun i wr => ∃ j : Nat, j ≤ n ∧ i = .int .i64 ((n : Int) - 1 - j) ∧ KD w.heap.size w [(g14, 74, nums 3 (tri ((accQ s (cnt P) n j).x) ((accQ s (cnt P) n j).y) ((accQ s (cnt P) n j).z))), (g9, 77, nums 48 (tab (cnt P) 15)), (g4, 42, nums 2 (two 0 0)), (w.heap.size, 42, nums 2 (two P.x P.y))] wr) (fun i _ => (intOf i + 1).toNat)
  case atStart => exact ⟨0, by omega, by simp, h20⟩
  case round =>
    obtain ⟨j, hj, rfl, hr⟩ := hrel
    clear h20
    by_cases hlt : j < n
    · obtain ⟨k, hk⟩ : ∃ k : Nat, (n : Int) - 1 - j = (k : Int) := ⟨n - 1 - j, by omega⟩
      rw [hk]
      have hkj : k = n - 1 - j := by omega
      have hks : k < s.size := by omega
      have hge : ¬ (s.size : Int) ≤ k := by omega
      have HB := Lib.hid (byteS_at s k hks)
      have hb := byteS_lt s k
      have HN := Lib.hid (accQ_next s (cnt P) n j k hkj)
      have HKJ := Lib.hid hkj
      have HK := Lib.hid hk
      have hkb : k < 32 := by omega
      clear hkj hk hns hn32 hlt hn hj
      repeat with_reducible (first | (apply wp_seq_k; intro _ _) | (go_at_K; go_step) | apply tn | apply wp_block | apply wp_skip | apply wp_exit | apply then_exit | apply block_normal | apply block_same | exact block_far rfl ?_)
      with_reducible apply wp_region_lit
      refine wpList_val (.int .i64 (k : Int)) rfl (by refine lands_value (w := wr) ?_ hr; go_simp <;> rfl) ?_
      intro w21 h21
      simp only [pu]
      clear hr
      refine wpList_val (.bool true) rfl (by refine lands_value (w := w21) ?_ h21; go_simp) ?_
      intro w22 h22
      simp only [pu]
      clear h21
      refine wpList_nil ?_
      repeat with_reducible (first | (apply wp_seq_k; intro _ _) | (go_at_K; go_step) | apply tn | apply wp_block | apply wp_skip | apply wp_exit | apply then_exit | apply block_normal | apply block_same | exact block_far rfl ?_)
      refine wp_cond_true rfl ?_
      repeat with_reducible (first | (apply wp_seq_k; intro _ _) | (go_at_K; go_step) | apply tn | apply wp_block | apply wp_skip | apply wp_exit | apply then_exit | apply block_normal | apply block_same | exact block_far rfl ?_)
      obtain ⟨n23, hn23⟩ : ∃ n, n = w22.heap.size := ⟨_, rfl⟩
      refine wp_region_anyE (KM w.heap.size n23 w (fun b _ => bif b then [(g14, 74, nums 3 (tri ((R3.plus (R3.t16 (accQ s (cnt P) n j)) (mulQ (cnt P) (byteS s k / 16))).x) ((R3.plus (R3.t16 (accQ s (cnt P) n j)) (mulQ (cnt P) (byteS s k / 16))).y) ((R3.plus (R3.t16 (accQ s (cnt P) n j)) (mulQ (cnt P) (byteS s k / 16))).z))), (g9, 77, nums 48 (tab (cnt P) 15)), (g4, 42, nums 2 (two 0 0)), (w.heap.size, 42, nums 2 (two P.x P.y))] else [(g14, 74, nums 3 (tri ((accQ s (cnt P) n j).x) ((accQ s (cnt P) n j).y) ((accQ s (cnt P) n j).z))), (g9, 77, nums 48 (tab (cnt P) 15)), (g4, 42, nums 2 (two 0 0)), (w.heap.size, 42, nums 2 (two P.x P.y))]) 9 1001 []) (fun _ => false) (by kernel_rfl) (KM.begin h22 hn23 (lows hn23 h22 (fun b _ => by cases b <;> simp only [cond_true, cond_false, List.map_cons, List.map_nil])) _) ?_
      refine kA 0 9 (.agg (nums 3 (tri ((accQ s (cnt P) n j).x) ((accQ s (cnt P) n j).y) ((accQ s (cnt P) n j).z)))) rfl rfl rfl (fun _ => rfl) (fun qv L wx hk hT => ?_) ?_
      · exact lands_load _ _ rfl _ rfl _ _ _ (hk.blk _ m0) Tryz.underlying74 rfl (by kernel_rfl) hT
      simp only [pu]
      refine kO 1 (.agg (nums 3 (tri ((R3.t16 (accQ s (cnt P) n j)).x) ((R3.t16 (accQ s (cnt P) n j)).y) ((R3.t16 (accQ s (cnt P) n j)).z)))) rfl rfl rfl (fun _ => rfl) (fun qv L wx hT => ?_) ?_
      · exact hT.call (qt16_any (accQ s (cnt P) n j) (accQ_ok _ _ _ _) wx) (by go_simp)
      simp only [pu]
      refine kO 2 (.string s) rfl rfl rfl (fun _ => rfl) (fun qv L wx hT => ?_) ?_
      · refine lands_value (w := wx) ?_ hT; go_simp <;> rfl
      simp only [pu]
      refine kO 3 (.int .i64 (k : Int)) rfl rfl rfl (fun _ => rfl) (fun qv L wx hT => ?_) ?_
      · refine lands_value (w := wx) ?_ hT; go_simp <;> rfl
      simp only [pu]
      refine kO 4 (.int .u8 (byteS s k : Int)) rfl rfl rfl (fun _ => rfl) (fun qv L wx hT => ?_) ?_
      · refine lands_value (w := wx) ?_ hT; go_simp; rw [HB.out]
      simp only [pu]
      refine kO 5 (.int .u8 ((byteS s k / 16 : Nat) : Int)) rfl rfl rfl (fun _ => rfl) (fun qv L wx hT => ?_) ?_
      · refine lands_value (w := wx) ?_ hT; go_simp
      simp only [pu]
      refine kO 6 (.pointer (some ⟨g9, 4 * (3 * (byteS s k / 16)), none⟩)) rfl rfl rfl (fun _ => rfl) (fun qv L wx hT => ?_) ?_
      · refine lands_value (w := wx) ?_ hT; go_simp; rw [show ((byteS s k : Int) / 16).toNat * 12 = 4 * (3 * (byteS s k / 16)) by omega, if_pos (by omega)]
      simp only [pu]
      refine kA 7 9 (.agg (nums 3 (tri ((mulQ (cnt P) (byteS s k / 16)).x) ((mulQ (cnt P) (byteS s k / 16)).y) ((mulQ (cnt P) (byteS s k / 16)).z)))) rfl rfl rfl (fun _ => rfl) (fun qv L wx hk hT => ?_) ?_
      · rw [← tab_at (cnt P) 15 (byteS s k / 16) (by omega)]; exact lands_nums (3 * (byteS s k / 16)) 3 _ _ rfl _ 48 _ rfl _ (hk.blk _ m1) (by omega) _ Tryz.underlying74 rfl (by kernel_rfl) hT
      simp only [pu]
      refine kO 8 (.agg (nums 3 (tri ((R3.plus (R3.t16 (accQ s (cnt P) n j)) (mulQ (cnt P) (byteS s k / 16))).x) ((R3.plus (R3.t16 (accQ s (cnt P) n j)) (mulQ (cnt P) (byteS s k / 16))).y) ((R3.plus (R3.t16 (accQ s (cnt P) n j)) (mulQ (cnt P) (byteS s k / 16))).z)))) rfl rfl rfl (fun _ => rfl) (fun qv L wx hT => ?_) ?_
      · exact hT.call (qplus_any (R3.t16 (accQ s (cnt P) n j)) (R3.t16_ok) (mulQ (cnt P) (byteS s k / 16)) (mulQ_ok _ _) wx) (by go_simp)
      simp only [pu]
      refine anyE_take (i := 9) undef rfl rfl (by kernel_rfl) (by kernel_rfl) (by kernel_rfl) (fun qv => ym_first (k := 0) _ _ _ (by kernel_rfl) rfl rfl rfl rfl (by kernel_rfl) (by kernel_rfl) (row_one fun _ => rfl) (fun _ => rfl) (fun _ => rfl)) ?_
      simp only [pu]
      refine anyE_done (by kernel_rfl) (fun qv w24 hK => ?_) _
      have hE := hK.outs (by kernel_rfl) (by kernel_rfl)  (b := true) (c := false) (by kernel_rfl) (by kernel_rfl)
      clear hK h22 hn23
      have h24 : KD w.heap.size w [(g14, 74, nums 3 (tri ((R3.plus (R3.t16 (accQ s (cnt P) n j)) (mulQ (cnt P) (byteS s k / 16))).x) ((R3.plus (R3.t16 (accQ s (cnt P) n j)) (mulQ (cnt P) (byteS s k / 16))).y) ((R3.plus (R3.t16 (accQ s (cnt P) n j)) (mulQ (cnt P) (byteS s k / 16))).z))), (g9, 77, nums 48 (tab (cnt P) 15)), (g4, 42, nums 2 (two 0 0)), (w.heap.size, 42, nums 2 (two P.x P.y))] w24 := hE.k
      clear hE
      clear n23
      clear qv
      repeat with_reducible (first | (apply wp_seq_k; intro _ _) | (go_at_K; go_step) | apply tn | apply wp_block | apply wp_skip | apply wp_exit | apply then_exit | apply block_normal | apply block_same | exact block_far rfl ?_)
      obtain ⟨n25, hn25⟩ : ∃ n, n = w24.heap.size := ⟨_, rfl⟩
      refine wp_region_anyE (KM w.heap.size n25 w (fun b _ => bif b then [(g14, 74, nums 3 (tri ((R3.plus (R3.t16 (R3.plus (R3.t16 (accQ s (cnt P) n j)) (mulQ (cnt P) (byteS s k / 16)))) (mulQ (cnt P) (byteS s k % 16))).x) ((R3.plus (R3.t16 (R3.plus (R3.t16 (accQ s (cnt P) n j)) (mulQ (cnt P) (byteS s k / 16)))) (mulQ (cnt P) (byteS s k % 16))).y) ((R3.plus (R3.t16 (R3.plus (R3.t16 (accQ s (cnt P) n j)) (mulQ (cnt P) (byteS s k / 16)))) (mulQ (cnt P) (byteS s k % 16))).z))), (g9, 77, nums 48 (tab (cnt P) 15)), (g4, 42, nums 2 (two 0 0)), (w.heap.size, 42, nums 2 (two P.x P.y))] else [(g14, 74, nums 3 (tri ((R3.plus (R3.t16 (accQ s (cnt P) n j)) (mulQ (cnt P) (byteS s k / 16))).x) ((R3.plus (R3.t16 (accQ s (cnt P) n j)) (mulQ (cnt P) (byteS s k / 16))).y) ((R3.plus (R3.t16 (accQ s (cnt P) n j)) (mulQ (cnt P) (byteS s k / 16))).z))), (g9, 77, nums 48 (tab (cnt P) 15)), (g4, 42, nums 2 (two 0 0)), (w.heap.size, 42, nums 2 (two P.x P.y))]) 9 1001 []) (fun _ => false) (by kernel_rfl) (KM.begin h24 hn25 (lows hn25 h24 (fun b _ => by cases b <;> simp only [cond_true, cond_false, List.map_cons, List.map_nil])) _) ?_
      refine kA 0 9 (.agg (nums 3 (tri ((R3.plus (R3.t16 (accQ s (cnt P) n j)) (mulQ (cnt P) (byteS s k / 16))).x) ((R3.plus (R3.t16 (accQ s (cnt P) n j)) (mulQ (cnt P) (byteS s k / 16))).y) ((R3.plus (R3.t16 (accQ s (cnt P) n j)) (mulQ (cnt P) (byteS s k / 16))).z)))) rfl rfl rfl (fun _ => rfl) (fun qv L wx hk hT => ?_) ?_
      · exact lands_load _ _ rfl _ rfl _ _ _ (hk.blk _ m0) Tryz.underlying74 rfl (by kernel_rfl) hT
      simp only [pu]
      refine kO 1 (.agg (nums 3 (tri ((R3.t16 (R3.plus (R3.t16 (accQ s (cnt P) n j)) (mulQ (cnt P) (byteS s k / 16)))).x) ((R3.t16 (R3.plus (R3.t16 (accQ s (cnt P) n j)) (mulQ (cnt P) (byteS s k / 16)))).y) ((R3.t16 (R3.plus (R3.t16 (accQ s (cnt P) n j)) (mulQ (cnt P) (byteS s k / 16)))).z)))) rfl rfl rfl (fun _ => rfl) (fun qv L wx hT => ?_) ?_
      · exact hT.call (qt16_any (R3.plus (R3.t16 (accQ s (cnt P) n j)) (mulQ (cnt P) (byteS s k / 16))) (R3.plus_ok) wx) (by go_simp)
      simp only [pu]
      refine kO 2 (.string s) rfl rfl rfl (fun _ => rfl) (fun qv L wx hT => ?_) ?_
      · refine lands_value (w := wx) ?_ hT; go_simp <;> rfl
      simp only [pu]
      refine kO 3 (.int .i64 (k : Int)) rfl rfl rfl (fun _ => rfl) (fun qv L wx hT => ?_) ?_
      · refine lands_value (w := wx) ?_ hT; go_simp <;> rfl
      simp only [pu]
      refine kO 4 (.int .u8 (byteS s k : Int)) rfl rfl rfl (fun _ => rfl) (fun qv L wx hT => ?_) ?_
      · refine lands_value (w := wx) ?_ hT; go_simp; rw [HB.out]
      simp only [pu]
      refine kO 5 (.int .u8 ((byteS s k % 16 : Nat) : Int)) rfl rfl rfl (fun _ => rfl) (fun qv L wx hT => ?_) ?_
      · refine lands_value (w := wx) ?_ hT; go_simp; rw [and15 _ hb]; omega
      simp only [pu]
      refine kO 6 (.pointer (some ⟨g9, 4 * (3 * (byteS s k % 16)), none⟩)) rfl rfl rfl (fun _ => rfl) (fun qv L wx hT => ?_) ?_
      · refine lands_value (w := wx) ?_ hT; go_simp; rw [show ((byteS s k : Int) % 16).toNat * 12 = 4 * (3 * (byteS s k % 16)) by omega, if_pos (by omega)]
      simp only [pu]
      refine kA 7 9 (.agg (nums 3 (tri ((mulQ (cnt P) (byteS s k % 16)).x) ((mulQ (cnt P) (byteS s k % 16)).y) ((mulQ (cnt P) (byteS s k % 16)).z)))) rfl rfl rfl (fun _ => rfl) (fun qv L wx hk hT => ?_) ?_
      · rw [← tab_at (cnt P) 15 (byteS s k % 16) (by omega)]; exact lands_nums (3 * (byteS s k % 16)) 3 _ _ rfl _ 48 _ rfl _ (hk.blk _ m1) (by omega) _ Tryz.underlying74 rfl (by kernel_rfl) hT
      simp only [pu]
      refine kO 8 (.agg (nums 3 (tri ((R3.plus (R3.t16 (R3.plus (R3.t16 (accQ s (cnt P) n j)) (mulQ (cnt P) (byteS s k / 16)))) (mulQ (cnt P) (byteS s k % 16))).x) ((R3.plus (R3.t16 (R3.plus (R3.t16 (accQ s (cnt P) n j)) (mulQ (cnt P) (byteS s k / 16)))) (mulQ (cnt P) (byteS s k % 16))).y) ((R3.plus (R3.t16 (R3.plus (R3.t16 (accQ s (cnt P) n j)) (mulQ (cnt P) (byteS s k / 16)))) (mulQ (cnt P) (byteS s k % 16))).z)))) rfl rfl rfl (fun _ => rfl) (fun qv L wx hT => ?_) ?_
      · exact hT.call (qplus_any (R3.t16 (R3.plus (R3.t16 (accQ s (cnt P) n j)) (mulQ (cnt P) (byteS s k / 16)))) (R3.t16_ok) (mulQ (cnt P) (byteS s k % 16)) (mulQ_ok _ _) wx) (by go_simp)
      simp only [pu]
      refine anyE_take (i := 9) undef rfl rfl (by kernel_rfl) (by kernel_rfl) (by kernel_rfl) (fun qv => ym_first (k := 0) _ _ _ (by kernel_rfl) rfl rfl rfl rfl (by kernel_rfl) (by kernel_rfl) (row_one fun _ => rfl) (fun _ => rfl) (fun _ => rfl)) ?_
      simp only [pu]
      refine anyE_done (by kernel_rfl) (fun qv w26 hK => ?_) _
      have hE := hK.outs (by kernel_rfl) (by kernel_rfl)  (b := true) (c := false) (by kernel_rfl) (by kernel_rfl)
      clear hK h24 hn25
      have h26 : KD w.heap.size w [(g14, 74, nums 3 (tri ((R3.plus (R3.t16 (R3.plus (R3.t16 (accQ s (cnt P) n j)) (mulQ (cnt P) (byteS s k / 16)))) (mulQ (cnt P) (byteS s k % 16))).x) ((R3.plus (R3.t16 (R3.plus (R3.t16 (accQ s (cnt P) n j)) (mulQ (cnt P) (byteS s k / 16)))) (mulQ (cnt P) (byteS s k % 16))).y) ((R3.plus (R3.t16 (R3.plus (R3.t16 (accQ s (cnt P) n j)) (mulQ (cnt P) (byteS s k / 16)))) (mulQ (cnt P) (byteS s k % 16))).z))), (g9, 77, nums 48 (tab (cnt P) 15)), (g4, 42, nums 2 (two 0 0)), (w.heap.size, 42, nums 2 (two P.x P.y))] w26 := hE.k
      clear hE
      clear n25
      clear qv
      rw [HN.out] at h26
      go_wp2_with fail
      go_roundw
      case rel => exact ⟨j + 1, by have := HKJ.out; have := HK.out; omega, by have := HK.out; go_num, h26⟩
      case measure => simp [intOf]
    · obtain rfl : j = n := by omega
      rw [show (j : Int) - 1 - j = -1 by omega]
      repeat with_reducible (first | (apply wp_seq_k; intro _ _) | (go_at_K; go_step) | apply tn | apply wp_block | apply wp_skip | apply wp_exit | apply then_exit | apply block_normal | apply block_same | exact block_far rfl ?_)
      with_reducible apply wp_region_lit
      refine wpList_val (.int .i64 (-1)) rfl (by refine lands_value (w := wr) ?_ hr; go_simp <;> rfl) ?_
      intro w27 h27
      simp only [pu]
      clear hr
      refine wpList_val (.bool false) rfl (by refine lands_value (w := w27) ?_ h27; go_simp) ?_
      intro w28 h28
      simp only [pu]
      clear h27
      refine wpList_nil ?_
      repeat with_reducible (first | (apply wp_seq_k; intro _ _) | (go_at_K; go_step) | apply tn | apply wp_block | apply wp_skip | apply wp_exit | apply then_exit | apply block_normal | apply block_same | exact block_far rfl ?_)
      refine wp_cond_false rfl ?_
      repeat with_reducible (first | (apply wp_seq_k; intro _ _) | (go_at_K; go_step) | apply tn | apply wp_block | apply wp_skip | apply wp_exit | apply then_exit | apply block_normal | apply block_same | exact block_far rfl ?_)
      with_reducible apply wp_region_lit
      refine wpList_val (.agg (nums 3 (tri ((accQ s (cnt P) j j).x) ((accQ s (cnt P) j j).y) ((accQ s (cnt P) j j).z)))) rfl (by exact lands_load _ _ rfl _ rfl _ _ _ (h28.blk _ m0) Tryz.underlying74 rfl (by kernel_rfl) h28) ?_
      intro w29 h29
      simp only [pu]
      clear h28
      refine wpList_val (.agg (nums 2 (two ((R3.plain (accQ s (cnt P) j j)).x) ((R3.plain (accQ s (cnt P) j j)).y)))) rfl (by exact h29.call (qplain_any (accQ s (cnt P) j j) (accQ_ok _ _ _ _) w29) (by go_simp)) ?_
      intro w30 h30
      simp only [pu]
      clear h29
      refine wpList_val (R := KD w.heap.size w [(g14, 74, nums 3 (tri ((accQ s (cnt P) j j).x) ((accQ s (cnt P) j j).y) ((accQ s (cnt P) j j).z))), (g9, 77, nums 48 (tab (cnt P) 15)), (g4, 42, nums 2 (two ((R3.plain (accQ s (cnt P) j j)).x) ((R3.plain (accQ s (cnt P) j j)).y))), (w.heap.size, 42, nums 2 (two P.x P.y))]) undef rfl (lands_store _ _ _ rfl g4 (nums 2 (two ((R3.plain (accQ s (cnt P) j j)).x) ((R3.plain (accQ s (cnt P) j j)).y))) rfl rfl _ _ (h30.blk _ m2) (by kernel_rfl) (by kernel_rfl) (row_one fun _ => rfl) (h30.put (k := 2) rfl _)) ?_
      intro w31 h31
      simp only [pu]
      clear h30
      refine wpList_nil ?_
      repeat with_reducible (first | (apply wp_seq_k; intro _ _) | (go_at_K; go_step) | apply tn | apply wp_block | apply wp_skip | apply wp_exit | apply then_exit | apply block_normal | apply block_same | exact block_far rfl ?_)
      with_reducible apply wp_ret
      repeat (first | with_reducible apply then_ret | with_reducible apply block_ret)
      exact bodyPost_ret (results_cell_row rfl _ _ g4 42 (nums 2 (two ((R3.plain (accQ s (cnt P) j j)).x) ((R3.plain (accQ s (cnt P) j j)).y))) (0, 0) _ rfl (h31.blk _ m2) Tryz.underlying42 rfl (by kernel_rfl)) rfl ⟨by unfold mulV; rw [hn], h31.b⟩
end Go.Proofs.YtggalphgnloneaaGreat
