/- The layer point: multiples. (written by mkQ2.py) -/
import Derived.Test.YtggalphgnloneaaGreatQe
namespace Go.Proofs.YtggalphgnloneaaGreat
open Go.RowKit
set_option maxRecDepth 100000 in
set_option maxHeartbeats 4000000 in
theorem qmultiples_any (P : Pt) (hP : P.ok) (w : World) :
    Calls Tryz.prog 60 #[.agg (nums 2 (two P.x P.y))] w fun e w' => e = .returned (.agg (nums 48 (tab P 15))) ∧ Below w.heap.size w w' := by
  go_enter Tryz.func60, Tryz.ntmps60
  repeat with_reducible (first | (apply wp_seq_k; intro _ _) | (go_at_K; go_step) | apply tn | apply wp_block | apply wp_skip | apply wp_exit | apply then_exit | apply block_normal | apply block_same | exact block_far rfl ?_)
  have h1 := KD.begin w
  with_reducible apply wp_region_lit
  refine wpList_val (R := KD w.heap.size w [(w.heap.size, 42, nums 2 (two P.x P.y))]) (.pointer (some ⟨w.heap.size, 0, none⟩)) rfl (lands_run2 (box_run _ _ _ rfl rfl _) (h1.add _ _)) ?_
  intro w2 h2
  simp only [pu]
  clear h1
  refine wpList_val (R := KD w.heap.size w [(w2.heap.size, 77, nums 48 (fun _ => 0)), (w.heap.size, 42, nums 2 (two P.x P.y))]) (.pointer (some ⟨w2.heap.size, 0, none⟩)) rfl (lands_run2 (alloc_run _ _ rfl zero_tab _) (h2.add _ _)) ?_
  intro w3 h3
  simp only [pu]
  clear h2
  generalize w2.heap.size = g4 at h3 ⊢
  refine wpList_nil ?_
  repeat with_reducible (first | (apply wp_seq_k; intro _ _) | (go_at_K; go_step) | apply tn | apply wp_block | apply wp_skip | apply wp_exit | apply then_exit | apply block_normal | apply block_same | exact block_far rfl ?_)
  with_reducible apply wp_region_lit
  refine wpList_val (.agg (nums 2 (two pZ.x pZ.y))) rfl (by exact h3.call (qzero_any w3) (by go_simp)) ?_
  intro w5 h5
  simp only [pu]
  clear h3
  refine wpList_val (.agg (nums 3 (tri pZ.x pZ.y 1))) rfl (by exact h5.call (qlifted_any pZ w5) (by go_simp)) ?_
  intro w6 h6
  simp only [pu]
  clear h5
  refine wpList_val (.pointer (some ⟨g4, 0, none⟩)) rfl (by refine lands_value (w := w6) ?_ h6; go_simp) ?_
  intro w7 h7
  simp only [pu]
  clear h6
  refine wpList_val (R := KD w.heap.size w [(g4, 77, nums 48 (tab P 0)), (w.heap.size, 42, nums 2 (two P.x P.y))]) undef rfl (lands_store_nums (0) 3 _ _ _ rfl g4 48 (fun _ => 0) (tri pZ.x pZ.y 1) rfl rfl _ (h7.blk _ m0) (by omega) (by kernel_rfl) (by rw [tab_zero P]; exact h7.put (k := 0) rfl _)) ?_
  intro w8 h8
  simp only [Act.put]
  clear h7
  refine wpList_nil ?_
  repeat with_reducible (first | (apply wp_seq_k; intro _ _) | (go_at_K; go_step) | apply tn | apply wp_block | apply wp_skip | apply wp_exit | apply then_exit | apply block_normal | apply block_same | exact block_far rfl ?_)
  with_reducible apply wp_region_lit
  refine wpList_val (.agg (nums 2 (two P.x P.y))) rfl (by exact lands_load _ _ rfl _ rfl _ _ _ (h8.blk _ m1) Tryz.underlying42 rfl (by kernel_rfl) h8) ?_
  intro w9 h9
  simp only [pu]
  clear h8
  refine wpList_val (.agg (nums 3 (tri P.x P.y 1))) rfl (by exact h9.call (qlifted_any P w9) (by go_simp)) ?_
  intro w10 h10
  simp only [pu]
  clear h9
  refine wpList_val (.func (.func 58) #[.agg (nums 3 (tri P.x P.y 1))] #[]) rfl (by refine lands_value (w := w10) ?_ h10; go_simp) ?_
  intro w11 h11
  simp only [pu]
  clear h10
  refine wpList_val (.func (.func 58) #[.agg (nums 3 (tri P.x P.y 1))] #[]) rfl (by refine lands_value (w := w11) ?_ h11; go_simp <;> rfl) ?_
  intro w12 h12
  simp only [pu]
  clear h11
  refine wpList_nil ?_
  repeat with_reducible (first | (apply wp_seq_k; intro _ _) | (go_at_K; go_step) | apply tn | apply wp_block | apply wp_skip | apply wp_exit | apply then_exit | apply block_normal | apply block_same | exact block_far rfl ?_)
  go_wp2_with fail
  go_loopw [11] (fun i wr => ∃ k : Nat, k ≤ 15 ∧ i = .int .i64 (k : Int) ∧ KD w.heap.size w [(g4, 77, nums 48 (tab P k)), (w.heap.size, 42, nums 2 (two P.x P.y))] wr) (fun i _ => 15 - (intOf i).toNat)
  case atStart => exact ⟨0, by omega, rfl, h12⟩
  case round =>
    obtain ⟨k, hk, rfl, hr⟩ := hrel
    clear h12
    by_cases hlt : k < 15
    · have hlt' : (k : Int) < 15 := by omega
      have hlo : ¬ (k : Int) < 0 := by omega
      repeat with_reducible (first | (apply wp_seq_k; intro _ _) | (go_at_K; go_step) | apply tn | apply wp_block | apply wp_skip | apply wp_exit | apply then_exit | apply block_normal | apply block_same | exact block_far rfl ?_)
      with_reducible apply wp_region_lit
      refine wpList_val (.bool true) rfl (by refine lands_value (w := wr) ?_ hr; go_simp) ?_
      intro w13 h13
      simp only [pu]
      clear hr
      refine wpList_nil ?_
      repeat with_reducible (first | (apply wp_seq_k; intro _ _) | (go_at_K; go_step) | apply tn | apply wp_block | apply wp_skip | apply wp_exit | apply then_exit | apply block_normal | apply block_same | exact block_far rfl ?_)
      refine wp_cond_true rfl ?_
      repeat with_reducible (first | (apply wp_seq_k; intro _ _) | (go_at_K; go_step) | apply tn | apply wp_block | apply wp_skip | apply wp_exit | apply then_exit | apply block_normal | apply block_same | exact block_far rfl ?_)
      with_reducible apply wp_region_lit
      refine wpList_val (.int .i64 (k : Int)) rfl (by refine lands_value (w := w13) ?_ h13; go_simp <;> rfl) ?_
      intro w14 h14
      simp only [pu]
      clear h13
      refine wpList_val (.int .i64 (k : Int)) rfl (by refine lands_value (w := w14) ?_ h14; go_simp <;> rfl) ?_
      intro w15 h15
      simp only [pu]
      clear h14
      refine wpList_nil ?_
      repeat with_reducible (first | (apply wp_seq_k; intro _ _) | (go_at_K; go_step) | apply tn | apply wp_block | apply wp_skip | apply wp_exit | apply then_exit | apply block_normal | apply block_same | exact block_far rfl ?_)
      with_reducible apply wp_region_lit
      refine wpList_val (.int .i64 (k : Int)) rfl (by refine lands_value (w := w15) ?_ h15; go_simp <;> rfl) ?_
      intro w16 h16
      simp only [pu]
      clear h15
      refine wpList_val (.int .i64 ((k + 1 : Nat) : Int)) rfl (by refine lands_value (w := w16) ?_ h16; go_simp; rw [IntWalk.i64_in _ (by omega)]) ?_
      intro w17 h17
      simp only [pu]
      clear h16
      refine wpList_val (.func (.func 58) #[.agg (nums 3 (tri P.x P.y 1))] #[]) rfl (by refine lands_value (w := w17) ?_ h17; go_simp <;> rfl) ?_
      intro w18 h18
      simp only [pu]
      clear h17
      refine wpList_val (.int .i64 (k : Int)) rfl (by refine lands_value (w := w18) ?_ h18; go_simp <;> rfl) ?_
      intro w19 h19
      simp only [pu]
      clear h18
      refine wpList_val (.pointer (some ⟨g4, 4 * (3 * k), none⟩)) rfl (by refine lands_value (w := w19) ?_ h19; go_simp; rw [if_pos (by omega), show k * 12 = 4 * (3 * k) by omega]) ?_
      intro w20 h20
      simp only [pu]
      clear h19
      refine wpList_val (.agg (nums 3 (tri ((mulQ P k).x) ((mulQ P k).y) ((mulQ P k).z)))) rfl (by rw [← tab_at P k k (Nat.le_refl _)]; exact lands_nums (3 * k) 3 _ _ rfl _ 48 _ rfl _ (h20.blk _ m0) (by omega) _ Tryz.underlying74 rfl (by kernel_rfl) h20) ?_
      intro w21 h21
      simp only [pu]
      clear h20
      refine wpList_val (.agg (nums 3 (tri ((R3.plus (R3.mk P.x P.y 1) (mulQ P k)).x) ((R3.plus (R3.mk P.x P.y 1) (mulQ P k)).y) ((R3.plus (R3.mk P.x P.y 1) (mulQ P k)).z)))) rfl (by exact lands_calls (w := w21) ((qplus_any (R3.mk P.x P.y 1) ⟨hP.x, hP.y, (show 1 < M256 by decide)⟩ (mulQ P k) (mulQ_ok P k) w21).mono fun _ _ ⟨he, hb⟩ => ⟨he, h21.below hb⟩) (by go_simp)) ?_
      intro w22 h22
      simp only [pu]
      clear h21
      refine wpList_val (.pointer (some ⟨g4, 4 * (3 * (k + 1)), none⟩)) rfl (by refine lands_value (w := w22) ?_ h22; go_simp; rw [if_pos (by omega), show (k + 1) * 12 = 4 * (3 * (k + 1)) by omega]) ?_
      intro w23 h23
      simp only [pu]
      clear h22
      refine wpList_val (R := KD w.heap.size w [(g4, 77, nums 48 (tab P (k + 1))), (w.heap.size, 42, nums 2 (two P.x P.y))]) undef rfl (lands_store_nums (3 * (k + 1)) 3 _ _ _ rfl g4 48 (tab P k) (tri ((R3.plus (R3.mk P.x P.y 1) (mulQ P k)).x) ((R3.plus (R3.mk P.x P.y 1) (mulQ P k)).y) ((R3.plus (R3.mk P.x P.y 1) (mulQ P k)).z)) rfl rfl _ (h23.blk _ m0) (by omega) (by kernel_rfl) (by rw [tab_next P k (R3.plus (R3.mk P.x P.y 1) (mulQ P k)) rfl]; exact h23.put (k := 0) rfl _)) ?_
      intro w24 h24
      simp only [Act.put]
      clear h23
      refine wpList_nil ?_
      go_wp2_with fail
      go_roundw
      case rel => exact ⟨k + 1, by omega, by go_num, h24⟩
      case measure => simp [intOf]; omega
    · obtain rfl : k = 15 := by omega
      repeat with_reducible (first | (apply wp_seq_k; intro _ _) | (go_at_K; go_step) | apply tn | apply wp_block | apply wp_skip | apply wp_exit | apply then_exit | apply block_normal | apply block_same | exact block_far rfl ?_)
      with_reducible apply wp_region_lit
      refine wpList_val (.bool false) rfl (by refine lands_value (w := wr) ?_ hr; go_simp) ?_
      intro w25 h25
      simp only [pu]
      clear hr
      refine wpList_nil ?_
      repeat with_reducible (first | (apply wp_seq_k; intro _ _) | (go_at_K; go_step) | apply tn | apply wp_block | apply wp_skip | apply wp_exit | apply then_exit | apply block_normal | apply block_same | exact block_far rfl ?_)
      refine wp_cond_false rfl ?_
      repeat with_reducible (first | (apply wp_seq_k; intro _ _) | (go_at_K; go_step) | apply tn | apply wp_block | apply wp_skip | apply wp_exit | apply then_exit | apply block_normal | apply block_same | exact block_far rfl ?_)
      with_reducible apply wp_region_lit
      refine wpList_val (.agg (nums 48 (tab P 15))) rfl (by exact lands_load _ _ rfl _ rfl _ _ _ (h25.blk _ m0) Tryz.underlying77 rfl (by kernel_rfl) h25) ?_
      intro w26 h26
      simp only [pu]
      clear h25
      refine wpList_val (R := KD w.heap.size w [(g4, 77, nums 48 (tab P 15)), (w.heap.size, 42, nums 2 (two P.x P.y))]) undef rfl (lands_store _ _ _ rfl g4 (nums 48 (tab P 15)) rfl rfl _ _ (h26.blk _ m0) (by kernel_rfl) (by kernel_rfl) (row_one fun _ => rfl) (h26.put (k := 0) rfl _)) ?_
      intro w27 h27
      simp only [pu]
      clear h26
      refine wpList_nil ?_
      repeat with_reducible (first | (apply wp_seq_k; intro _ _) | (go_at_K; go_step) | apply tn | apply wp_block | apply wp_skip | apply wp_exit | apply then_exit | apply block_normal | apply block_same | exact block_far rfl ?_)
      with_reducible apply wp_ret
      repeat (first | with_reducible apply then_ret | with_reducible apply block_ret)
      exact bodyPost_ret (results_cell_row rfl _ _ g4 77 (nums 48 (tab P 15)) (0, 0) _ rfl (h27.blk _ m0) Tryz.underlying77 rfl (by kernel_rfl)) rfl ⟨rfl, h27.b⟩
end Go.Proofs.YtggalphgnloneaaGreat
