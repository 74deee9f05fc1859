/- The layer point: multiples. (written by mkQ2.py) -/
import Derived.Test.YtggalphgnloneaaGreatQe
namespace Go.Proofs.YtggalphgnloneaaGreat
open Go.RowKit
set_option maxRecDepth 100000 in
set_option maxHeartbeats 4000000 in
theorem qmultiples_any (P : Pt) (hP : P.ok) (w : World) :
    Calls Tryz.prog 60 #[.agg (nums 2 (two P.x P.y))] w fun e w' => e = .returned (.agg (nums 48 (tab P 15))) ∧ Below w.heap.size w w' := by
  go_enter Tryz.func60, Tryz.ntmps60
  with_reducible (apply wp_seq_k; intro _ _)
  have h1 := KD.begin w
  with_reducible apply wp_region_lit
  refine wA h1 (box_run _ _ _ rfl rfl _) fun w2 h2 => ?_
  simp only [pu]
  clear h1
  refine wA h2 (alloc_run _ _ rfl zero_tab _) fun w3 h3 => ?_
  simp only [pu]
  clear h2
  generalize w2.heap.size = g4 at h3 ⊢
  refine wpList_nil ?_
  with_reducible (apply tn; go_at_K; go_step; apply wp_seq_k; intro _ _)
  with_reducible apply wp_region_lit
  refine wC h3 (qzero_any w3) fun w5 h5 => ?_
  simp only [pu]
  clear h3
  refine wC h5 (qlifted_any pZ w5) fun w6 h6 => ?_
  simp only [pu]
  clear h5
  refine wV (.pointer (some ⟨g4, 0, none⟩)) ?_
  simp only [pu]
  refine wpList_val (R := KD w.heap.size w [(g4, 77, nums 48 (tab P 0)), (w.heap.size, 42, nums 2 (two P.x P.y))]) undef rfl (lands_store_nums (0) 3 _ _ _ rfl g4 48 (fun _ => 0) (tri pZ.x pZ.y 1) rfl rfl _ (h6.blk _ m0) (by omega) (by kernel_rfl) (by rw [tab_zero P]; exact h6.put (k := 0) rfl _)) ?_
  intro w7 h7
  simp only [Act.put]
  clear h6
  refine wpList_nil ?_
  with_reducible (apply tn; go_at_K; go_step; apply wp_seq_k; intro _ _)
  with_reducible apply wp_region_lit
  refine wL (.agg (nums 2 (two P.x P.y))) (by exact lands_load _ _ rfl _ rfl _ _ _ (h7.blk _ m1) Tryz.underlying42 rfl (by kernel_rfl) rfl) ?_
  simp only [pu]
  refine wC h7 (qlifted_any P w7) fun w8 h8 => ?_
  simp only [pu]
  clear h7
  refine wV (.func (.func 58) #[.agg (nums 3 (tri P.x P.y 1))] #[]) ?_
  simp only [pu]
  refine wV (.func (.func 58) #[.agg (nums 3 (tri P.x P.y 1))] #[]) ?_
  simp only [pu]
  refine wpList_nil ?_
  with_reducible (apply tn; go_at_K; go_step; apply wp_seq_k; intro _ _; apply wp_seq_k; intro _ _)
  go_wp2_with fail
  go_loopw [11] (fun i wr => ∃ k : Nat, k ≤ 15 ∧ i = .int .i64 (k : Int) ∧ KD w.heap.size w [(g4, 77, nums 48 (tab P k)), (w.heap.size, 42, nums 2 (two P.x P.y))] wr) (fun i _ => 15 - (intOf i).toNat)
  case atStart => exact ⟨0, by omega, rfl, h8⟩
  case round =>
    obtain ⟨k, hk, rfl, hr⟩ := hrel
    clear h8
    by_cases hlt : k < 15
    · have hlt' : (k : Int) < 15 := by omega
      have hlo : ¬ (k : Int) < 0 := by omega
      with_reducible (apply wp_seq_k; intro _ _)
      with_reducible apply wp_region_lit
      refine wV (.bool true) ?_
      simp only [pu]
      refine wpList_nil ?_
      with_reducible (apply tn; go_at_K; go_step; apply wp_seq_k; intro _ _)
      refine wp_cond_true rfl ?_
      with_reducible (apply wp_skip; apply tn; go_at_K; go_step; apply wp_seq_k; intro _ _; apply wp_block; apply wp_seq_k; intro _ _)
      with_reducible apply wp_region_lit
      refine wV (.int .i64 (k : Int)) ?_
      simp only [pu]
      refine wV (.int .i64 (k : Int)) ?_
      simp only [pu]
      refine wpList_nil ?_
      with_reducible (apply tn; go_at_K; go_step)
      with_reducible apply wp_region_lit
      refine wV (.int .i64 (k : Int)) ?_
      simp only [pu]
      refine wL (.int .i64 ((k + 1 : Nat) : Int)) (by refine lands_value (w := wr) ?_ rfl; go_simp; rw [IntWalk.i64_in _ (by omega)]) ?_
      simp only [pu]
      refine wV (.func (.func 58) #[.agg (nums 3 (tri P.x P.y 1))] #[]) ?_
      simp only [pu]
      refine wV (.int .i64 (k : Int)) ?_
      simp only [pu]
      refine wL (.pointer (some ⟨g4, 4 * (3 * k), none⟩)) (by refine lands_value (w := wr) ?_ rfl; go_simp; rw [if_pos (by omega), show k * 12 = 4 * (3 * k) by omega]) ?_
      simp only [pu]
      refine wL (.agg (nums 3 (tri ((mulQ P k).x) ((mulQ P k).y) ((mulQ P k).z)))) (by rw [← tab_at P k k (Nat.le_refl _)]; exact lands_nums (3 * k) 3 _ _ rfl _ 48 _ rfl _ (hr.blk _ m0) (by omega) _ Tryz.underlying74 rfl (by kernel_rfl) rfl) ?_
      simp only [pu]
      refine wpList_val (.agg (nums 3 (tri ((R3.plus (R3.mk P.x P.y 1) (mulQ P k)).x) ((R3.plus (R3.mk P.x P.y 1) (mulQ P k)).y) ((R3.plus (R3.mk P.x P.y 1) (mulQ P k)).z)))) rfl (by exact lands_calls (w := wr) ((qplus_any (R3.mk P.x P.y 1) ⟨hP.x, hP.y, (show 1 < M256 by decide)⟩ (mulQ P k) (mulQ_ok P k) wr).mono fun _ _ ⟨he, hb⟩ => ⟨he, hr.below hb⟩) (by go_simp)) ?_
      intro w9 h9
      simp only [pu]
      clear hr
      refine wL (.pointer (some ⟨g4, 4 * (3 * (k + 1)), none⟩)) (by refine lands_value (w := w9) ?_ rfl; go_simp; rw [if_pos (by omega), show (k + 1) * 12 = 4 * (3 * (k + 1)) by omega]) ?_
      simp only [pu]
      refine wpList_val (R := KD w.heap.size w [(g4, 77, nums 48 (tab P (k + 1))), (w.heap.size, 42, nums 2 (two P.x P.y))]) undef rfl (lands_store_nums (3 * (k + 1)) 3 _ _ _ rfl g4 48 (tab P k) (tri ((R3.plus (R3.mk P.x P.y 1) (mulQ P k)).x) ((R3.plus (R3.mk P.x P.y 1) (mulQ P k)).y) ((R3.plus (R3.mk P.x P.y 1) (mulQ P k)).z)) rfl rfl _ (h9.blk _ m0) (by omega) (by kernel_rfl) (by rw [tab_next P k (R3.plus (R3.mk P.x P.y 1) (mulQ P k)) rfl]; exact h9.put (k := 0) rfl _)) ?_
      intro w10 h10
      simp only [Act.put]
      clear h9
      refine wpList_nil ?_
      go_wp2_with fail
      go_roundw
      case rel => exact ⟨k + 1, by omega, by go_num, h10⟩
      case measure => simp [intOf]; omega
    · obtain rfl : k = 15 := by omega
      with_reducible (apply wp_seq_k; intro _ _)
      with_reducible apply wp_region_lit
      refine wV (.bool false) ?_
      simp only [pu]
      refine wpList_nil ?_
      with_reducible (apply tn; go_at_K; go_step; apply wp_seq_k; intro _ _)
      refine wp_cond_false rfl ?_
      with_reducible (apply wp_exit; apply then_exit; apply then_exit; apply block_same; go_at_K; go_step; apply tn; go_at_K; go_step; apply wp_seq_k; intro _ _)
      with_reducible apply wp_region_lit
      refine wL (.agg (nums 48 (tab P 15))) (by exact lands_load _ _ rfl _ rfl _ _ _ (hr.blk _ m0) Tryz.underlying77 rfl (by kernel_rfl) rfl) ?_
      simp only [pu]
      refine wpList_val (R := KD w.heap.size w [(g4, 77, nums 48 (tab P 15)), (w.heap.size, 42, nums 2 (two P.x P.y))]) undef rfl (lands_store _ _ _ rfl g4 (nums 48 (tab P 15)) rfl rfl _ _ (hr.blk _ m0) (by kernel_rfl) (by kernel_rfl) (row_one fun _ => rfl) (hr.put (k := 0) rfl _)) ?_
      intro w11 h11
      simp only [pu]
      clear hr
      refine wpList_nil ?_
      with_reducible (apply tn; go_at_K; go_step)
      with_reducible apply wp_ret
      repeat (first | with_reducible apply then_ret | with_reducible apply block_ret)
      exact bodyPost_ret (results_cell_row rfl _ _ g4 77 (nums 48 (tab P 15)) (0, 0) _ rfl (h11.blk _ m0) Tryz.underlying77 rfl (by kernel_rfl)) rfl ⟨rfl, h11.b⟩
end Go.Proofs.YtggalphgnloneaaGreat
