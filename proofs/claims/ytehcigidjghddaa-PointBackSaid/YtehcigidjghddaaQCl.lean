/- least of law 5. (written by mkQ6.py) -/
import Derived.Test.YtehcigidjghddaaQCe
import Derived.Test.YtehcigidjghddaaQAm
namespace Go.Proofs.Ytehcigidjghddaa
open Go.RowKit
/-- What least answers. -/
def leastV (s : ByteArray) : Pt := pmul bP (numV (s.extract 0 (min s.size 4)) 32)
set_option maxRecDepth 100000 in
set_option maxHeartbeats 400000 in
theorem least_any (s : ByteArray) (w : World) :
    Calls Try.prog 28 #[.string s] w fun e w' => e = .returned (.agg (nums 2 (two (leastV s).x (leastV s).y))) ∧ Below w.heap.size w w' := by
  have HR : pmul (cnt bP) (numV (s.extract 0 (min s.size 4)) 32) = leastV s := by rw [cnt_base]; rfl
  generalize leastV s = R at HR ⊢
  generalize hn : min s.size 4 = n at HR
  have hns : n ≤ s.size := by omega
  have HN := Lib.hid hn
  clear hn
  go_enter Try.func28, Try.ntmps28
  repeat (first | (with_reducible apply wp_seq_k; intro _ _) | with_reducible apply wp_block | with_reducible apply wp_skip | with_reducible apply wp_exit | (go_at_K; go_step) | with_reducible apply then_normal | with_reducible apply then_exit | with_reducible apply block_normal | with_reducible apply block_same | with_reducible exact block_far rfl ?_)
  have h1 := KD.begin w
  with_reducible apply wp_region_lit
  refine wpList_val (R := KD w.heap.size w [(w.heap.size, 26, nums 2 (two 0 0))]) (.pointer (some ⟨w.heap.size, 0, none⟩)) rfl (lands_run2 (alloc_run _ _ rfl zero_pt _) (h1.add _ _)) ?_
  intro w2 h2
  simp only [Act.put, List.setIfInBounds_toArray, List.set_cons_zero, List.set_cons_succ]
  clear h1
  refine wpList_nil ?_
  repeat (first | (with_reducible apply wp_seq_k; intro _ _) | with_reducible apply wp_block | with_reducible apply wp_skip | with_reducible apply wp_exit | (go_at_K; go_step) | with_reducible apply then_normal | with_reducible apply then_exit | with_reducible apply block_normal | with_reducible apply block_same | with_reducible exact block_far rfl ?_)
  obtain ⟨n3, hn3⟩ : ∃ n, n = w2.heap.size := ⟨_, rfl⟩
  refine wp_region_anyE (KM w.heap.size n3 w (fun b _ => bif b then [(w.heap.size, 26, nums 2 (two R.x R.y))] else [(w.heap.size, 26, nums 2 (two 0 0))]) 7 1001 []) (fun _ => false) (by kernel_rfl) (KM.begin h2 hn3 (lows hn3 h2 (fun b _ => by cases b <;> simp only [cond_true, cond_false, List.map_cons, List.map_nil])) _) ?_
  refine anyE_take (i := 0) (.string s) rfl rfl (by kernel_rfl) (by kernel_rfl) (by kernel_rfl) (fun qv => ym_other rfl rfl (fun L wx hT => ?_)) ?_
  · refine lands_value (w := wx) ?_ hT; go_simp <;> rfl
  simp only [Act.put, List.setIfInBounds_toArray, List.set_cons_zero, List.set_cons_succ]
  refine anyE_take (i := 1) (.string s) rfl rfl (by kernel_rfl) (by kernel_rfl) (by kernel_rfl) (fun qv => ym_other rfl rfl (fun L wx hT => ?_)) ?_
  · refine lands_value (w := wx) ?_ hT; go_simp <;> rfl
  simp only [Act.put, List.setIfInBounds_toArray, List.set_cons_zero, List.set_cons_succ]
  refine anyE_take (i := 2) (.int .i64 (s.size : Int)) rfl rfl (by kernel_rfl) (by kernel_rfl) (by kernel_rfl) (fun qv => ym_other rfl rfl (fun L wx hT => ?_)) ?_
  · refine lands_value (w := wx) ?_ hT; go_simp
  simp only [Act.put, List.setIfInBounds_toArray, List.set_cons_zero, List.set_cons_succ]
  refine anyE_take (i := 3) (.int .i64 (n : Int)) rfl rfl (by kernel_rfl) (by kernel_rfl) (by kernel_rfl) (fun qv => ym_other rfl rfl (fun L wx hT => ?_)) ?_
  · have hm := HN.out; rw [← hm]; exact (lands_min (w := wx) _ s.size 4 rfl rfl rfl).weak fun _ e => e ▸ hT
  simp only [Act.put, List.setIfInBounds_toArray, List.set_cons_zero, List.set_cons_succ]
  refine anyE_take (i := 4) (.string (s.extract 0 n)) rfl rfl (by kernel_rfl) (by kernel_rfl) (by kernel_rfl) (fun qv => ym_other rfl rfl (fun L wx hT => ?_)) ?_
  · refine lands_value (w := wx) ?_ hT; go_simp
  simp only [Act.put, List.setIfInBounds_toArray, List.set_cons_zero, List.set_cons_succ]
  refine anyE_take (i := 5) (.agg (nums 2 (two bP.x bP.y))) rfl rfl (by kernel_rfl) (by kernel_rfl) (by kernel_rfl) (fun qv => ym_other rfl rfl (fun L wx hT => ?_)) ?_
  · exact lands_calls (w := wx) ((qbase_any wx).mono fun _ _ ⟨he, hb⟩ => ⟨he, hT.below hb⟩) (by go_simp)
  simp only [Act.put, List.setIfInBounds_toArray, List.set_cons_zero, List.set_cons_succ]
  refine anyE_take (i := 6) (.agg (nums 2 (two R.x R.y))) rfl rfl (by kernel_rfl) (by kernel_rfl) (by kernel_rfl) (fun qv => ym_other rfl rfl (fun L wx hT => ?_)) ?_
  · exact lands_calls (w := wx) ((mul_is (s.extract 0 n) bP R base_on.ok HR wx).mono fun _ _ ⟨he, hb⟩ => ⟨he, hT.below hb⟩) (by go_simp)
  simp only [Act.put, List.setIfInBounds_toArray, List.set_cons_zero, List.set_cons_succ]
  refine anyE_take (i := 7) undef rfl rfl (by kernel_rfl) (by kernel_rfl) (by kernel_rfl) (fun qv => ym_first (k := 0) _ _ _ (by kernel_rfl) rfl rfl rfl rfl (by kernel_rfl) (by kernel_rfl) (row_one fun _ => rfl) (fun _ => rfl) (fun _ => rfl)) ?_
  simp only [Act.put]
  refine anyE_done (by kernel_rfl) (fun qv w4 hK => ?_) _
  have hE := hK.outs (by kernel_rfl) (by kernel_rfl)  (b := true) (c := false) (by kernel_rfl) (by kernel_rfl)
  clear hK h2 hn3
  have h4 : KD w.heap.size w [(w.heap.size, 26, nums 2 (two R.x R.y))] w4 := hE.k
  clear hE
  clear n3
  clear qv
  repeat (first | (with_reducible apply wp_seq_k; intro _ _) | with_reducible apply wp_block | with_reducible apply wp_skip | with_reducible apply wp_exit | (go_at_K; go_step) | with_reducible apply then_normal | with_reducible apply then_exit | with_reducible apply block_normal | with_reducible apply block_same | with_reducible exact block_far rfl ?_)
  with_reducible apply wp_ret
  repeat (first | with_reducible apply then_ret | with_reducible apply block_ret)
  exact bodyPost_ret (results_cell_row rfl _ _ w.heap.size 26 (nums 2 (two R.x R.y)) (0, 0) _ rfl (h4.blk _ m0) Try.underlying26 rfl (by kernel_rfl)) rfl ⟨rfl, h4.b⟩
end Go.Proofs.Ytehcigidjghddaa
