/- some of law 5. (written by mkQ6.py) -/
import Derived.Test.YtehcigidjghddaaQCe
import Derived.Test.YtehcigidjghddaaQAp
namespace Go.Proofs.Ytehcigidjghddaa
open Go.RowKit
/-- What some answers. -/
def someV (s : ByteArray) : Pt := pmul bP (numV (s.extract 0 (min s.size 8)) 32)
set_option maxRecDepth 100000 in
set_option maxHeartbeats 400000 in
theorem some_no (s : ByteArray) (p : Pt) (w : World) :
    Calls Try.prog 11 #[.string s, .agg (nums 2 (two p.x p.y)), .bool false] w fun e w' => e = .returned (.agg (nums 2 (two (someV s).x (someV s).y))) ∧ Below w.heap.size w w' := by
  have HR : pmul (cnt bP) (numV (s.extract 0 (min s.size 8)) 32) = someV s := by rw [cnt_base]; rfl
  generalize someV s = R at HR ⊢
  generalize hn : min s.size 8 = n at HR
  have hns : n ≤ s.size := by omega
  have HN := Lib.hid hn
  clear hn
  go_enter Try.func11, Try.ntmps11
  repeat (first | (with_reducible apply wp_seq_k; intro _ _) | with_reducible apply wp_block | with_reducible apply wp_skip | with_reducible apply wp_exit | (go_at_K; go_step) | with_reducible apply then_normal | with_reducible apply then_exit | with_reducible apply block_normal | with_reducible apply block_same | with_reducible exact block_far rfl ?_)
  have h1 := KD.begin w
  with_reducible apply wp_region_lit
  refine wpList_val (R := KD w.heap.size w [(w.heap.size, 26, nums 2 (two p.x p.y))]) (.pointer (some ⟨w.heap.size, 0, none⟩)) rfl (lands_run2 (box_run _ _ _ rfl rfl _) (h1.add _ _)) ?_
  intro w2 h2
  simp only [Act.put, List.setIfInBounds_toArray, List.set_cons_zero, List.set_cons_succ]
  clear h1
  refine wpList_val (R := KD w.heap.size w [(w2.heap.size, 26, nums 2 (two 0 0)), (w.heap.size, 26, nums 2 (two p.x p.y))]) (.pointer (some ⟨w2.heap.size, 0, none⟩)) rfl (lands_run2 (alloc_run _ _ rfl zero_pt _) (h2.add _ _)) ?_
  intro w3 h3
  simp only [Act.put, List.setIfInBounds_toArray, List.set_cons_zero, List.set_cons_succ]
  clear h2
  generalize w2.heap.size = g4 at h3 ⊢
  refine wpList_nil ?_
  repeat (first | (with_reducible apply wp_seq_k; intro _ _) | with_reducible apply wp_block | with_reducible apply wp_skip | with_reducible apply wp_exit | (go_at_K; go_step) | with_reducible apply then_normal | with_reducible apply then_exit | with_reducible apply block_normal | with_reducible apply block_same | with_reducible exact block_far rfl ?_)
  with_reducible apply wp_region_lit
  refine wpList_val (R := KD w.heap.size w [(g4, 26, nums 2 (two 0 0)), (w.heap.size, 26, nums 2 (two p.x p.y))]) (.bool false) rfl (by refine lands_value (w := w3) ?_ h3; go_simp <;> rfl) ?_
  intro w5 h5
  simp only [Act.put, List.setIfInBounds_toArray, List.set_cons_zero, List.set_cons_succ]
  clear h3
  refine wpList_nil ?_
  repeat (first | (with_reducible apply wp_seq_k; intro _ _) | with_reducible apply wp_block | with_reducible apply wp_skip | with_reducible apply wp_exit | (go_at_K; go_step) | with_reducible apply then_normal | with_reducible apply then_exit | with_reducible apply block_normal | with_reducible apply block_same | with_reducible exact block_far rfl ?_)
  refine wp_cond_false rfl ?_
  repeat (first | (with_reducible apply wp_seq_k; intro _ _) | with_reducible apply wp_block | with_reducible apply wp_skip | with_reducible apply wp_exit | (go_at_K; go_step) | with_reducible apply then_normal | with_reducible apply then_exit | with_reducible apply block_normal | with_reducible apply block_same | with_reducible exact block_far rfl ?_)
  obtain ⟨n6, hn6⟩ : ∃ n, n = w5.heap.size := ⟨_, rfl⟩
  refine wp_region_anyE (KM w.heap.size n6 w (fun b _ => bif b then [(g4, 26, nums 2 (two R.x R.y)), (w.heap.size, 26, nums 2 (two p.x p.y))] else [(g4, 26, nums 2 (two 0 0)), (w.heap.size, 26, nums 2 (two p.x p.y))]) 7 1001 []) (fun _ => false) (by kernel_rfl) (KM.begin h5 hn6 (lows hn6 h5 (fun b _ => by cases b <;> simp only [cond_true, cond_false, List.map_cons, List.map_nil])) _) ?_
  refine anyE_take (i := 0) (.string s) rfl rfl (by kernel_rfl) (by kernel_rfl) (by kernel_rfl) (fun qv => ym_other rfl rfl (fun L wx hT => ?_)) ?_
  · refine lands_value (w := wx) ?_ hT; go_simp <;> rfl
  simp only [Act.put, List.setIfInBounds_toArray, List.set_cons_zero, List.set_cons_succ]
  refine anyE_take (i := 1) (.string s) rfl rfl (by kernel_rfl) (by kernel_rfl) (by kernel_rfl) (fun qv => ym_other rfl rfl (fun L wx hT => ?_)) ?_
  · refine lands_value (w := wx) ?_ hT; go_simp <;> rfl
  simp only [Act.put, List.setIfInBounds_toArray, List.set_cons_zero, List.set_cons_succ]
  refine anyE_take (i := 2) (.int .i64 (s.size : Int)) rfl rfl (by kernel_rfl) (by kernel_rfl) (by kernel_rfl) (fun qv => ym_other rfl rfl (fun L wx hT => ?_)) ?_
  · refine lands_value (w := wx) ?_ hT; go_simp
  simp only [Act.put, List.setIfInBounds_toArray, List.set_cons_zero, List.set_cons_succ]
  refine anyE_take (i := 3) (.int .i64 (n : Int)) rfl rfl (by kernel_rfl) (by kernel_rfl) (by kernel_rfl) (fun qv => ym_other rfl rfl (fun L wx hT => ?_)) ?_
  · have hm := HN.out; rw [← hm]; exact (lands_min (w := wx) _ s.size 8 rfl rfl rfl).weak fun _ e => e ▸ hT
  simp only [Act.put, List.setIfInBounds_toArray, List.set_cons_zero, List.set_cons_succ]
  refine anyE_take (i := 4) (.string (s.extract 0 n)) rfl rfl (by kernel_rfl) (by kernel_rfl) (by kernel_rfl) (fun qv => ym_other rfl rfl (fun L wx hT => ?_)) ?_
  · refine lands_value (w := wx) ?_ hT; go_simp
  simp only [Act.put, List.setIfInBounds_toArray, List.set_cons_zero, List.set_cons_succ]
  refine anyE_take (i := 5) (.agg (nums 2 (two bP.x bP.y))) rfl rfl (by kernel_rfl) (by kernel_rfl) (by kernel_rfl) (fun qv => ym_other rfl rfl (fun L wx hT => ?_)) ?_
  · exact lands_calls (w := wx) ((rbase_any wx).mono fun _ _ ⟨he, hb⟩ => ⟨he, hT.below hb⟩) (by go_simp)
  simp only [Act.put, List.setIfInBounds_toArray, List.set_cons_zero, List.set_cons_succ]
  refine anyE_take (i := 6) (.agg (nums 2 (two R.x R.y))) rfl rfl (by kernel_rfl) (by kernel_rfl) (by kernel_rfl) (fun qv => ym_other rfl rfl (fun L wx hT => ?_)) ?_
  · exact lands_calls (w := wx) ((rmul5_is (s.extract 0 n) bP R base_on.ok HR wx).mono fun _ _ ⟨he, hb⟩ => ⟨he, hT.below hb⟩) (by go_simp)
  simp only [Act.put, List.setIfInBounds_toArray, List.set_cons_zero, List.set_cons_succ]
  refine anyE_take (i := 7) undef rfl rfl (by kernel_rfl) (by kernel_rfl) (by kernel_rfl) (fun qv => ym_first (k := 0) _ _ _ (by kernel_rfl) rfl rfl rfl rfl (by kernel_rfl) (by kernel_rfl) (row_one fun _ => rfl) (fun _ => rfl) (fun _ => rfl)) ?_
  simp only [Act.put]
  refine anyE_done (by kernel_rfl) (fun qv w7 hK => ?_) _
  have hE := hK.outs (by kernel_rfl) (by kernel_rfl)  (b := true) (c := false) (by kernel_rfl) (by kernel_rfl)
  clear hK h5 hn6
  have h7 : KD w.heap.size w [(g4, 26, nums 2 (two R.x R.y)), (w.heap.size, 26, nums 2 (two p.x p.y))] w7 := hE.k
  clear hE
  clear n6
  clear qv
  repeat (first | (with_reducible apply wp_seq_k; intro _ _) | with_reducible apply wp_block | with_reducible apply wp_skip | with_reducible apply wp_exit | (go_at_K; go_step) | with_reducible apply then_normal | with_reducible apply then_exit | with_reducible apply block_normal | with_reducible apply block_same | with_reducible exact block_far rfl ?_)
  with_reducible apply wp_ret
  repeat (first | with_reducible apply then_ret | with_reducible apply block_ret)
  exact bodyPost_ret (results_cell_row rfl _ _ g4 26 (nums 2 (two R.x R.y)) (0, 0) _ rfl (h7.blk _ m0) Try.underlying26 rfl (by kernel_rfl)) rfl ⟨rfl, h7.b⟩
set_option maxRecDepth 100000 in
set_option maxHeartbeats 400000 in
theorem some_own (s : ByteArray) (p : Pt) (w : World) :
    Calls Try.prog 11 #[.string s, .agg (nums 2 (two p.x p.y)), .bool true] w fun e w' => e = .returned (.agg (nums 2 (two p.x p.y))) ∧ Below w.heap.size w w' := by
  go_enter Try.func11, Try.ntmps11
  repeat (first | (with_reducible apply wp_seq_k; intro _ _) | with_reducible apply wp_block | with_reducible apply wp_skip | with_reducible apply wp_exit | (go_at_K; go_step) | with_reducible apply then_normal | with_reducible apply then_exit | with_reducible apply block_normal | with_reducible apply block_same | with_reducible exact block_far rfl ?_)
  have h1 := KD.begin w
  with_reducible apply wp_region_lit
  refine wpList_val (R := KD w.heap.size w [(w.heap.size, 26, nums 2 (two p.x p.y))]) (.pointer (some ⟨w.heap.size, 0, none⟩)) rfl (lands_run2 (box_run _ _ _ rfl rfl _) (h1.add _ _)) ?_
  intro w2 h2
  simp only [Act.put, List.setIfInBounds_toArray, List.set_cons_zero, List.set_cons_succ]
  clear h1
  refine wpList_val (R := KD w.heap.size w [(w2.heap.size, 26, nums 2 (two 0 0)), (w.heap.size, 26, nums 2 (two p.x p.y))]) (.pointer (some ⟨w2.heap.size, 0, none⟩)) rfl (lands_run2 (alloc_run _ _ rfl zero_pt _) (h2.add _ _)) ?_
  intro w3 h3
  simp only [Act.put, List.setIfInBounds_toArray, List.set_cons_zero, List.set_cons_succ]
  clear h2
  generalize w2.heap.size = g4 at h3 ⊢
  refine wpList_nil ?_
  repeat (first | (with_reducible apply wp_seq_k; intro _ _) | with_reducible apply wp_block | with_reducible apply wp_skip | with_reducible apply wp_exit | (go_at_K; go_step) | with_reducible apply then_normal | with_reducible apply then_exit | with_reducible apply block_normal | with_reducible apply block_same | with_reducible exact block_far rfl ?_)
  with_reducible apply wp_region_lit
  refine wpList_val (R := KD w.heap.size w [(g4, 26, nums 2 (two 0 0)), (w.heap.size, 26, nums 2 (two p.x p.y))]) (.bool true) rfl (by refine lands_value (w := w3) ?_ h3; go_simp <;> rfl) ?_
  intro w5 h5
  simp only [Act.put, List.setIfInBounds_toArray, List.set_cons_zero, List.set_cons_succ]
  clear h3
  refine wpList_nil ?_
  repeat (first | (with_reducible apply wp_seq_k; intro _ _) | with_reducible apply wp_block | with_reducible apply wp_skip | with_reducible apply wp_exit | (go_at_K; go_step) | with_reducible apply then_normal | with_reducible apply then_exit | with_reducible apply block_normal | with_reducible apply block_same | with_reducible exact block_far rfl ?_)
  refine wp_cond_true rfl ?_
  repeat (first | (with_reducible apply wp_seq_k; intro _ _) | with_reducible apply wp_block | with_reducible apply wp_skip | with_reducible apply wp_exit | (go_at_K; go_step) | with_reducible apply then_normal | with_reducible apply then_exit | with_reducible apply block_normal | with_reducible apply block_same | with_reducible exact block_far rfl ?_)
  with_reducible apply wp_region_lit
  refine wpList_val (R := KD w.heap.size w [(g4, 26, nums 2 (two 0 0)), (w.heap.size, 26, nums 2 (two p.x p.y))]) (.agg (nums 2 (two p.x p.y))) rfl (by exact lands_load _ _ rfl _ rfl _ _ _ (h5.blk _ m1) Try.underlying26 rfl (by kernel_rfl) h5) ?_
  intro w6 h6
  simp only [Act.put, List.setIfInBounds_toArray, List.set_cons_zero, List.set_cons_succ]
  clear h5
  refine wpList_val (R := KD w.heap.size w [(g4, 26, nums 2 (two p.x p.y)), (w.heap.size, 26, nums 2 (two p.x p.y))]) undef rfl (lands_store _ _ _ rfl g4 (nums 2 (two p.x p.y)) rfl rfl _ _ (h6.blk _ m0) (by kernel_rfl) (by kernel_rfl) (row_one fun _ => rfl) (h6.put (k := 0) rfl _)) ?_
  intro w7 h7
  simp only [Act.put]
  clear h6
  refine wpList_nil ?_
  repeat (first | (with_reducible apply wp_seq_k; intro _ _) | with_reducible apply wp_block | with_reducible apply wp_skip | with_reducible apply wp_exit | (go_at_K; go_step) | with_reducible apply then_normal | with_reducible apply then_exit | with_reducible apply block_normal | with_reducible apply block_same | with_reducible exact block_far rfl ?_)
  with_reducible apply wp_ret
  repeat (first | with_reducible apply then_ret | with_reducible apply block_ret)
  exact bodyPost_ret (results_cell_row rfl _ _ g4 26 (nums 2 (two p.x p.y)) (0, 0) _ rfl (h7.blk _ m0) Try.underlying26 rfl (by kernel_rfl)) rfl ⟨rfl, h7.b⟩
/-- What some answers. -/
def someX (s : ByteArray) (p : Pt) (a : Bool) : Pt := if a = true then p else someV s
theorem someX_ok (s : ByteArray) {p : Pt} (hp : p.ok) (a : Bool) : (someX s p a).ok := by
  unfold someX; split
  · exact hp
  · exact (pmul_on base_on _).ok
theorem some_is (s : ByteArray) (p : Pt) (a : Bool) (X : Pt) (h : someX s p a = X) (w : World) :
    Calls Try.prog 11 #[.string s, .agg (nums 2 (two p.x p.y)), .bool a] w fun e w' => e = .returned (.agg (nums 2 (two X.x X.y))) ∧ Below w.heap.size w w' := by
  subst h
  unfold someX
  cases a with
  | true => rw [if_pos rfl]; exact some_own s p w
  | false => rw [if_neg (by decide)]; exact some_no s p w
end Go.Proofs.Ytehcigidjghddaa
