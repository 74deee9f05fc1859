/- PointAdds: the walk. (written by mkQ6.py) -/
import Derived.Test.YtehcigidjghddaaQCs
import Derived.Test.YtehcigidjghddaaQAr
namespace Go.Proofs.Ytehcigidjghddaa
open Go.RowKit
set_option maxRecDepth 100000 in
set_option maxHeartbeats 4000000 in
theorem adds_any (s t : ByteArray) (p q : Pt) (hp : p.ok) (hq : q.ok) (a b : Bool) (w : World) :
    Calls Try.prog 3 #[.string s, .string t, .agg (nums 2 (two p.x p.y)), .agg (nums 2 (two q.x q.y)), .bool a, .bool b] w fun e w' => e = .returned (.bool true) ∧ Below w.heap.size w w' := by
  obtain ⟨X, hX⟩ : ∃ z, someX s p a = z := ⟨_, rfl⟩
  have oX : X.ok := hX ▸ someX_ok s hp a
  have CX := Lib.hid (some_is s p a X hX)
  clear hX
  obtain ⟨Y, hY⟩ : ∃ z, someX t q b = z := ⟨_, rfl⟩
  have oY : Y.ok := hY ▸ someX_ok t hq b
  have CY := Lib.hid (some_is t q b Y hY)
  clear hY
  obtain ⟨R, hR⟩ : ∃ z, padd (cnt X) (cnt Y) = z := ⟨_, rfl⟩
  have oR : R.ok := hR ▸ (padd_on (cnt_C X) (cnt_C Y)).ok
  have HR := Lib.hid hR
  clear hR
  obtain ⟨N, hN⟩ : ∃ z, pneg (cnt X) = z := ⟨_, rfl⟩
  have oN : N.ok := hN ▸ (pneg_on (cnt_C X)).ok
  have HN := Lib.hid hN
  clear hN
  obtain ⟨c, d, hE⟩ : ∃ c d, encV X = (c, d) := ⟨_, _, rfl⟩
  have HE := Lib.hid hE
  clear hE
  obtain ⟨o, hO⟩ : ∃ z, onB X = z := ⟨_, rfl⟩
  have HO := Lib.hid hO
  clear hO
  go_enter Try.func3, Try.ntmps3
  repeat (first | (with_reducible apply wp_seq_k; intro _ _) | with_reducible apply wp_block | with_reducible apply wp_skip | with_reducible apply wp_exit | (go_at_K; go_step) | with_reducible apply then_normal | with_reducible apply then_exit | with_reducible apply block_normal | with_reducible apply block_same | with_reducible exact block_far rfl ?_)
  have h1 := KD.begin w
  with_reducible apply wp_region_lit
  refine wpList_val (R := KD w.heap.size w [(w.heap.size, 26, nums 2 (two p.x p.y))]) (.pointer (some ⟨w.heap.size, 0, none⟩)) rfl (lands_run2 (box_run _ _ _ rfl rfl _) (h1.add _ _)) ?_
  intro w2 h2
  simp only [Act.put, List.setIfInBounds_toArray, List.set_cons_zero, List.set_cons_succ]
  clear h1
  refine wpList_val (R := KD w.heap.size w [(w2.heap.size, 26, nums 2 (two q.x q.y)), (w.heap.size, 26, nums 2 (two p.x p.y))]) (.pointer (some ⟨w2.heap.size, 0, none⟩)) rfl (lands_run2 (box_run _ _ _ rfl rfl _) (h2.add _ _)) ?_
  intro w3 h3
  simp only [Act.put, List.setIfInBounds_toArray, List.set_cons_zero, List.set_cons_succ]
  clear h2
  generalize w2.heap.size = g4 at h3 ⊢
  refine wpList_val (R := KD w.heap.size w [(g4, 26, nums 2 (two q.x q.y)), (w.heap.size, 26, nums 2 (two p.x p.y))]) (.bool false) rfl (by refine lands_value (w := w3) ?_ h3; go_simp <;> rfl) ?_
  intro w5 h5
  simp only [Act.put, List.setIfInBounds_toArray, List.set_cons_zero, List.set_cons_succ]
  clear h3
  refine wpList_nil ?_
  repeat (first | (with_reducible apply wp_seq_k; intro _ _) | with_reducible apply wp_block | with_reducible apply wp_skip | with_reducible apply wp_exit | (go_at_K; go_step) | with_reducible apply then_normal | with_reducible apply then_exit | with_reducible apply block_normal | with_reducible apply block_same | with_reducible exact block_far rfl ?_)
  with_reducible apply wp_region_lit
  refine wpList_val (R := KD w.heap.size w [(g4, 26, nums 2 (two q.x q.y)), (w.heap.size, 26, nums 2 (two p.x p.y))]) (.bool true) rfl (by exact lands_calls (w := w5) ((examples_any w5).mono fun _ _ ⟨he, hb⟩ => ⟨he, h5.below hb⟩) (by go_simp)) ?_
  intro w6 h6
  simp only [Act.put, List.setIfInBounds_toArray, List.set_cons_zero, List.set_cons_succ]
  clear h5
  refine wpList_val (R := KD w.heap.size w [(g4, 26, nums 2 (two q.x q.y)), (w.heap.size, 26, nums 2 (two p.x p.y))]) (.bool true) rfl (by refine lands_value (w := w6) ?_ h6; go_simp <;> rfl) ?_
  intro w7 h7
  simp only [Act.put, List.setIfInBounds_toArray, List.set_cons_zero, List.set_cons_succ]
  clear h6
  refine wpList_nil ?_
  repeat (first | (with_reducible apply wp_seq_k; intro _ _) | with_reducible apply wp_block | with_reducible apply wp_skip | with_reducible apply wp_exit | (go_at_K; go_step) | with_reducible apply then_normal | with_reducible apply then_exit | with_reducible apply block_normal | with_reducible apply block_same | with_reducible exact block_far rfl ?_)
  with_reducible apply wp_region_lit
  refine wpList_val (R := KD w.heap.size w [(g4, 26, nums 2 (two q.x q.y)), (w.heap.size, 26, nums 2 (two p.x p.y))]) (.bool true) rfl (by refine lands_value (w := w7) ?_ h7; go_simp <;> rfl) ?_
  intro w8 h8
  simp only [Act.put, List.setIfInBounds_toArray, List.set_cons_zero, List.set_cons_succ]
  clear h7
  refine wpList_val (R := KD w.heap.size w [(g4, 26, nums 2 (two q.x q.y)), (w.heap.size, 26, nums 2 (two p.x p.y))]) (.bool false) rfl (by refine lands_value (w := w8) ?_ h8; go_simp <;> rfl) ?_
  intro w9 h9
  simp only [Act.put, List.setIfInBounds_toArray, List.set_cons_zero, List.set_cons_succ]
  clear h8
  refine wpList_nil ?_
  repeat (first | (with_reducible apply wp_seq_k; intro _ _) | with_reducible apply wp_block | with_reducible apply wp_skip | with_reducible apply wp_exit | (go_at_K; go_step) | with_reducible apply then_normal | with_reducible apply then_exit | with_reducible apply block_normal | with_reducible apply block_same | with_reducible exact block_far rfl ?_)
  refine wp_cond_false rfl ?_
  repeat (first | (with_reducible apply wp_seq_k; intro _ _) | with_reducible apply wp_block | with_reducible apply wp_skip | with_reducible apply wp_exit | (go_at_K; go_step) | with_reducible apply then_normal | with_reducible apply then_exit | with_reducible apply block_normal | with_reducible apply block_same | with_reducible exact block_far rfl ?_)
  with_reducible apply wp_region_lit
  refine wpList_val (R := KD w.heap.size w [(g4, 26, nums 2 (two q.x q.y)), (w.heap.size, 26, nums 2 (two p.x p.y))]) (.string s) rfl (by refine lands_value (w := w9) ?_ h9; go_simp <;> rfl) ?_
  intro w10 h10
  simp only [Act.put, List.setIfInBounds_toArray, List.set_cons_zero, List.set_cons_succ]
  clear h9
  refine wpList_val (R := KD w.heap.size w [(g4, 26, nums 2 (two q.x q.y)), (w.heap.size, 26, nums 2 (two p.x p.y))]) (.agg (nums 2 (two p.x p.y))) rfl (by exact lands_load _ _ rfl _ rfl _ _ _ (h10.blk _ m1) Try.underlying26 rfl (by kernel_rfl) h10) ?_
  intro w11 h11
  simp only [Act.put, List.setIfInBounds_toArray, List.set_cons_zero, List.set_cons_succ]
  clear h10
  refine wpList_val (R := KD w.heap.size w [(g4, 26, nums 2 (two q.x q.y)), (w.heap.size, 26, nums 2 (two p.x p.y))]) (.bool a) rfl (by refine lands_value (w := w11) ?_ h11; go_simp <;> rfl) ?_
  intro w12 h12
  simp only [Act.put, List.setIfInBounds_toArray, List.set_cons_zero, List.set_cons_succ]
  clear h11
  refine wpList_val (R := KD w.heap.size w [(g4, 26, nums 2 (two q.x q.y)), (w.heap.size, 26, nums 2 (two p.x p.y))]) (.agg (nums 2 (two X.x X.y))) rfl (by exact lands_calls (w := w12) ((CX.out w12).mono fun _ _ ⟨he, hb⟩ => ⟨he, h12.below hb⟩) (by go_simp)) ?_
  intro w13 h13
  simp only [Act.put, List.setIfInBounds_toArray, List.set_cons_zero, List.set_cons_succ]
  clear h12
  refine wpList_val (R := KD w.heap.size w [(w13.heap.size, 26, nums 2 (two 0 0)), (g4, 26, nums 2 (two q.x q.y)), (w.heap.size, 26, nums 2 (two p.x p.y))]) (.pointer (some ⟨w13.heap.size, 0, none⟩)) rfl (lands_run2 (alloc_run _ _ rfl zero_pt _) (h13.add _ _)) ?_
  intro w14 h14
  simp only [Act.put, List.setIfInBounds_toArray, List.set_cons_zero, List.set_cons_succ]
  clear h13
  generalize w13.heap.size = g15 at h14 ⊢
  refine wpList_val (R := KD w.heap.size w [(g15, 26, nums 2 (two X.x X.y)), (g4, 26, nums 2 (two q.x q.y)), (w.heap.size, 26, nums 2 (two p.x p.y))]) undef rfl (lands_store _ _ _ rfl g15 (nums 2 (two X.x X.y)) rfl rfl _ _ (h14.blk _ m0) (by kernel_rfl) (by kernel_rfl) (row_one fun _ => rfl) (h14.put (k := 0) rfl _)) ?_
  intro w16 h16
  simp only [Act.put]
  clear h14
  refine wpList_nil ?_
  repeat (first | (with_reducible apply wp_seq_k; intro _ _) | with_reducible apply wp_block | with_reducible apply wp_skip | with_reducible apply wp_exit | (go_at_K; go_step) | with_reducible apply then_normal | with_reducible apply then_exit | with_reducible apply block_normal | with_reducible apply block_same | with_reducible exact block_far rfl ?_)
  with_reducible apply wp_region_lit
  refine wpList_val (R := KD w.heap.size w [(g15, 26, nums 2 (two X.x X.y)), (g4, 26, nums 2 (two q.x q.y)), (w.heap.size, 26, nums 2 (two p.x p.y))]) (.string t) rfl (by refine lands_value (w := w16) ?_ h16; go_simp <;> rfl) ?_
  intro w17 h17
  simp only [Act.put, List.setIfInBounds_toArray, List.set_cons_zero, List.set_cons_succ]
  clear h16
  refine wpList_val (R := KD w.heap.size w [(g15, 26, nums 2 (two X.x X.y)), (g4, 26, nums 2 (two q.x q.y)), (w.heap.size, 26, nums 2 (two p.x p.y))]) (.agg (nums 2 (two q.x q.y))) rfl (by exact lands_load _ _ rfl _ rfl _ _ _ (h17.blk _ m1) Try.underlying26 rfl (by kernel_rfl) h17) ?_
  intro w18 h18
  simp only [Act.put, List.setIfInBounds_toArray, List.set_cons_zero, List.set_cons_succ]
  clear h17
  refine wpList_val (R := KD w.heap.size w [(g15, 26, nums 2 (two X.x X.y)), (g4, 26, nums 2 (two q.x q.y)), (w.heap.size, 26, nums 2 (two p.x p.y))]) (.bool b) rfl (by refine lands_value (w := w18) ?_ h18; go_simp <;> rfl) ?_
  intro w19 h19
  simp only [Act.put, List.setIfInBounds_toArray, List.set_cons_zero, List.set_cons_succ]
  clear h18
  refine wpList_val (R := KD w.heap.size w [(g15, 26, nums 2 (two X.x X.y)), (g4, 26, nums 2 (two q.x q.y)), (w.heap.size, 26, nums 2 (two p.x p.y))]) (.agg (nums 2 (two Y.x Y.y))) rfl (by exact lands_calls (w := w19) ((CY.out w19).mono fun _ _ ⟨he, hb⟩ => ⟨he, h19.below hb⟩) (by go_simp)) ?_
  intro w20 h20
  simp only [Act.put, List.setIfInBounds_toArray, List.set_cons_zero, List.set_cons_succ]
  clear h19
  refine wpList_val (R := KD w.heap.size w [(w20.heap.size, 26, nums 2 (two 0 0)), (g15, 26, nums 2 (two X.x X.y)), (g4, 26, nums 2 (two q.x q.y)), (w.heap.size, 26, nums 2 (two p.x p.y))]) (.pointer (some ⟨w20.heap.size, 0, none⟩)) rfl (lands_run2 (alloc_run _ _ rfl zero_pt _) (h20.add _ _)) ?_
  intro w21 h21
  simp only [Act.put, List.setIfInBounds_toArray, List.set_cons_zero, List.set_cons_succ]
  clear h20
  generalize w20.heap.size = g22 at h21 ⊢
  refine wpList_val (R := KD w.heap.size w [(g22, 26, nums 2 (two Y.x Y.y)), (g15, 26, nums 2 (two X.x X.y)), (g4, 26, nums 2 (two q.x q.y)), (w.heap.size, 26, nums 2 (two p.x p.y))]) undef rfl (lands_store _ _ _ rfl g22 (nums 2 (two Y.x Y.y)) rfl rfl _ _ (h21.blk _ m0) (by kernel_rfl) (by kernel_rfl) (row_one fun _ => rfl) (h21.put (k := 0) rfl _)) ?_
  intro w23 h23
  simp only [Act.put]
  clear h21
  refine wpList_nil ?_
  repeat (first | (with_reducible apply wp_seq_k; intro _ _) | with_reducible apply wp_block | with_reducible apply wp_skip | with_reducible apply wp_exit | (go_at_K; go_step) | with_reducible apply then_normal | with_reducible apply then_exit | with_reducible apply block_normal | with_reducible apply block_same | with_reducible exact block_far rfl ?_)
  with_reducible apply wp_region_lit
  refine wpList_val (R := KD w.heap.size w [(g22, 26, nums 2 (two Y.x Y.y)), (g15, 26, nums 2 (two X.x X.y)), (g4, 26, nums 2 (two q.x q.y)), (w.heap.size, 26, nums 2 (two p.x p.y))]) (.agg (nums 2 (two X.x X.y))) rfl (by exact lands_load _ _ rfl _ rfl _ _ _ (h23.blk _ m1) Try.underlying26 rfl (by kernel_rfl) h23) ?_
  intro w24 h24
  simp only [Act.put, List.setIfInBounds_toArray, List.set_cons_zero, List.set_cons_succ]
  clear h23
  refine wpList_val (R := KD w.heap.size w [(g22, 26, nums 2 (two Y.x Y.y)), (g15, 26, nums 2 (two X.x X.y)), (g4, 26, nums 2 (two q.x q.y)), (w.heap.size, 26, nums 2 (two p.x p.y))]) (.tuple #[.string c, .bool d]) rfl (by exact lands_calls (w := w24) ((enc_is X c d oX HE.out w24).mono fun _ _ ⟨he, hb⟩ => ⟨he, h24.below hb⟩) (by go_simp)) ?_
  intro w25 h25
  simp only [Act.put, List.setIfInBounds_toArray, List.set_cons_zero, List.set_cons_succ]
  clear h24
  refine wpList_val (R := KD w.heap.size w [(g22, 26, nums 2 (two Y.x Y.y)), (g15, 26, nums 2 (two X.x X.y)), (g4, 26, nums 2 (two q.x q.y)), (w.heap.size, 26, nums 2 (two p.x p.y))]) (.tuple #[.string c, .bool d]) rfl (by refine lands_value (w := w25) ?_ h25; go_simp <;> rfl) ?_
  intro w26 h26
  simp only [Act.put, List.setIfInBounds_toArray, List.set_cons_zero, List.set_cons_succ]
  clear h25
  refine wpList_val (R := KD w.heap.size w [(g22, 26, nums 2 (two Y.x Y.y)), (g15, 26, nums 2 (two X.x X.y)), (g4, 26, nums 2 (two q.x q.y)), (w.heap.size, 26, nums 2 (two p.x p.y))]) (.string c) rfl (by refine lands_value (w := w26) ?_ h26; go_simp <;> rfl) ?_
  intro w27 h27
  simp only [Act.put, List.setIfInBounds_toArray, List.set_cons_zero, List.set_cons_succ]
  clear h26
  refine wpList_val (R := KD w.heap.size w [(g22, 26, nums 2 (two Y.x Y.y)), (g15, 26, nums 2 (two X.x X.y)), (g4, 26, nums 2 (two q.x q.y)), (w.heap.size, 26, nums 2 (two p.x p.y))]) (.bool d) rfl (by refine lands_value (w := w27) ?_ h27; go_simp <;> rfl) ?_
  intro w28 h28
  simp only [Act.put, List.setIfInBounds_toArray, List.set_cons_zero, List.set_cons_succ]
  clear h27
  refine wpList_val (R := KD w.heap.size w [(g22, 26, nums 2 (two Y.x Y.y)), (g15, 26, nums 2 (two X.x X.y)), (g4, 26, nums 2 (two q.x q.y)), (w.heap.size, 26, nums 2 (two p.x p.y))]) (.string c) rfl (by refine lands_value (w := w28) ?_ h28; go_simp <;> rfl) ?_
  intro w29 h29
  simp only [Act.put, List.setIfInBounds_toArray, List.set_cons_zero, List.set_cons_succ]
  clear h28
  refine wpList_val (R := KD w.heap.size w [(g22, 26, nums 2 (two Y.x Y.y)), (g15, 26, nums 2 (two X.x X.y)), (g4, 26, nums 2 (two q.x q.y)), (w.heap.size, 26, nums 2 (two p.x p.y))]) (.bool d) rfl (by refine lands_value (w := w29) ?_ h29; go_simp <;> rfl) ?_
  intro w30 h30
  simp only [Act.put, List.setIfInBounds_toArray, List.set_cons_zero, List.set_cons_succ]
  clear h29
  refine wpList_nil ?_
  repeat (first | (with_reducible apply wp_seq_k; intro _ _) | with_reducible apply wp_block | with_reducible apply wp_skip | with_reducible apply wp_exit | (go_at_K; go_step) | with_reducible apply then_normal | with_reducible apply then_exit | with_reducible apply block_normal | with_reducible apply block_same | with_reducible exact block_far rfl ?_)
  with_reducible apply wp_region_lit
  refine wpList_val (R := KD w.heap.size w [(g22, 26, nums 2 (two Y.x Y.y)), (g15, 26, nums 2 (two X.x X.y)), (g4, 26, nums 2 (two q.x q.y)), (w.heap.size, 26, nums 2 (two p.x p.y))]) (.agg (nums 2 (two X.x X.y))) rfl (by exact lands_load _ _ rfl _ rfl _ _ _ (h30.blk _ m1) Try.underlying26 rfl (by kernel_rfl) h30) ?_
  intro w31 h31
  simp only [Act.put, List.setIfInBounds_toArray, List.set_cons_zero, List.set_cons_succ]
  clear h30
  refine wpList_val (R := KD w.heap.size w [(g22, 26, nums 2 (two Y.x Y.y)), (g15, 26, nums 2 (two X.x X.y)), (g4, 26, nums 2 (two q.x q.y)), (w.heap.size, 26, nums 2 (two p.x p.y))]) (.tuple #[.string c, .bool d]) rfl (by exact lands_calls (w := w31) ((renc_is X c d oX HE.out w31).mono fun _ _ ⟨he, hb⟩ => ⟨he, h31.below hb⟩) (by go_simp)) ?_
  intro w32 h32
  simp only [Act.put, List.setIfInBounds_toArray, List.set_cons_zero, List.set_cons_succ]
  clear h31
  refine wpList_val (R := KD w.heap.size w [(g22, 26, nums 2 (two Y.x Y.y)), (g15, 26, nums 2 (two X.x X.y)), (g4, 26, nums 2 (two q.x q.y)), (w.heap.size, 26, nums 2 (two p.x p.y))]) (.tuple #[.string c, .bool d]) rfl (by refine lands_value (w := w32) ?_ h32; go_simp <;> rfl) ?_
  intro w33 h33
  simp only [Act.put, List.setIfInBounds_toArray, List.set_cons_zero, List.set_cons_succ]
  clear h32
  refine wpList_val (R := KD w.heap.size w [(g22, 26, nums 2 (two Y.x Y.y)), (g15, 26, nums 2 (two X.x X.y)), (g4, 26, nums 2 (two q.x q.y)), (w.heap.size, 26, nums 2 (two p.x p.y))]) (.string c) rfl (by refine lands_value (w := w33) ?_ h33; go_simp <;> rfl) ?_
  intro w34 h34
  simp only [Act.put, List.setIfInBounds_toArray, List.set_cons_zero, List.set_cons_succ]
  clear h33
  refine wpList_val (R := KD w.heap.size w [(g22, 26, nums 2 (two Y.x Y.y)), (g15, 26, nums 2 (two X.x X.y)), (g4, 26, nums 2 (two q.x q.y)), (w.heap.size, 26, nums 2 (two p.x p.y))]) (.bool d) rfl (by refine lands_value (w := w34) ?_ h34; go_simp <;> rfl) ?_
  intro w35 h35
  simp only [Act.put, List.setIfInBounds_toArray, List.set_cons_zero, List.set_cons_succ]
  clear h34
  refine wpList_val (R := KD w.heap.size w [(g22, 26, nums 2 (two Y.x Y.y)), (g15, 26, nums 2 (two X.x X.y)), (g4, 26, nums 2 (two q.x q.y)), (w.heap.size, 26, nums 2 (two p.x p.y))]) (.string c) rfl (by refine lands_value (w := w35) ?_ h35; go_simp <;> rfl) ?_
  intro w36 h36
  simp only [Act.put, List.setIfInBounds_toArray, List.set_cons_zero, List.set_cons_succ]
  clear h35
  refine wpList_val (R := KD w.heap.size w [(g22, 26, nums 2 (two Y.x Y.y)), (g15, 26, nums 2 (two X.x X.y)), (g4, 26, nums 2 (two q.x q.y)), (w.heap.size, 26, nums 2 (two p.x p.y))]) (.bool d) rfl (by refine lands_value (w := w36) ?_ h36; go_simp <;> rfl) ?_
  intro w37 h37
  simp only [Act.put, List.setIfInBounds_toArray, List.set_cons_zero, List.set_cons_succ]
  clear h36
  refine wpList_nil ?_
  repeat (first | (with_reducible apply wp_seq_k; intro _ _) | with_reducible apply wp_block | with_reducible apply wp_skip | with_reducible apply wp_exit | (go_at_K; go_step) | with_reducible apply then_normal | with_reducible apply then_exit | with_reducible apply block_normal | with_reducible apply block_same | with_reducible exact block_far rfl ?_)
  obtain ⟨n38, hn38⟩ : ∃ n, n = w37.heap.size := ⟨_, rfl⟩
  refine wp_region_anyE (KM w.heap.size n38 w (fun _ _ => [(g22, 26, nums 2 (two Y.x Y.y)), (g15, 26, nums 2 (two X.x X.y)), (g4, 26, nums 2 (two q.x q.y)), (w.heap.size, 26, nums 2 (two p.x p.y))]) 1000 1001 []) (fun _ => false) (by kernel_rfl) (KM.begin h37 hn38 (lows hn38 h37 (fun _ _ => rfl)) _) ?_
  refine anyE_take (i := 0) (.bool true) rfl rfl (by kernel_rfl) (by kernel_rfl) (by kernel_rfl) (fun qv => ym_other rfl rfl (fun L wx hT => ?_)) ?_
  · refine lands_value (w := wx) ?_ hT; go_simp <;> rfl
  simp only [Act.put, List.setIfInBounds_toArray, List.set_cons_zero, List.set_cons_succ]
  refine anyE_take (i := 1) (.bool true) rfl rfl (by kernel_rfl) (by kernel_rfl) (by kernel_rfl) (fun qv => ym_other rfl rfl (fun L wx hT => ?_)) ?_
  · refine lands_value (w := wx) ?_ hT; go_simp <;> rfl
  simp only [Act.put, List.setIfInBounds_toArray, List.set_cons_zero, List.set_cons_succ]
  refine anyE_take (i := 2) (.agg (nums 2 (two X.x X.y))) rfl rfl (by kernel_rfl) (by kernel_rfl) (by kernel_rfl) (fun qv => ym_other rfl rfl (fun L wx hT => ?_)) ?_
  · exact lands_load _ _ rfl _ rfl _ _ _ (hT.k.blk _ m1) Try.underlying26 rfl (by kernel_rfl) hT
  simp only [Act.put, List.setIfInBounds_toArray, List.set_cons_zero, List.set_cons_succ]
  refine anyE_take (i := 3) (.agg (nums 2 (two Y.x Y.y))) rfl rfl (by kernel_rfl) (by kernel_rfl) (by kernel_rfl) (fun qv => ym_other rfl rfl (fun L wx hT => ?_)) ?_
  · exact lands_load _ _ rfl _ rfl _ _ _ (hT.k.blk _ m0) Try.underlying26 rfl (by kernel_rfl) hT
  simp only [Act.put, List.setIfInBounds_toArray, List.set_cons_zero, List.set_cons_succ]
  refine anyE_take (i := 4) (.agg (nums 2 (two R.x R.y))) rfl rfl (by kernel_rfl) (by kernel_rfl) (by kernel_rfl) (fun qv => ym_other rfl rfl (fun L wx hT => ?_)) ?_
  · exact lands_calls (w := wx) ((add_is X Y R oX oY HR.out wx).mono fun _ _ ⟨he, hb⟩ => ⟨he, hT.below hb⟩) (by go_simp)
  simp only [Act.put, List.setIfInBounds_toArray, List.set_cons_zero, List.set_cons_succ]
  refine anyE_take (i := 5) (.agg (nums 2 (two X.x X.y))) rfl rfl (by kernel_rfl) (by kernel_rfl) (by kernel_rfl) (fun qv => ym_other rfl rfl (fun L wx hT => ?_)) ?_
  · exact lands_load _ _ rfl _ rfl _ _ _ (hT.k.blk _ m1) Try.underlying26 rfl (by kernel_rfl) hT
  simp only [Act.put, List.setIfInBounds_toArray, List.set_cons_zero, List.set_cons_succ]
  refine anyE_take (i := 6) (.agg (nums 2 (two Y.x Y.y))) rfl rfl (by kernel_rfl) (by kernel_rfl) (by kernel_rfl) (fun qv => ym_other rfl rfl (fun L wx hT => ?_)) ?_
  · exact lands_load _ _ rfl _ rfl _ _ _ (hT.k.blk _ m0) Try.underlying26 rfl (by kernel_rfl) hT
  simp only [Act.put, List.setIfInBounds_toArray, List.set_cons_zero, List.set_cons_succ]
  refine anyE_take (i := 7) (.agg (nums 2 (two R.x R.y))) rfl rfl (by kernel_rfl) (by kernel_rfl) (by kernel_rfl) (fun qv => ym_other rfl rfl (fun L wx hT => ?_)) ?_
  · exact lands_calls (w := wx) ((radd_is X Y R oX oY HR.out wx).mono fun _ _ ⟨he, hb⟩ => ⟨he, hT.below hb⟩) (by go_simp)
  simp only [Act.put, List.setIfInBounds_toArray, List.set_cons_zero, List.set_cons_succ]
  refine anyE_take (i := 8) (.bool true) rfl rfl (by kernel_rfl) (by kernel_rfl) (by kernel_rfl) (fun qv => ym_other rfl rfl (fun L wx hT => ?_)) ?_
  · exact lands_eqlP _ _ rfl R R rfl rfl oR oR true (eqP_iff.2 rfl) hT
  simp only [Act.put, List.setIfInBounds_toArray, List.set_cons_zero, List.set_cons_succ]
  refine anyE_take (i := 9) (.bool true) rfl rfl (by kernel_rfl) (by kernel_rfl) (by kernel_rfl) (fun qv => ym_other rfl rfl (fun L wx hT => ?_)) ?_
  · refine lands_value (w := wx) ?_ hT; go_simp <;> rfl
  simp only [Act.put, List.setIfInBounds_toArray, List.set_cons_zero, List.set_cons_succ]
  refine anyE_take (i := 10) (.bool true) rfl rfl (by kernel_rfl) (by kernel_rfl) (by kernel_rfl) (fun qv => ym_other rfl rfl (fun L wx hT => ?_)) ?_
  · refine lands_value (w := wx) ?_ hT; go_simp <;> rfl
  simp only [Act.put, List.setIfInBounds_toArray, List.set_cons_zero, List.set_cons_succ]
  refine anyE_take (i := 11) (.agg (nums 2 (two X.x X.y))) rfl rfl (by kernel_rfl) (by kernel_rfl) (by kernel_rfl) (fun qv => ym_other rfl rfl (fun L wx hT => ?_)) ?_
  · exact lands_load _ _ rfl _ rfl _ _ _ (hT.k.blk _ m1) Try.underlying26 rfl (by kernel_rfl) hT
  simp only [Act.put, List.setIfInBounds_toArray, List.set_cons_zero, List.set_cons_succ]
  refine anyE_take (i := 12) (.agg (nums 2 (two N.x N.y))) rfl rfl (by kernel_rfl) (by kernel_rfl) (by kernel_rfl) (fun qv => ym_other rfl rfl (fun L wx hT => ?_)) ?_
  · exact lands_calls (w := wx) ((neg_is X N oX HN.out wx).mono fun _ _ ⟨he, hb⟩ => ⟨he, hT.below hb⟩) (by go_simp)
  simp only [Act.put, List.setIfInBounds_toArray, List.set_cons_zero, List.set_cons_succ]
  refine anyE_take (i := 13) (.agg (nums 2 (two X.x X.y))) rfl rfl (by kernel_rfl) (by kernel_rfl) (by kernel_rfl) (fun qv => ym_other rfl rfl (fun L wx hT => ?_)) ?_
  · exact lands_load _ _ rfl _ rfl _ _ _ (hT.k.blk _ m1) Try.underlying26 rfl (by kernel_rfl) hT
  simp only [Act.put, List.setIfInBounds_toArray, List.set_cons_zero, List.set_cons_succ]
  refine anyE_take (i := 14) (.agg (nums 2 (two N.x N.y))) rfl rfl (by kernel_rfl) (by kernel_rfl) (by kernel_rfl) (fun qv => ym_other rfl rfl (fun L wx hT => ?_)) ?_
  · exact lands_calls (w := wx) ((rneg5_is X N oX HN.out wx).mono fun _ _ ⟨he, hb⟩ => ⟨he, hT.below hb⟩) (by go_simp)
  simp only [Act.put, List.setIfInBounds_toArray, List.set_cons_zero, List.set_cons_succ]
  refine anyE_take (i := 15) (.bool true) rfl rfl (by kernel_rfl) (by kernel_rfl) (by kernel_rfl) (fun qv => ym_other rfl rfl (fun L wx hT => ?_)) ?_
  · exact lands_eqlP _ _ rfl N N rfl rfl oN oN true (eqP_iff.2 rfl) hT
  simp only [Act.put, List.setIfInBounds_toArray, List.set_cons_zero, List.set_cons_succ]
  refine anyE_take (i := 16) (.bool true) rfl rfl (by kernel_rfl) (by kernel_rfl) (by kernel_rfl) (fun qv => ym_other rfl rfl (fun L wx hT => ?_)) ?_
  · refine lands_value (w := wx) ?_ hT; go_simp <;> rfl
  simp only [Act.put, List.setIfInBounds_toArray, List.set_cons_zero, List.set_cons_succ]
  refine anyE_take (i := 17) (.bool true) rfl rfl (by kernel_rfl) (by kernel_rfl) (by kernel_rfl) (fun qv => ym_other rfl rfl (fun L wx hT => ?_)) ?_
  · refine lands_value (w := wx) ?_ hT; go_simp <;> rfl
  simp only [Act.put, List.setIfInBounds_toArray, List.set_cons_zero, List.set_cons_succ]
  refine anyE_take (i := 18) (.string c) rfl rfl (by kernel_rfl) (by kernel_rfl) (by kernel_rfl) (fun qv => ym_other rfl rfl (fun L wx hT => ?_)) ?_
  · refine lands_value (w := wx) ?_ hT; go_simp <;> rfl
  simp only [Act.put, List.setIfInBounds_toArray, List.set_cons_zero, List.set_cons_succ]
  refine anyE_take (i := 19) (.string c) rfl rfl (by kernel_rfl) (by kernel_rfl) (by kernel_rfl) (fun qv => ym_other rfl rfl (fun L wx hT => ?_)) ?_
  · refine lands_value (w := wx) ?_ hT; go_simp <;> rfl
  simp only [Act.put, List.setIfInBounds_toArray, List.set_cons_zero, List.set_cons_succ]
  refine anyE_take (i := 20) (.bool true) rfl rfl (by kernel_rfl) (by kernel_rfl) (by kernel_rfl) (fun qv => ym_other rfl rfl (fun L wx hT => ?_)) ?_
  · refine lands_value (w := wx) ?_ hT; go_simp
  simp only [Act.put, List.setIfInBounds_toArray, List.set_cons_zero, List.set_cons_succ]
  refine anyE_take (i := 21) (.bool true) rfl rfl (by kernel_rfl) (by kernel_rfl) (by kernel_rfl) (fun qv => ym_other rfl rfl (fun L wx hT => ?_)) ?_
  · refine lands_value (w := wx) ?_ hT; go_simp <;> rfl
  simp only [Act.put, List.setIfInBounds_toArray, List.set_cons_zero, List.set_cons_succ]
  refine anyE_take (i := 22) (.bool true) rfl rfl (by kernel_rfl) (by kernel_rfl) (by kernel_rfl) (fun qv => ym_other rfl rfl (fun L wx hT => ?_)) ?_
  · refine lands_value (w := wx) ?_ hT; go_simp <;> rfl
  simp only [Act.put, List.setIfInBounds_toArray, List.set_cons_zero, List.set_cons_succ]
  refine anyE_take (i := 23) (.bool d) rfl rfl (by kernel_rfl) (by kernel_rfl) (by kernel_rfl) (fun qv => ym_other rfl rfl (fun L wx hT => ?_)) ?_
  · refine lands_value (w := wx) ?_ hT; go_simp <;> rfl
  simp only [Act.put, List.setIfInBounds_toArray, List.set_cons_zero, List.set_cons_succ]
  refine anyE_take (i := 24) (.bool d) rfl rfl (by kernel_rfl) (by kernel_rfl) (by kernel_rfl) (fun qv => ym_other rfl rfl (fun L wx hT => ?_)) ?_
  · refine lands_value (w := wx) ?_ hT; go_simp <;> rfl
  simp only [Act.put, List.setIfInBounds_toArray, List.set_cons_zero, List.set_cons_succ]
  refine anyE_take (i := 25) (.bool true) rfl rfl (by kernel_rfl) (by kernel_rfl) (by kernel_rfl) (fun qv => ym_other rfl rfl (fun L wx hT => ?_)) ?_
  · refine lands_value (w := wx) ?_ hT; go_simp
  simp only [Act.put, List.setIfInBounds_toArray, List.set_cons_zero, List.set_cons_succ]
  refine anyE_take (i := 26) (.bool true) rfl rfl (by kernel_rfl) (by kernel_rfl) (by kernel_rfl) (fun qv => ym_other rfl rfl (fun L wx hT => ?_)) ?_
  · refine lands_value (w := wx) ?_ hT; go_simp <;> rfl
  simp only [Act.put, List.setIfInBounds_toArray, List.set_cons_zero, List.set_cons_succ]
  refine anyE_take (i := 27) (.bool true) rfl rfl (by kernel_rfl) (by kernel_rfl) (by kernel_rfl) (fun qv => ym_other rfl rfl (fun L wx hT => ?_)) ?_
  · refine lands_value (w := wx) ?_ hT; go_simp <;> rfl
  simp only [Act.put, List.setIfInBounds_toArray, List.set_cons_zero, List.set_cons_succ]
  refine anyE_take (i := 28) (.agg (nums 2 (two X.x X.y))) rfl rfl (by kernel_rfl) (by kernel_rfl) (by kernel_rfl) (fun qv => ym_other rfl rfl (fun L wx hT => ?_)) ?_
  · exact lands_load _ _ rfl _ rfl _ _ _ (hT.k.blk _ m1) Try.underlying26 rfl (by kernel_rfl) hT
  simp only [Act.put, List.setIfInBounds_toArray, List.set_cons_zero, List.set_cons_succ]
  refine anyE_take (i := 29) (.bool o) rfl rfl (by kernel_rfl) (by kernel_rfl) (by kernel_rfl) (fun qv => ym_other rfl rfl (fun L wx hT => ?_)) ?_
  · exact lands_calls (w := wx) ((qon_is X oX.x oX.y o HO.out wx).mono fun _ _ ⟨he, hb⟩ => ⟨he, hT.below hb⟩) (by go_simp)
  simp only [Act.put, List.setIfInBounds_toArray, List.set_cons_zero, List.set_cons_succ]
  refine anyE_take (i := 30) (.agg (nums 2 (two X.x X.y))) rfl rfl (by kernel_rfl) (by kernel_rfl) (by kernel_rfl) (fun qv => ym_other rfl rfl (fun L wx hT => ?_)) ?_
  · exact lands_load _ _ rfl _ rfl _ _ _ (hT.k.blk _ m1) Try.underlying26 rfl (by kernel_rfl) hT
  simp only [Act.put, List.setIfInBounds_toArray, List.set_cons_zero, List.set_cons_succ]
  refine anyE_take (i := 31) (.bool o) rfl rfl (by kernel_rfl) (by kernel_rfl) (by kernel_rfl) (fun qv => ym_other rfl rfl (fun L wx hT => ?_)) ?_
  · exact lands_calls (w := wx) ((ron_is X oX.x oX.y o HO.out wx).mono fun _ _ ⟨he, hb⟩ => ⟨he, hT.below hb⟩) (by go_simp)
  simp only [Act.put, List.setIfInBounds_toArray, List.set_cons_zero, List.set_cons_succ]
  refine anyE_take (i := 32) (.bool true) rfl rfl (by kernel_rfl) (by kernel_rfl) (by kernel_rfl) (fun qv => ym_other rfl rfl (fun L wx hT => ?_)) ?_
  · refine lands_value (w := wx) ?_ hT; go_simp
  simp only [Act.put, List.setIfInBounds_toArray, List.set_cons_zero, List.set_cons_succ]
  refine anyE_take (i := 33) (.bool true) rfl rfl (by kernel_rfl) (by kernel_rfl) (by kernel_rfl) (fun qv => ym_other rfl rfl (fun L wx hT => ?_)) ?_
  · refine lands_value (w := wx) ?_ hT; go_simp <;> rfl
  simp only [Act.put, List.setIfInBounds_toArray, List.set_cons_zero, List.set_cons_succ]
  refine anyE_take (i := 34) (.bool true) rfl rfl (by kernel_rfl) (by kernel_rfl) (by kernel_rfl) (fun qv => ym_other rfl rfl (fun L wx hT => ?_)) ?_
  · refine lands_value (w := wx) ?_ hT; go_simp <;> rfl
  simp only [Act.put, List.setIfInBounds_toArray, List.set_cons_zero, List.set_cons_succ]
  refine anyE_done (by kernel_rfl) (fun qv w39 hK => ?_) _
  have hE := hK.outs (by kernel_rfl) (by kernel_rfl)  (b := false) (c := false) (by kernel_rfl) (by kernel_rfl)
  clear hK h37 hn38
  have h39 : KD w.heap.size w [(g22, 26, nums 2 (two Y.x Y.y)), (g15, 26, nums 2 (two X.x X.y)), (g4, 26, nums 2 (two q.x q.y)), (w.heap.size, 26, nums 2 (two p.x p.y))] w39 := hE.k
  clear hE
  clear n38
  clear qv
  repeat (first | (with_reducible apply wp_seq_k; intro _ _) | with_reducible apply wp_block | with_reducible apply wp_skip | with_reducible apply wp_exit | (go_at_K; go_step) | with_reducible apply then_normal | with_reducible apply then_exit | with_reducible apply block_normal | with_reducible apply block_same | with_reducible exact block_far rfl ?_)
  with_reducible apply wp_ret
  repeat (first | with_reducible apply then_ret | with_reducible apply block_ret)
  exact bodyPost_ret (results_tmp rfl _ _ _) rfl ⟨rfl, h39.b⟩
end Go.Proofs.Ytehcigidjghddaa
