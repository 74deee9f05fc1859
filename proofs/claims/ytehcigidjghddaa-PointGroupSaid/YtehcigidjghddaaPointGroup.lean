/- PointGroup: the walk. (written by mkQ6.py) -/
import Derived.Test.YtehcigidjghddaaQCl
namespace Go.Proofs.Ytehcigidjghddaa
open Go.RowKit
set_option maxRecDepth 100000 in
set_option maxHeartbeats 4000000 in
theorem group_any (a b c : ByteArray) (w : World) :
    Calls Try.prog 6 #[.string a, .string b, .string c] w fun e w' => e = .returned (.bool true) ∧ Below w.heap.size w w' := by
  obtain ⟨P, hP⟩ : ∃ z, leastV a = z := ⟨_, rfl⟩
  have oP : onC P := hP ▸ pmul_on base_on _
  have cP := least_any a
  rw [hP] at cP
  have CP := Lib.hid cP
  clear cP
  obtain ⟨Q, hQ⟩ : ∃ z, leastV b = z := ⟨_, rfl⟩
  have oQ : onC Q := hQ ▸ pmul_on base_on _
  have cQ := least_any b
  rw [hQ] at cQ
  have CQ := Lib.hid cQ
  clear cQ
  obtain ⟨R, hR⟩ : ∃ z, leastV c = z := ⟨_, rfl⟩
  have oR : onC R := hR ▸ pmul_on base_on _
  have cR := least_any c
  rw [hR] at cR
  have CR := Lib.hid cR
  clear cR
  obtain ⟨S, hS⟩ : ∃ z, padd P Q = z := ⟨_, rfl⟩
  have oS : onC S := hS ▸ padd_on oP oQ
  obtain ⟨T, hT⟩ : ∃ z, padd S R = z := ⟨_, rfl⟩
  have oT : onC T := hT ▸ padd_on oS oR
  obtain ⟨U, hU⟩ : ∃ z, padd Q R = z := ⟨_, rfl⟩
  have oU : onC U := hU ▸ padd_on oQ oR
  obtain ⟨N, hN⟩ : ∃ z, pneg P = z := ⟨_, rfl⟩
  have oN : onC N := hN ▸ pneg_on oP
  have aPQ : Hid (padd (cnt P) (cnt Q) = S) := Lib.hid (by rw [cnt_C' oP, cnt_C' oQ, hS])
  have aQP : Hid (padd (cnt Q) (cnt P) = S) := Lib.hid (by rw [cnt_C' oP, cnt_C' oQ, padd_turn oQ oP, hS])
  have aSR : Hid (padd (cnt S) (cnt R) = T) := Lib.hid (by rw [cnt_C' oS, cnt_C' oR, hT])
  have aQR : Hid (padd (cnt Q) (cnt R) = U) := Lib.hid (by rw [cnt_C' oQ, cnt_C' oR, hU])
  have aPU : Hid (padd (cnt P) (cnt U) = T) := Lib.hid (by rw [cnt_C' oP, cnt_C' oU, ← hU, ← padd_assoc oP oQ oR, hS, hT])
  have aPZ : Hid (padd (cnt P) (cnt pZ) = P) := Lib.hid (by rw [cnt_C' oP, cnt_zero, padd_zero oP])
  have aPN : Hid (padd (cnt P) (cnt N) = pZ) := Lib.hid (by rw [cnt_C' oP, cnt_C' oN, ← hN, padd_neg oP])
  have nP : Hid (pneg (cnt P) = N) := Lib.hid (by rw [cnt_C' oP, hN])
  have nN : Hid (pneg (cnt N) = P) := Lib.hid (by rw [cnt_C' oN, ← hN, pneg_twice oP])
  clear hP hQ hR hS hT hU hN
  go_enter Try.func6, Try.ntmps6
  repeat (first | (with_reducible apply wp_seq_k; intro _ _) | with_reducible apply wp_block | with_reducible apply wp_skip | with_reducible apply wp_exit | (go_at_K; go_step) | with_reducible apply then_normal | with_reducible apply then_exit | with_reducible apply block_normal | with_reducible apply block_same | with_reducible exact block_far rfl ?_)
  have h1 := KD.begin w
  with_reducible apply wp_region_lit
  refine wpList_val (R := KD w.heap.size w []) (.bool false) rfl (by refine lands_value (w := w) ?_ h1; go_simp <;> rfl) ?_
  intro w2 h2
  simp only [Act.put, List.setIfInBounds_toArray, List.set_cons_zero, List.set_cons_succ]
  clear h1
  refine wpList_nil ?_
  repeat (first | (with_reducible apply wp_seq_k; intro _ _) | with_reducible apply wp_block | with_reducible apply wp_skip | with_reducible apply wp_exit | (go_at_K; go_step) | with_reducible apply then_normal | with_reducible apply then_exit | with_reducible apply block_normal | with_reducible apply block_same | with_reducible exact block_far rfl ?_)
  with_reducible apply wp_region_lit
  refine wpList_val (R := KD w.heap.size w []) (.bool true) rfl (by exact lands_calls (w := w2) ((examples_any w2).mono fun _ _ ⟨he, hb⟩ => ⟨he, h2.below hb⟩) (by go_simp)) ?_
  intro w3 h3
  simp only [Act.put, List.setIfInBounds_toArray, List.set_cons_zero, List.set_cons_succ]
  clear h2
  refine wpList_val (R := KD w.heap.size w []) (.bool true) rfl (by refine lands_value (w := w3) ?_ h3; go_simp <;> rfl) ?_
  intro w4 h4
  simp only [Act.put, List.setIfInBounds_toArray, List.set_cons_zero, List.set_cons_succ]
  clear h3
  refine wpList_nil ?_
  repeat (first | (with_reducible apply wp_seq_k; intro _ _) | with_reducible apply wp_block | with_reducible apply wp_skip | with_reducible apply wp_exit | (go_at_K; go_step) | with_reducible apply then_normal | with_reducible apply then_exit | with_reducible apply block_normal | with_reducible apply block_same | with_reducible exact block_far rfl ?_)
  with_reducible apply wp_region_lit
  refine wpList_val (R := KD w.heap.size w []) (.bool true) rfl (by refine lands_value (w := w4) ?_ h4; go_simp <;> rfl) ?_
  intro w5 h5
  simp only [Act.put, List.setIfInBounds_toArray, List.set_cons_zero, List.set_cons_succ]
  clear h4
  refine wpList_val (R := KD w.heap.size w []) (.bool false) rfl (by refine lands_value (w := w5) ?_ h5; go_simp <;> rfl) ?_
  intro w6 h6
  simp only [Act.put, List.setIfInBounds_toArray, List.set_cons_zero, List.set_cons_succ]
  clear h5
  refine wpList_nil ?_
  repeat (first | (with_reducible apply wp_seq_k; intro _ _) | with_reducible apply wp_block | with_reducible apply wp_skip | with_reducible apply wp_exit | (go_at_K; go_step) | with_reducible apply then_normal | with_reducible apply then_exit | with_reducible apply block_normal | with_reducible apply block_same | with_reducible exact block_far rfl ?_)
  refine wp_cond_false rfl ?_
  repeat (first | (with_reducible apply wp_seq_k; intro _ _) | with_reducible apply wp_block | with_reducible apply wp_skip | with_reducible apply wp_exit | (go_at_K; go_step) | with_reducible apply then_normal | with_reducible apply then_exit | with_reducible apply block_normal | with_reducible apply block_same | with_reducible exact block_far rfl ?_)
  with_reducible apply wp_region_lit
  refine wpList_val (R := KD w.heap.size w []) (.string a) rfl (by refine lands_value (w := w6) ?_ h6; go_simp <;> rfl) ?_
  intro w7 h7
  simp only [Act.put, List.setIfInBounds_toArray, List.set_cons_zero, List.set_cons_succ]
  clear h6
  refine wpList_val (R := KD w.heap.size w []) (.agg (nums 2 (two P.x P.y))) rfl (by exact lands_calls (w := w7) ((CP.out w7).mono fun _ _ ⟨he, hb⟩ => ⟨he, h7.below hb⟩) (by go_simp)) ?_
  intro w8 h8
  simp only [Act.put, List.setIfInBounds_toArray, List.set_cons_zero, List.set_cons_succ]
  clear h7
  refine wpList_val (R := KD w.heap.size w [(w8.heap.size, 26, nums 2 (two 0 0))]) (.pointer (some ⟨w8.heap.size, 0, none⟩)) rfl (lands_run2 (alloc_run _ _ rfl zero_pt _) (h8.add _ _)) ?_
  intro w9 h9
  simp only [Act.put, List.setIfInBounds_toArray, List.set_cons_zero, List.set_cons_succ]
  clear h8
  generalize w8.heap.size = g10 at h9 ⊢
  refine wpList_val (R := KD w.heap.size w [(g10, 26, nums 2 (two P.x P.y))]) undef rfl (lands_store _ _ _ rfl g10 (nums 2 (two P.x P.y)) rfl rfl _ _ (h9.blk _ m0) (by kernel_rfl) (by kernel_rfl) (row_one fun _ => rfl) (h9.put (k := 0) rfl _)) ?_
  intro w11 h11
  simp only [Act.put]
  clear h9
  refine wpList_nil ?_
  repeat (first | (with_reducible apply wp_seq_k; intro _ _) | with_reducible apply wp_block | with_reducible apply wp_skip | with_reducible apply wp_exit | (go_at_K; go_step) | with_reducible apply then_normal | with_reducible apply then_exit | with_reducible apply block_normal | with_reducible apply block_same | with_reducible exact block_far rfl ?_)
  with_reducible apply wp_region_lit
  refine wpList_val (R := KD w.heap.size w [(g10, 26, nums 2 (two P.x P.y))]) (.string b) rfl (by refine lands_value (w := w11) ?_ h11; go_simp <;> rfl) ?_
  intro w12 h12
  simp only [Act.put, List.setIfInBounds_toArray, List.set_cons_zero, List.set_cons_succ]
  clear h11
  refine wpList_val (R := KD w.heap.size w [(g10, 26, nums 2 (two P.x P.y))]) (.agg (nums 2 (two Q.x Q.y))) rfl (by exact lands_calls (w := w12) ((CQ.out w12).mono fun _ _ ⟨he, hb⟩ => ⟨he, h12.below hb⟩) (by go_simp)) ?_
  intro w13 h13
  simp only [Act.put, List.setIfInBounds_toArray, List.set_cons_zero, List.set_cons_succ]
  clear h12
  refine wpList_val (R := KD w.heap.size w [(w13.heap.size, 26, nums 2 (two 0 0)), (g10, 26, nums 2 (two P.x P.y))]) (.pointer (some ⟨w13.heap.size, 0, none⟩)) rfl (lands_run2 (alloc_run _ _ rfl zero_pt _) (h13.add _ _)) ?_
  intro w14 h14
  simp only [Act.put, List.setIfInBounds_toArray, List.set_cons_zero, List.set_cons_succ]
  clear h13
  generalize w13.heap.size = g15 at h14 ⊢
  refine wpList_val (R := KD w.heap.size w [(g15, 26, nums 2 (two Q.x Q.y)), (g10, 26, nums 2 (two P.x P.y))]) undef rfl (lands_store _ _ _ rfl g15 (nums 2 (two Q.x Q.y)) rfl rfl _ _ (h14.blk _ m0) (by kernel_rfl) (by kernel_rfl) (row_one fun _ => rfl) (h14.put (k := 0) rfl _)) ?_
  intro w16 h16
  simp only [Act.put]
  clear h14
  refine wpList_nil ?_
  repeat (first | (with_reducible apply wp_seq_k; intro _ _) | with_reducible apply wp_block | with_reducible apply wp_skip | with_reducible apply wp_exit | (go_at_K; go_step) | with_reducible apply then_normal | with_reducible apply then_exit | with_reducible apply block_normal | with_reducible apply block_same | with_reducible exact block_far rfl ?_)
  with_reducible apply wp_region_lit
  refine wpList_val (R := KD w.heap.size w [(g15, 26, nums 2 (two Q.x Q.y)), (g10, 26, nums 2 (two P.x P.y))]) (.string c) rfl (by refine lands_value (w := w16) ?_ h16; go_simp <;> rfl) ?_
  intro w17 h17
  simp only [Act.put, List.setIfInBounds_toArray, List.set_cons_zero, List.set_cons_succ]
  clear h16
  refine wpList_val (R := KD w.heap.size w [(g15, 26, nums 2 (two Q.x Q.y)), (g10, 26, nums 2 (two P.x P.y))]) (.agg (nums 2 (two R.x R.y))) rfl (by exact lands_calls (w := w17) ((CR.out w17).mono fun _ _ ⟨he, hb⟩ => ⟨he, h17.below hb⟩) (by go_simp)) ?_
  intro w18 h18
  simp only [Act.put, List.setIfInBounds_toArray, List.set_cons_zero, List.set_cons_succ]
  clear h17
  refine wpList_val (R := KD w.heap.size w [(w18.heap.size, 26, nums 2 (two 0 0)), (g15, 26, nums 2 (two Q.x Q.y)), (g10, 26, nums 2 (two P.x P.y))]) (.pointer (some ⟨w18.heap.size, 0, none⟩)) rfl (lands_run2 (alloc_run _ _ rfl zero_pt _) (h18.add _ _)) ?_
  intro w19 h19
  simp only [Act.put, List.setIfInBounds_toArray, List.set_cons_zero, List.set_cons_succ]
  clear h18
  generalize w18.heap.size = g20 at h19 ⊢
  refine wpList_val (R := KD w.heap.size w [(g20, 26, nums 2 (two R.x R.y)), (g15, 26, nums 2 (two Q.x Q.y)), (g10, 26, nums 2 (two P.x P.y))]) undef rfl (lands_store _ _ _ rfl g20 (nums 2 (two R.x R.y)) rfl rfl _ _ (h19.blk _ m0) (by kernel_rfl) (by kernel_rfl) (row_one fun _ => rfl) (h19.put (k := 0) rfl _)) ?_
  intro w21 h21
  simp only [Act.put]
  clear h19
  refine wpList_nil ?_
  repeat (first | (with_reducible apply wp_seq_k; intro _ _) | with_reducible apply wp_block | with_reducible apply wp_skip | with_reducible apply wp_exit | (go_at_K; go_step) | with_reducible apply then_normal | with_reducible apply then_exit | with_reducible apply block_normal | with_reducible apply block_same | with_reducible exact block_far rfl ?_)
  with_reducible apply wp_region_lit
  refine wpList_val (R := KD w.heap.size w [(g20, 26, nums 2 (two R.x R.y)), (g15, 26, nums 2 (two Q.x Q.y)), (g10, 26, nums 2 (two P.x P.y))]) (.agg (nums 2 (two P.x P.y))) rfl (by exact lands_load _ _ rfl _ rfl _ _ _ (h21.blk _ m2) Try.underlying26 rfl (by kernel_rfl) h21) ?_
  intro w22 h22
  simp only [Act.put, List.setIfInBounds_toArray, List.set_cons_zero, List.set_cons_succ]
  clear h21
  refine wpList_val (R := KD w.heap.size w [(g20, 26, nums 2 (two R.x R.y)), (g15, 26, nums 2 (two Q.x Q.y)), (g10, 26, nums 2 (two P.x P.y))]) (.agg (nums 2 (two Q.x Q.y))) rfl (by exact lands_load _ _ rfl _ rfl _ _ _ (h22.blk _ m1) Try.underlying26 rfl (by kernel_rfl) h22) ?_
  intro w23 h23
  simp only [Act.put, List.setIfInBounds_toArray, List.set_cons_zero, List.set_cons_succ]
  clear h22
  refine wpList_val (R := KD w.heap.size w [(g20, 26, nums 2 (two R.x R.y)), (g15, 26, nums 2 (two Q.x Q.y)), (g10, 26, nums 2 (two P.x P.y))]) (.agg (nums 2 (two S.x S.y))) rfl (by exact lands_calls (w := w23) ((add_is P Q S oP.ok oQ.ok aPQ.out w23).mono fun _ _ ⟨he, hb⟩ => ⟨he, h23.below hb⟩) (by go_simp)) ?_
  intro w24 h24
  simp only [Act.put, List.setIfInBounds_toArray, List.set_cons_zero, List.set_cons_succ]
  clear h23
  refine wpList_val (R := KD w.heap.size w [(w24.heap.size, 26, nums 2 (two 0 0)), (g20, 26, nums 2 (two R.x R.y)), (g15, 26, nums 2 (two Q.x Q.y)), (g10, 26, nums 2 (two P.x P.y))]) (.pointer (some ⟨w24.heap.size, 0, none⟩)) rfl (lands_run2 (alloc_run _ _ rfl zero_pt _) (h24.add _ _)) ?_
  intro w25 h25
  simp only [Act.put, List.setIfInBounds_toArray, List.set_cons_zero, List.set_cons_succ]
  clear h24
  generalize w24.heap.size = g26 at h25 ⊢
  refine wpList_val (R := KD w.heap.size w [(g26, 26, nums 2 (two S.x S.y)), (g20, 26, nums 2 (two R.x R.y)), (g15, 26, nums 2 (two Q.x Q.y)), (g10, 26, nums 2 (two P.x P.y))]) undef rfl (lands_store _ _ _ rfl g26 (nums 2 (two S.x S.y)) rfl rfl _ _ (h25.blk _ m0) (by kernel_rfl) (by kernel_rfl) (row_one fun _ => rfl) (h25.put (k := 0) rfl _)) ?_
  intro w27 h27
  simp only [Act.put]
  clear h25
  refine wpList_nil ?_
  repeat (first | (with_reducible apply wp_seq_k; intro _ _) | with_reducible apply wp_block | with_reducible apply wp_skip | with_reducible apply wp_exit | (go_at_K; go_step) | with_reducible apply then_normal | with_reducible apply then_exit | with_reducible apply block_normal | with_reducible apply block_same | with_reducible exact block_far rfl ?_)
  obtain ⟨n28, hn28⟩ : ∃ n, n = w27.heap.size := ⟨_, rfl⟩
  refine wp_region_anyE (KM w.heap.size n28 w (fun _ _ => [(g26, 26, nums 2 (two S.x S.y)), (g20, 26, nums 2 (two R.x R.y)), (g15, 26, nums 2 (two Q.x Q.y)), (g10, 26, nums 2 (two P.x P.y))]) 1000 1001 []) (fun _ => false) (by kernel_rfl) (KM.begin h27 hn28 (lows hn28 h27 (fun _ _ => rfl)) _) ?_
  refine anyE_take (i := 0) (.bool true) rfl rfl (by kernel_rfl) (by kernel_rfl) (by kernel_rfl) (fun qv => ym_other rfl rfl (fun L wx hT => ?_)) ?_
  · refine lands_value (w := wx) ?_ hT; go_simp <;> rfl
  simp only [Act.put, List.setIfInBounds_toArray, List.set_cons_zero, List.set_cons_succ]
  refine anyE_take (i := 1) (.bool true) rfl rfl (by kernel_rfl) (by kernel_rfl) (by kernel_rfl) (fun qv => ym_other rfl rfl (fun L wx hT => ?_)) ?_
  · refine lands_value (w := wx) ?_ hT; go_simp <;> rfl
  simp only [Act.put, List.setIfInBounds_toArray, List.set_cons_zero, List.set_cons_succ]
  refine anyE_take (i := 2) (.agg (nums 2 (two P.x P.y))) rfl rfl (by kernel_rfl) (by kernel_rfl) (by kernel_rfl) (fun qv => ym_other rfl rfl (fun L wx hT => ?_)) ?_
  · exact lands_load _ _ rfl _ rfl _ _ _ (hT.k.blk _ m3) Try.underlying26 rfl (by kernel_rfl) hT
  simp only [Act.put, List.setIfInBounds_toArray, List.set_cons_zero, List.set_cons_succ]
  refine anyE_take (i := 3) (.bool true) rfl rfl (by kernel_rfl) (by kernel_rfl) (by kernel_rfl) (fun qv => ym_other rfl rfl (fun L wx hT => ?_)) ?_
  · exact lands_calls (w := wx) ((qon_is P oP.ok.x oP.ok.y true (onB_C.2 oP) wx).mono fun _ _ ⟨he, hb⟩ => ⟨he, hT.below hb⟩) (by go_simp)
  simp only [Act.put, List.setIfInBounds_toArray, List.set_cons_zero, List.set_cons_succ]
  refine anyE_take (i := 4) (.bool true) rfl rfl (by kernel_rfl) (by kernel_rfl) (by kernel_rfl) (fun qv => ym_other rfl rfl (fun L wx hT => ?_)) ?_
  · refine lands_value (w := wx) ?_ hT; go_simp <;> rfl
  simp only [Act.put, List.setIfInBounds_toArray, List.set_cons_zero, List.set_cons_succ]
  refine anyE_take (i := 5) (.bool true) rfl rfl (by kernel_rfl) (by kernel_rfl) (by kernel_rfl) (fun qv => ym_other rfl rfl (fun L wx hT => ?_)) ?_
  · refine lands_value (w := wx) ?_ hT; go_simp <;> rfl
  simp only [Act.put, List.setIfInBounds_toArray, List.set_cons_zero, List.set_cons_succ]
  refine anyE_take (i := 6) (.agg (nums 2 (two S.x S.y))) rfl rfl (by kernel_rfl) (by kernel_rfl) (by kernel_rfl) (fun qv => ym_other rfl rfl (fun L wx hT => ?_)) ?_
  · exact lands_load _ _ rfl _ rfl _ _ _ (hT.k.blk _ m0) Try.underlying26 rfl (by kernel_rfl) hT
  simp only [Act.put, List.setIfInBounds_toArray, List.set_cons_zero, List.set_cons_succ]
  refine anyE_take (i := 7) (.bool true) rfl rfl (by kernel_rfl) (by kernel_rfl) (by kernel_rfl) (fun qv => ym_other rfl rfl (fun L wx hT => ?_)) ?_
  · exact lands_calls (w := wx) ((qon_is S oS.ok.x oS.ok.y true (onB_C.2 oS) wx).mono fun _ _ ⟨he, hb⟩ => ⟨he, hT.below hb⟩) (by go_simp)
  simp only [Act.put, List.setIfInBounds_toArray, List.set_cons_zero, List.set_cons_succ]
  refine anyE_take (i := 8) (.bool true) rfl rfl (by kernel_rfl) (by kernel_rfl) (by kernel_rfl) (fun qv => ym_other rfl rfl (fun L wx hT => ?_)) ?_
  · refine lands_value (w := wx) ?_ hT; go_simp <;> rfl
  simp only [Act.put, List.setIfInBounds_toArray, List.set_cons_zero, List.set_cons_succ]
  refine anyE_take (i := 9) (.bool true) rfl rfl (by kernel_rfl) (by kernel_rfl) (by kernel_rfl) (fun qv => ym_other rfl rfl (fun L wx hT => ?_)) ?_
  · refine lands_value (w := wx) ?_ hT; go_simp <;> rfl
  simp only [Act.put, List.setIfInBounds_toArray, List.set_cons_zero, List.set_cons_succ]
  refine anyE_take (i := 10) (.agg (nums 2 (two S.x S.y))) rfl rfl (by kernel_rfl) (by kernel_rfl) (by kernel_rfl) (fun qv => ym_other rfl rfl (fun L wx hT => ?_)) ?_
  · exact lands_load _ _ rfl _ rfl _ _ _ (hT.k.blk _ m0) Try.underlying26 rfl (by kernel_rfl) hT
  simp only [Act.put, List.setIfInBounds_toArray, List.set_cons_zero, List.set_cons_succ]
  refine anyE_take (i := 11) (.agg (nums 2 (two Q.x Q.y))) rfl rfl (by kernel_rfl) (by kernel_rfl) (by kernel_rfl) (fun qv => ym_other rfl rfl (fun L wx hT => ?_)) ?_
  · exact lands_load _ _ rfl _ rfl _ _ _ (hT.k.blk _ m2) Try.underlying26 rfl (by kernel_rfl) hT
  simp only [Act.put, List.setIfInBounds_toArray, List.set_cons_zero, List.set_cons_succ]
  refine anyE_take (i := 12) (.agg (nums 2 (two P.x P.y))) rfl rfl (by kernel_rfl) (by kernel_rfl) (by kernel_rfl) (fun qv => ym_other rfl rfl (fun L wx hT => ?_)) ?_
  · exact lands_load _ _ rfl _ rfl _ _ _ (hT.k.blk _ m3) Try.underlying26 rfl (by kernel_rfl) hT
  simp only [Act.put, List.setIfInBounds_toArray, List.set_cons_zero, List.set_cons_succ]
  refine anyE_take (i := 13) (.agg (nums 2 (two S.x S.y))) rfl rfl (by kernel_rfl) (by kernel_rfl) (by kernel_rfl) (fun qv => ym_other rfl rfl (fun L wx hT => ?_)) ?_
  · exact lands_calls (w := wx) ((add_is Q P S oQ.ok oP.ok aQP.out wx).mono fun _ _ ⟨he, hb⟩ => ⟨he, hT.below hb⟩) (by go_simp)
  simp only [Act.put, List.setIfInBounds_toArray, List.set_cons_zero, List.set_cons_succ]
  refine anyE_take (i := 14) (.bool true) rfl rfl (by kernel_rfl) (by kernel_rfl) (by kernel_rfl) (fun qv => ym_other rfl rfl (fun L wx hT => ?_)) ?_
  · exact lands_eqlP _ _ rfl S S rfl rfl oS.ok oS.ok true (eqP_iff.2 rfl) hT
  simp only [Act.put, List.setIfInBounds_toArray, List.set_cons_zero, List.set_cons_succ]
  refine anyE_take (i := 15) (.bool true) rfl rfl (by kernel_rfl) (by kernel_rfl) (by kernel_rfl) (fun qv => ym_other rfl rfl (fun L wx hT => ?_)) ?_
  · refine lands_value (w := wx) ?_ hT; go_simp <;> rfl
  simp only [Act.put, List.setIfInBounds_toArray, List.set_cons_zero, List.set_cons_succ]
  refine anyE_take (i := 16) (.bool true) rfl rfl (by kernel_rfl) (by kernel_rfl) (by kernel_rfl) (fun qv => ym_other rfl rfl (fun L wx hT => ?_)) ?_
  · refine lands_value (w := wx) ?_ hT; go_simp <;> rfl
  simp only [Act.put, List.setIfInBounds_toArray, List.set_cons_zero, List.set_cons_succ]
  refine anyE_take (i := 17) (.agg (nums 2 (two S.x S.y))) rfl rfl (by kernel_rfl) (by kernel_rfl) (by kernel_rfl) (fun qv => ym_other rfl rfl (fun L wx hT => ?_)) ?_
  · exact lands_load _ _ rfl _ rfl _ _ _ (hT.k.blk _ m0) Try.underlying26 rfl (by kernel_rfl) hT
  simp only [Act.put, List.setIfInBounds_toArray, List.set_cons_zero, List.set_cons_succ]
  refine anyE_take (i := 18) (.agg (nums 2 (two R.x R.y))) rfl rfl (by kernel_rfl) (by kernel_rfl) (by kernel_rfl) (fun qv => ym_other rfl rfl (fun L wx hT => ?_)) ?_
  · exact lands_load _ _ rfl _ rfl _ _ _ (hT.k.blk _ m1) Try.underlying26 rfl (by kernel_rfl) hT
  simp only [Act.put, List.setIfInBounds_toArray, List.set_cons_zero, List.set_cons_succ]
  refine anyE_take (i := 19) (.agg (nums 2 (two T.x T.y))) rfl rfl (by kernel_rfl) (by kernel_rfl) (by kernel_rfl) (fun qv => ym_other rfl rfl (fun L wx hT => ?_)) ?_
  · exact lands_calls (w := wx) ((add_is S R T oS.ok oR.ok aSR.out wx).mono fun _ _ ⟨he, hb⟩ => ⟨he, hT.below hb⟩) (by go_simp)
  simp only [Act.put, List.setIfInBounds_toArray, List.set_cons_zero, List.set_cons_succ]
  refine anyE_take (i := 20) (.agg (nums 2 (two P.x P.y))) rfl rfl (by kernel_rfl) (by kernel_rfl) (by kernel_rfl) (fun qv => ym_other rfl rfl (fun L wx hT => ?_)) ?_
  · exact lands_load _ _ rfl _ rfl _ _ _ (hT.k.blk _ m3) Try.underlying26 rfl (by kernel_rfl) hT
  simp only [Act.put, List.setIfInBounds_toArray, List.set_cons_zero, List.set_cons_succ]
  refine anyE_take (i := 21) (.agg (nums 2 (two Q.x Q.y))) rfl rfl (by kernel_rfl) (by kernel_rfl) (by kernel_rfl) (fun qv => ym_other rfl rfl (fun L wx hT => ?_)) ?_
  · exact lands_load _ _ rfl _ rfl _ _ _ (hT.k.blk _ m2) Try.underlying26 rfl (by kernel_rfl) hT
  simp only [Act.put, List.setIfInBounds_toArray, List.set_cons_zero, List.set_cons_succ]
  refine anyE_take (i := 22) (.agg (nums 2 (two R.x R.y))) rfl rfl (by kernel_rfl) (by kernel_rfl) (by kernel_rfl) (fun qv => ym_other rfl rfl (fun L wx hT => ?_)) ?_
  · exact lands_load _ _ rfl _ rfl _ _ _ (hT.k.blk _ m1) Try.underlying26 rfl (by kernel_rfl) hT
  simp only [Act.put, List.setIfInBounds_toArray, List.set_cons_zero, List.set_cons_succ]
  refine anyE_take (i := 23) (.agg (nums 2 (two U.x U.y))) rfl rfl (by kernel_rfl) (by kernel_rfl) (by kernel_rfl) (fun qv => ym_other rfl rfl (fun L wx hT => ?_)) ?_
  · exact lands_calls (w := wx) ((add_is Q R U oQ.ok oR.ok aQR.out wx).mono fun _ _ ⟨he, hb⟩ => ⟨he, hT.below hb⟩) (by go_simp)
  simp only [Act.put, List.setIfInBounds_toArray, List.set_cons_zero, List.set_cons_succ]
  refine anyE_take (i := 24) (.agg (nums 2 (two T.x T.y))) rfl rfl (by kernel_rfl) (by kernel_rfl) (by kernel_rfl) (fun qv => ym_other rfl rfl (fun L wx hT => ?_)) ?_
  · exact lands_calls (w := wx) ((add_is P U T oP.ok oU.ok aPU.out wx).mono fun _ _ ⟨he, hb⟩ => ⟨he, hT.below hb⟩) (by go_simp)
  simp only [Act.put, List.setIfInBounds_toArray, List.set_cons_zero, List.set_cons_succ]
  refine anyE_take (i := 25) (.bool true) rfl rfl (by kernel_rfl) (by kernel_rfl) (by kernel_rfl) (fun qv => ym_other rfl rfl (fun L wx hT => ?_)) ?_
  · exact lands_eqlP _ _ rfl T T rfl rfl oT.ok oT.ok true (eqP_iff.2 rfl) hT
  simp only [Act.put, List.setIfInBounds_toArray, List.set_cons_zero, List.set_cons_succ]
  refine anyE_take (i := 26) (.bool true) rfl rfl (by kernel_rfl) (by kernel_rfl) (by kernel_rfl) (fun qv => ym_other rfl rfl (fun L wx hT => ?_)) ?_
  · refine lands_value (w := wx) ?_ hT; go_simp <;> rfl
  simp only [Act.put, List.setIfInBounds_toArray, List.set_cons_zero, List.set_cons_succ]
  refine anyE_take (i := 27) (.bool true) rfl rfl (by kernel_rfl) (by kernel_rfl) (by kernel_rfl) (fun qv => ym_other rfl rfl (fun L wx hT => ?_)) ?_
  · refine lands_value (w := wx) ?_ hT; go_simp <;> rfl
  simp only [Act.put, List.setIfInBounds_toArray, List.set_cons_zero, List.set_cons_succ]
  refine anyE_take (i := 28) (.agg (nums 2 (two P.x P.y))) rfl rfl (by kernel_rfl) (by kernel_rfl) (by kernel_rfl) (fun qv => ym_other rfl rfl (fun L wx hT => ?_)) ?_
  · exact lands_load _ _ rfl _ rfl _ _ _ (hT.k.blk _ m3) Try.underlying26 rfl (by kernel_rfl) hT
  simp only [Act.put, List.setIfInBounds_toArray, List.set_cons_zero, List.set_cons_succ]
  refine anyE_take (i := 29) (.agg (nums 2 (two pZ.x pZ.y))) rfl rfl (by kernel_rfl) (by kernel_rfl) (by kernel_rfl) (fun qv => ym_other rfl rfl (fun L wx hT => ?_)) ?_
  · exact lands_calls (w := wx) ((qzero_any wx).mono fun _ _ ⟨he, hb⟩ => ⟨he, hT.below hb⟩) (by go_simp)
  simp only [Act.put, List.setIfInBounds_toArray, List.set_cons_zero, List.set_cons_succ]
  refine anyE_take (i := 30) (.agg (nums 2 (two P.x P.y))) rfl rfl (by kernel_rfl) (by kernel_rfl) (by kernel_rfl) (fun qv => ym_other rfl rfl (fun L wx hT => ?_)) ?_
  · exact lands_calls (w := wx) ((add_is P pZ P oP.ok pZ_on.ok aPZ.out wx).mono fun _ _ ⟨he, hb⟩ => ⟨he, hT.below hb⟩) (by go_simp)
  simp only [Act.put, List.setIfInBounds_toArray, List.set_cons_zero, List.set_cons_succ]
  refine anyE_take (i := 31) (.agg (nums 2 (two P.x P.y))) rfl rfl (by kernel_rfl) (by kernel_rfl) (by kernel_rfl) (fun qv => ym_other rfl rfl (fun L wx hT => ?_)) ?_
  · exact lands_load _ _ rfl _ rfl _ _ _ (hT.k.blk _ m3) Try.underlying26 rfl (by kernel_rfl) hT
  simp only [Act.put, List.setIfInBounds_toArray, List.set_cons_zero, List.set_cons_succ]
  refine anyE_take (i := 32) (.bool true) rfl rfl (by kernel_rfl) (by kernel_rfl) (by kernel_rfl) (fun qv => ym_other rfl rfl (fun L wx hT => ?_)) ?_
  · exact lands_eqlP _ _ rfl P P rfl rfl oP.ok oP.ok true (eqP_iff.2 rfl) hT
  simp only [Act.put, List.setIfInBounds_toArray, List.set_cons_zero, List.set_cons_succ]
  refine anyE_take (i := 33) (.bool true) rfl rfl (by kernel_rfl) (by kernel_rfl) (by kernel_rfl) (fun qv => ym_other rfl rfl (fun L wx hT => ?_)) ?_
  · refine lands_value (w := wx) ?_ hT; go_simp <;> rfl
  simp only [Act.put, List.setIfInBounds_toArray, List.set_cons_zero, List.set_cons_succ]
  refine anyE_take (i := 34) (.bool true) rfl rfl (by kernel_rfl) (by kernel_rfl) (by kernel_rfl) (fun qv => ym_other rfl rfl (fun L wx hT => ?_)) ?_
  · refine lands_value (w := wx) ?_ hT; go_simp <;> rfl
  simp only [Act.put, List.setIfInBounds_toArray, List.set_cons_zero, List.set_cons_succ]
  refine anyE_take (i := 35) (.agg (nums 2 (two P.x P.y))) rfl rfl (by kernel_rfl) (by kernel_rfl) (by kernel_rfl) (fun qv => ym_other rfl rfl (fun L wx hT => ?_)) ?_
  · exact lands_load _ _ rfl _ rfl _ _ _ (hT.k.blk _ m3) Try.underlying26 rfl (by kernel_rfl) hT
  simp only [Act.put, List.setIfInBounds_toArray, List.set_cons_zero, List.set_cons_succ]
  refine anyE_take (i := 36) (.agg (nums 2 (two P.x P.y))) rfl rfl (by kernel_rfl) (by kernel_rfl) (by kernel_rfl) (fun qv => ym_other rfl rfl (fun L wx hT => ?_)) ?_
  · exact lands_load _ _ rfl _ rfl _ _ _ (hT.k.blk _ m3) Try.underlying26 rfl (by kernel_rfl) hT
  simp only [Act.put, List.setIfInBounds_toArray, List.set_cons_zero, List.set_cons_succ]
  refine anyE_take (i := 37) (.agg (nums 2 (two N.x N.y))) rfl rfl (by kernel_rfl) (by kernel_rfl) (by kernel_rfl) (fun qv => ym_other rfl rfl (fun L wx hT => ?_)) ?_
  · exact lands_calls (w := wx) ((neg_is P N oP.ok nP.out wx).mono fun _ _ ⟨he, hb⟩ => ⟨he, hT.below hb⟩) (by go_simp)
  simp only [Act.put, List.setIfInBounds_toArray, List.set_cons_zero, List.set_cons_succ]
  refine anyE_take (i := 38) (.agg (nums 2 (two pZ.x pZ.y))) rfl rfl (by kernel_rfl) (by kernel_rfl) (by kernel_rfl) (fun qv => ym_other rfl rfl (fun L wx hT => ?_)) ?_
  · exact lands_calls (w := wx) ((add_is P N pZ oP.ok oN.ok aPN.out wx).mono fun _ _ ⟨he, hb⟩ => ⟨he, hT.below hb⟩) (by go_simp)
  simp only [Act.put, List.setIfInBounds_toArray, List.set_cons_zero, List.set_cons_succ]
  refine anyE_take (i := 39) (.agg (nums 2 (two pZ.x pZ.y))) rfl rfl (by kernel_rfl) (by kernel_rfl) (by kernel_rfl) (fun qv => ym_other rfl rfl (fun L wx hT => ?_)) ?_
  · exact lands_calls (w := wx) ((qzero_any wx).mono fun _ _ ⟨he, hb⟩ => ⟨he, hT.below hb⟩) (by go_simp)
  simp only [Act.put, List.setIfInBounds_toArray, List.set_cons_zero, List.set_cons_succ]
  refine anyE_take (i := 40) (.bool true) rfl rfl (by kernel_rfl) (by kernel_rfl) (by kernel_rfl) (fun qv => ym_other rfl rfl (fun L wx hT => ?_)) ?_
  · exact lands_eqlP _ _ rfl pZ pZ rfl rfl pZ_on.ok pZ_on.ok true (eqP_iff.2 rfl) hT
  simp only [Act.put, List.setIfInBounds_toArray, List.set_cons_zero, List.set_cons_succ]
  refine anyE_take (i := 41) (.bool true) rfl rfl (by kernel_rfl) (by kernel_rfl) (by kernel_rfl) (fun qv => ym_other rfl rfl (fun L wx hT => ?_)) ?_
  · refine lands_value (w := wx) ?_ hT; go_simp <;> rfl
  simp only [Act.put, List.setIfInBounds_toArray, List.set_cons_zero, List.set_cons_succ]
  refine anyE_take (i := 42) (.bool true) rfl rfl (by kernel_rfl) (by kernel_rfl) (by kernel_rfl) (fun qv => ym_other rfl rfl (fun L wx hT => ?_)) ?_
  · refine lands_value (w := wx) ?_ hT; go_simp <;> rfl
  simp only [Act.put, List.setIfInBounds_toArray, List.set_cons_zero, List.set_cons_succ]
  refine anyE_take (i := 43) (.agg (nums 2 (two P.x P.y))) rfl rfl (by kernel_rfl) (by kernel_rfl) (by kernel_rfl) (fun qv => ym_other rfl rfl (fun L wx hT => ?_)) ?_
  · exact lands_load _ _ rfl _ rfl _ _ _ (hT.k.blk _ m3) Try.underlying26 rfl (by kernel_rfl) hT
  simp only [Act.put, List.setIfInBounds_toArray, List.set_cons_zero, List.set_cons_succ]
  refine anyE_take (i := 44) (.agg (nums 2 (two N.x N.y))) rfl rfl (by kernel_rfl) (by kernel_rfl) (by kernel_rfl) (fun qv => ym_other rfl rfl (fun L wx hT => ?_)) ?_
  · exact lands_calls (w := wx) ((neg_is P N oP.ok nP.out wx).mono fun _ _ ⟨he, hb⟩ => ⟨he, hT.below hb⟩) (by go_simp)
  simp only [Act.put, List.setIfInBounds_toArray, List.set_cons_zero, List.set_cons_succ]
  refine anyE_take (i := 45) (.agg (nums 2 (two P.x P.y))) rfl rfl (by kernel_rfl) (by kernel_rfl) (by kernel_rfl) (fun qv => ym_other rfl rfl (fun L wx hT => ?_)) ?_
  · exact lands_calls (w := wx) ((neg_is N P oN.ok nN.out wx).mono fun _ _ ⟨he, hb⟩ => ⟨he, hT.below hb⟩) (by go_simp)
  simp only [Act.put, List.setIfInBounds_toArray, List.set_cons_zero, List.set_cons_succ]
  refine anyE_take (i := 46) (.agg (nums 2 (two P.x P.y))) rfl rfl (by kernel_rfl) (by kernel_rfl) (by kernel_rfl) (fun qv => ym_other rfl rfl (fun L wx hT => ?_)) ?_
  · exact lands_load _ _ rfl _ rfl _ _ _ (hT.k.blk _ m3) Try.underlying26 rfl (by kernel_rfl) hT
  simp only [Act.put, List.setIfInBounds_toArray, List.set_cons_zero, List.set_cons_succ]
  refine anyE_take (i := 47) (.bool true) rfl rfl (by kernel_rfl) (by kernel_rfl) (by kernel_rfl) (fun qv => ym_other rfl rfl (fun L wx hT => ?_)) ?_
  · exact lands_eqlP _ _ rfl P P rfl rfl oP.ok oP.ok true (eqP_iff.2 rfl) hT
  simp only [Act.put, List.setIfInBounds_toArray, List.set_cons_zero, List.set_cons_succ]
  refine anyE_take (i := 48) (.bool true) rfl rfl (by kernel_rfl) (by kernel_rfl) (by kernel_rfl) (fun qv => ym_other rfl rfl (fun L wx hT => ?_)) ?_
  · refine lands_value (w := wx) ?_ hT; go_simp <;> rfl
  simp only [Act.put, List.setIfInBounds_toArray, List.set_cons_zero, List.set_cons_succ]
  refine anyE_take (i := 49) (.bool true) rfl rfl (by kernel_rfl) (by kernel_rfl) (by kernel_rfl) (fun qv => ym_other rfl rfl (fun L wx hT => ?_)) ?_
  · refine lands_value (w := wx) ?_ hT; go_simp <;> rfl
  simp only [Act.put, List.setIfInBounds_toArray, List.set_cons_zero, List.set_cons_succ]
  refine anyE_done (by kernel_rfl) (fun qv w29 hK => ?_) _
  have hE := hK.outs (by kernel_rfl) (by kernel_rfl)  (b := false) (c := false) (by kernel_rfl) (by kernel_rfl)
  clear hK h27 hn28
  have h29 : KD w.heap.size w [(g26, 26, nums 2 (two S.x S.y)), (g20, 26, nums 2 (two R.x R.y)), (g15, 26, nums 2 (two Q.x Q.y)), (g10, 26, nums 2 (two P.x P.y))] w29 := hE.k
  clear hE
  clear n28
  clear qv
  repeat (first | (with_reducible apply wp_seq_k; intro _ _) | with_reducible apply wp_block | with_reducible apply wp_skip | with_reducible apply wp_exit | (go_at_K; go_step) | with_reducible apply then_normal | with_reducible apply then_exit | with_reducible apply block_normal | with_reducible apply block_same | with_reducible exact block_far rfl ?_)
  with_reducible apply wp_ret
  repeat (first | with_reducible apply then_ret | with_reducible apply block_ret)
  exact bodyPost_ret (results_tmp rfl _ _ _) rfl ⟨rfl, h29.b⟩
end Go.Proofs.Ytehcigidjghddaa
