/- The developers' Verify. (written by mkT.py) -/
import Derived.Test.YtggalphgnloneaaTd
namespace Go.Proofs.Ytggalphgnloneaa
open Go.RowKit
set_option maxRecDepth 100000 in
set_option maxHeartbeats 1000000 in
theorem ver_key (p t g f sd : ByteArray) (hs : g.size = 64) (HF : Hid (g.extract 0 32 = f)) (HD : Hid (g.extract 32 64 = sd)) (P : Pt) (CD : ∀ w, Calls Try.prog 16 #[.string p] w fun e w' => e = .returned (.tuple #[.agg (nums 2 (two P.x P.y)), .bool false]) ∧ Below w.heap.size w w') (w : World) :
    Calls Try.prog 10 #[.string p, .string t, .string g] w fun e w' => e = .returned (.bool false) ∧ Below w.heap.size w w' := by
  go_enter Try.func10, Try.ntmps10
  repeat with_reducible (first | (apply wp_seq_k; intro _ _) | (go_at_K; go_step) | apply tn | apply wp_block | apply wp_skip | apply wp_exit | apply then_exit | apply block_normal | apply block_same | exact block_far rfl ?_)
  have h1 := KD.begin w
  with_reducible apply wp_region_lit
  refine wpList_val (.bool false) rfl (by refine lands_value (w := w) ?_ h1; go_simp <;> rfl) ?_
  intro w2 h2
  simp only [pu]
  clear h1
  refine wpList_nil ?_
  repeat with_reducible (first | (apply wp_seq_k; intro _ _) | (go_at_K; go_step) | apply tn | apply wp_block | apply wp_skip | apply wp_exit | apply then_exit | apply block_normal | apply block_same | exact block_far rfl ?_)
  with_reducible apply wp_region_lit
  refine wpList_val (.string g) rfl (by refine lands_value (w := w2) ?_ h2; go_simp <;> rfl) ?_
  intro w3 h3
  simp only [pu]
  clear h2
  refine wpList_val (.int .i64 64) rfl (by refine lands_value (w := w3) ?_ h3; go_simp) ?_
  intro w4 h4
  simp only [pu]
  clear h3
  refine wpList_val (.bool false) rfl (by refine lands_value (w := w4) ?_ h4; go_simp) ?_
  intro w5 h5
  simp only [pu]
  clear h4
  refine wpList_nil ?_
  repeat with_reducible (first | (apply wp_seq_k; intro _ _) | (go_at_K; go_step) | apply tn | apply wp_block | apply wp_skip | apply wp_exit | apply then_exit | apply block_normal | apply block_same | exact block_far rfl ?_)
  refine wp_cond_false rfl ?_
  repeat with_reducible (first | (apply wp_seq_k; intro _ _) | (go_at_K; go_step) | apply tn | apply wp_block | apply wp_skip | apply wp_exit | apply then_exit | apply block_normal | apply block_same | exact block_far rfl ?_)
  obtain ⟨n6, hn6⟩ : ∃ n, n = w5.heap.size := ⟨_, rfl⟩
  refine wp_region_anyE (KM w.heap.size n6 w (fun _ _ => []) 1000 1001 []) (fun _ => false) (by kernel_rfl) (KM.begin h5 hn6 (lows hn6 h5 (fun _ _ => rfl)) _) ?_
  refine kO 0 (.string g) rfl rfl rfl (fun _ => rfl) (fun qv L wx hT => ?_) ?_
  · refine lands_value (w := wx) ?_ hT; go_simp <;> rfl
  simp only [pu]
  refine kO 1 (.string f) rfl rfl rfl (fun _ => rfl) (fun qv L wx hT => ?_) ?_
  · have hf := HF.out; refine lands_value (w := wx) ?_ hT; go_simp
  simp only [pu]
  refine kO 2 (.string g) rfl rfl rfl (fun _ => rfl) (fun qv L wx hT => ?_) ?_
  · refine lands_value (w := wx) ?_ hT; go_simp <;> rfl
  simp only [pu]
  refine kO 3 (.string sd) rfl rfl rfl (fun _ => rfl) (fun qv L wx hT => ?_) ?_
  · have hd := HD.out; refine lands_value (w := wx) ?_ hT; go_simp
  simp only [pu]
  refine kO 4 (.string f) rfl rfl rfl (fun _ => rfl) (fun qv L wx hT => ?_) ?_
  · refine lands_value (w := wx) ?_ hT; go_simp <;> rfl
  simp only [pu]
  refine kO 5 (.string sd) rfl rfl rfl (fun _ => rfl) (fun qv L wx hT => ?_) ?_
  · refine lands_value (w := wx) ?_ hT; go_simp <;> rfl
  simp only [pu]
  refine anyE_done (by kernel_rfl) (fun qv w7 hK => ?_) _
  have hE := hK.outs (by kernel_rfl) (by kernel_rfl)  (b := false) (c := false) (by kernel_rfl) (by kernel_rfl)
  clear hK h5 hn6
  have h7 : KD w.heap.size w [] w7 := hE.k
  clear hE
  clear n6
  clear qv
  repeat with_reducible (first | (apply wp_seq_k; intro _ _) | (go_at_K; go_step) | apply tn | apply wp_block | apply wp_skip | apply wp_exit | apply then_exit | apply block_normal | apply block_same | exact block_far rfl ?_)
  with_reducible apply wp_region_lit
  refine wpList_val (.string p) rfl (by refine lands_value (w := w7) ?_ h7; go_simp <;> rfl) ?_
  intro w8 h8
  simp only [pu]
  clear h7
  refine wpList_val (.tuple #[.agg (nums 2 (two P.x P.y)), .bool false]) rfl (by exact h8.call (CD w8) (by go_simp)) ?_
  intro w9 h9
  simp only [pu]
  clear h8
  refine wpList_val (.tuple #[.agg (nums 2 (two P.x P.y)), .bool false]) rfl (by refine lands_value (w := w9) ?_ h9; go_simp <;> rfl) ?_
  intro w10 h10
  simp only [pu]
  clear h9
  refine wpList_val (.agg (nums 2 (two P.x P.y))) rfl (by refine lands_value (w := w10) ?_ h10; go_simp <;> rfl) ?_
  intro w11 h11
  simp only [pu]
  clear h10
  refine wpList_val (.bool false) rfl (by refine lands_value (w := w11) ?_ h11; go_simp <;> rfl) ?_
  intro w12 h12
  simp only [pu]
  clear h11
  refine wpList_val (R := KD w.heap.size w [(w12.heap.size, 40, nums 2 (two 0 0))]) (.pointer (some ⟨w12.heap.size, 0, none⟩)) rfl (lands_run2 (alloc_run _ _ rfl zero_pt _) (h12.add _ _)) ?_
  intro w13 h13
  simp only [pu]
  clear h12
  generalize w12.heap.size = g14 at h13 ⊢
  refine wpList_val (R := KD w.heap.size w [(g14, 40, nums 2 (two P.x P.y))]) undef rfl (lands_store _ _ _ rfl g14 (nums 2 (two P.x P.y)) rfl rfl _ _ (h13.blk _ m0) (by kernel_rfl) (by kernel_rfl) (row_one fun _ => rfl) (h13.put (k := 0) rfl _)) ?_
  intro w15 h15
  simp only [pu]
  clear h13
  refine wpList_val (.bool false) rfl (by refine lands_value (w := w15) ?_ h15; go_simp <;> rfl) ?_
  intro w16 h16
  simp only [pu]
  clear h15
  refine wpList_nil ?_
  repeat with_reducible (first | (apply wp_seq_k; intro _ _) | (go_at_K; go_step) | apply tn | apply wp_block | apply wp_skip | apply wp_exit | apply then_exit | apply block_normal | apply block_same | exact block_far rfl ?_)
  with_reducible apply wp_region_lit
  refine wpList_val (.bool false) rfl (by refine lands_value (w := w16) ?_ h16; go_simp <;> rfl) ?_
  intro w17 h17
  simp only [pu]
  clear h16
  refine wpList_val (.bool true) rfl (by refine lands_value (w := w17) ?_ h17; go_simp <;> rfl) ?_
  intro w18 h18
  simp only [pu]
  clear h17
  refine wpList_val (.bool true) rfl (by refine lands_value (w := w18) ?_ h18; go_simp <;> rfl) ?_
  intro w19 h19
  simp only [pu]
  clear h18
  refine wpList_skipG rfl ?_
  simp only [pu]
  refine wpList_skipG rfl ?_
  simp only [pu]
  refine wpList_skipG rfl ?_
  simp only [pu]
  refine wpList_val (.bool true) rfl (by refine lands_value (w := w19) ?_ h19; go_simp <;> rfl) ?_
  intro w20 h20
  simp only [pu]
  clear h19
  refine wpList_nil ?_
  repeat with_reducible (first | (apply wp_seq_k; intro _ _) | (go_at_K; go_step) | apply tn | apply wp_block | apply wp_skip | apply wp_exit | apply then_exit | apply block_normal | apply block_same | exact block_far rfl ?_)
  refine wp_cond_true rfl ?_
  repeat with_reducible (first | (apply wp_seq_k; intro _ _) | (go_at_K; go_step) | apply tn | apply wp_block | apply wp_skip | apply wp_exit | apply then_exit | apply block_normal | apply block_same | exact block_far rfl ?_)
  with_reducible apply wp_region_lit
  refine wpList_val (.bool false) rfl (by refine lands_value (w := w20) ?_ h20; go_simp <;> rfl) ?_
  intro w21 h21
  simp only [pu]
  clear h20
  refine wpList_nil ?_
  repeat with_reducible (first | (apply wp_seq_k; intro _ _) | (go_at_K; go_step) | apply tn | apply wp_block | apply wp_skip | apply wp_exit | apply then_exit | apply block_normal | apply block_same | exact block_far rfl ?_)
  with_reducible apply wp_ret
  repeat (first | with_reducible apply then_ret | with_reducible apply block_ret)
  exact bodyPost_ret (results_tmp rfl _ _ _) rfl ⟨rfl, h21.b⟩
set_option maxRecDepth 100000 in
set_option maxHeartbeats 1000000 in
theorem ver_right (p t g f sd : ByteArray) (hs : g.size = 64) (HF : Hid (g.extract 0 32 = f)) (HD : Hid (g.extract 32 64 = sd)) (P : Pt) (CD : ∀ w, Calls Try.prog 16 #[.string p] w fun e w' => e = .returned (.tuple #[.agg (nums 2 (two P.x P.y)), .bool true]) ∧ Below w.heap.size w w') (CR : ∀ w, Calls Try.prog 17 #[.string sd] w fun e w' => e = .returned (.bool false) ∧ Below w.heap.size w w') (w : World) :
    Calls Try.prog 10 #[.string p, .string t, .string g] w fun e w' => e = .returned (.bool false) ∧ Below w.heap.size w w' := by
  go_enter Try.func10, Try.ntmps10
  repeat with_reducible (first | (apply wp_seq_k; intro _ _) | (go_at_K; go_step) | apply tn | apply wp_block | apply wp_skip | apply wp_exit | apply then_exit | apply block_normal | apply block_same | exact block_far rfl ?_)
  have h1 := KD.begin w
  with_reducible apply wp_region_lit
  refine wpList_val (.bool false) rfl (by refine lands_value (w := w) ?_ h1; go_simp <;> rfl) ?_
  intro w2 h2
  simp only [pu]
  clear h1
  refine wpList_nil ?_
  repeat with_reducible (first | (apply wp_seq_k; intro _ _) | (go_at_K; go_step) | apply tn | apply wp_block | apply wp_skip | apply wp_exit | apply then_exit | apply block_normal | apply block_same | exact block_far rfl ?_)
  with_reducible apply wp_region_lit
  refine wpList_val (.string g) rfl (by refine lands_value (w := w2) ?_ h2; go_simp <;> rfl) ?_
  intro w3 h3
  simp only [pu]
  clear h2
  refine wpList_val (.int .i64 64) rfl (by refine lands_value (w := w3) ?_ h3; go_simp) ?_
  intro w4 h4
  simp only [pu]
  clear h3
  refine wpList_val (.bool false) rfl (by refine lands_value (w := w4) ?_ h4; go_simp) ?_
  intro w5 h5
  simp only [pu]
  clear h4
  refine wpList_nil ?_
  repeat with_reducible (first | (apply wp_seq_k; intro _ _) | (go_at_K; go_step) | apply tn | apply wp_block | apply wp_skip | apply wp_exit | apply then_exit | apply block_normal | apply block_same | exact block_far rfl ?_)
  refine wp_cond_false rfl ?_
  repeat with_reducible (first | (apply wp_seq_k; intro _ _) | (go_at_K; go_step) | apply tn | apply wp_block | apply wp_skip | apply wp_exit | apply then_exit | apply block_normal | apply block_same | exact block_far rfl ?_)
  obtain ⟨n6, hn6⟩ : ∃ n, n = w5.heap.size := ⟨_, rfl⟩
  refine wp_region_anyE (KM w.heap.size n6 w (fun _ _ => []) 1000 1001 []) (fun _ => false) (by kernel_rfl) (KM.begin h5 hn6 (lows hn6 h5 (fun _ _ => rfl)) _) ?_
  refine kO 0 (.string g) rfl rfl rfl (fun _ => rfl) (fun qv L wx hT => ?_) ?_
  · refine lands_value (w := wx) ?_ hT; go_simp <;> rfl
  simp only [pu]
  refine kO 1 (.string f) rfl rfl rfl (fun _ => rfl) (fun qv L wx hT => ?_) ?_
  · have hf := HF.out; refine lands_value (w := wx) ?_ hT; go_simp
  simp only [pu]
  refine kO 2 (.string g) rfl rfl rfl (fun _ => rfl) (fun qv L wx hT => ?_) ?_
  · refine lands_value (w := wx) ?_ hT; go_simp <;> rfl
  simp only [pu]
  refine kO 3 (.string sd) rfl rfl rfl (fun _ => rfl) (fun qv L wx hT => ?_) ?_
  · have hd := HD.out; refine lands_value (w := wx) ?_ hT; go_simp
  simp only [pu]
  refine kO 4 (.string f) rfl rfl rfl (fun _ => rfl) (fun qv L wx hT => ?_) ?_
  · refine lands_value (w := wx) ?_ hT; go_simp <;> rfl
  simp only [pu]
  refine kO 5 (.string sd) rfl rfl rfl (fun _ => rfl) (fun qv L wx hT => ?_) ?_
  · refine lands_value (w := wx) ?_ hT; go_simp <;> rfl
  simp only [pu]
  refine anyE_done (by kernel_rfl) (fun qv w7 hK => ?_) _
  have hE := hK.outs (by kernel_rfl) (by kernel_rfl)  (b := false) (c := false) (by kernel_rfl) (by kernel_rfl)
  clear hK h5 hn6
  have h7 : KD w.heap.size w [] w7 := hE.k
  clear hE
  clear n6
  clear qv
  repeat with_reducible (first | (apply wp_seq_k; intro _ _) | (go_at_K; go_step) | apply tn | apply wp_block | apply wp_skip | apply wp_exit | apply then_exit | apply block_normal | apply block_same | exact block_far rfl ?_)
  with_reducible apply wp_region_lit
  refine wpList_val (.string p) rfl (by refine lands_value (w := w7) ?_ h7; go_simp <;> rfl) ?_
  intro w8 h8
  simp only [pu]
  clear h7
  refine wpList_val (.tuple #[.agg (nums 2 (two P.x P.y)), .bool true]) rfl (by exact h8.call (CD w8) (by go_simp)) ?_
  intro w9 h9
  simp only [pu]
  clear h8
  refine wpList_val (.tuple #[.agg (nums 2 (two P.x P.y)), .bool true]) rfl (by refine lands_value (w := w9) ?_ h9; go_simp <;> rfl) ?_
  intro w10 h10
  simp only [pu]
  clear h9
  refine wpList_val (.agg (nums 2 (two P.x P.y))) rfl (by refine lands_value (w := w10) ?_ h10; go_simp <;> rfl) ?_
  intro w11 h11
  simp only [pu]
  clear h10
  refine wpList_val (.bool true) rfl (by refine lands_value (w := w11) ?_ h11; go_simp <;> rfl) ?_
  intro w12 h12
  simp only [pu]
  clear h11
  refine wpList_val (R := KD w.heap.size w [(w12.heap.size, 40, nums 2 (two 0 0))]) (.pointer (some ⟨w12.heap.size, 0, none⟩)) rfl (lands_run2 (alloc_run _ _ rfl zero_pt _) (h12.add _ _)) ?_
  intro w13 h13
  simp only [pu]
  clear h12
  generalize w12.heap.size = g14 at h13 ⊢
  refine wpList_val (R := KD w.heap.size w [(g14, 40, nums 2 (two P.x P.y))]) undef rfl (lands_store _ _ _ rfl g14 (nums 2 (two P.x P.y)) rfl rfl _ _ (h13.blk _ m0) (by kernel_rfl) (by kernel_rfl) (row_one fun _ => rfl) (h13.put (k := 0) rfl _)) ?_
  intro w15 h15
  simp only [pu]
  clear h13
  refine wpList_val (.bool true) rfl (by refine lands_value (w := w15) ?_ h15; go_simp <;> rfl) ?_
  intro w16 h16
  simp only [pu]
  clear h15
  refine wpList_nil ?_
  repeat with_reducible (first | (apply wp_seq_k; intro _ _) | (go_at_K; go_step) | apply tn | apply wp_block | apply wp_skip | apply wp_exit | apply then_exit | apply block_normal | apply block_same | exact block_far rfl ?_)
  with_reducible apply wp_region_lit
  refine wpList_val (.bool true) rfl (by refine lands_value (w := w16) ?_ h16; go_simp <;> rfl) ?_
  intro w17 h17
  simp only [pu]
  clear h16
  refine wpList_val (.bool false) rfl (by refine lands_value (w := w17) ?_ h17; go_simp <;> rfl) ?_
  intro w18 h18
  simp only [pu]
  clear h17
  refine wpList_val (.bool false) rfl (by refine lands_value (w := w18) ?_ h18; go_simp <;> rfl) ?_
  intro w19 h19
  simp only [pu]
  clear h18
  refine wpList_valG (.string sd) rfl (by refine lands_value (w := w19) ?_ h19; go_simp <;> rfl) ?_
  intro w20 h20
  simp only [pu]
  clear h19
  refine wpList_valG (.bool false) rfl (by exact h20.call (CR w20) (by go_simp)) ?_
  intro w21 h21
  simp only [pu]
  clear h20
  refine wpList_valG (.bool true) rfl (by refine lands_value (w := w21) ?_ h21; go_simp <;> rfl) ?_
  intro w22 h22
  simp only [pu]
  clear h21
  refine wpList_val (.bool true) rfl (by refine lands_value (w := w22) ?_ h22; go_simp <;> rfl) ?_
  intro w23 h23
  simp only [pu]
  clear h22
  refine wpList_nil ?_
  repeat with_reducible (first | (apply wp_seq_k; intro _ _) | (go_at_K; go_step) | apply tn | apply wp_block | apply wp_skip | apply wp_exit | apply then_exit | apply block_normal | apply block_same | exact block_far rfl ?_)
  refine wp_cond_true rfl ?_
  repeat with_reducible (first | (apply wp_seq_k; intro _ _) | (go_at_K; go_step) | apply tn | apply wp_block | apply wp_skip | apply wp_exit | apply then_exit | apply block_normal | apply block_same | exact block_far rfl ?_)
  with_reducible apply wp_region_lit
  refine wpList_val (.bool false) rfl (by refine lands_value (w := w23) ?_ h23; go_simp <;> rfl) ?_
  intro w24 h24
  simp only [pu]
  clear h23
  refine wpList_nil ?_
  repeat with_reducible (first | (apply wp_seq_k; intro _ _) | (go_at_K; go_step) | apply tn | apply wp_block | apply wp_skip | apply wp_exit | apply then_exit | apply block_normal | apply block_same | exact block_far rfl ?_)
  with_reducible apply wp_ret
  repeat (first | with_reducible apply then_ret | with_reducible apply block_ret)
  exact bodyPost_ret (results_tmp rfl _ _ _) rfl ⟨rfl, h24.b⟩
set_option maxRecDepth 100000 in
set_option maxHeartbeats 1000000 in
theorem ver_same (p t g f sd : ByteArray) (hs : g.size = 64) (HF : Hid (g.extract 0 32 = f)) (HD : Hid (g.extract 32 64 = sd)) (P : Pt) (k z : ByteArray) (N A B Q : Pt) (CD : ∀ w, Calls Try.prog 16 #[.string p] w fun e w' => e = .returned (.tuple #[.agg (nums 2 (two P.x P.y)), .bool true]) ∧ Below w.heap.size w w') (CR : ∀ w, Calls Try.prog 17 #[.string sd] w fun e w' => e = .returned (.bool true) ∧ Below w.heap.size w w') (CK : ∀ g w, Blk w g 9 #[.string f, .string p, .string t] → Calls Try.prog 14 #[.slice (some ⟨g, 0, none⟩) 3 3] w fun e w' => e = .returned (.string k) ∧ Below w.heap.size w w') (CA : ∀ w, Calls Try.prog 20 #[.string sd, .agg (nums 2 (two bP.x bP.y))] w fun e w' => e = .returned (.agg (nums 2 (two A.x A.y))) ∧ Below w.heap.size w w') (CN : ∀ w, Calls Try.prog 22 #[.agg (nums 2 (two P.x P.y))] w fun e w' => e = .returned (.agg (nums 2 (two N.x N.y))) ∧ Below w.heap.size w w') (CB : ∀ w, Calls Try.prog 20 #[.string k, .agg (nums 2 (two N.x N.y))] w fun e w' => e = .returned (.agg (nums 2 (two B.x B.y))) ∧ Below w.heap.size w w') (CQ : ∀ w, Calls Try.prog 19 #[.agg (nums 2 (two A.x A.y)), .agg (nums 2 (two B.x B.y))] w fun e w' => e = .returned (.agg (nums 2 (two Q.x Q.y))) ∧ Below w.heap.size w w') (CE : ∀ w, Calls Try.prog 18 #[.agg (nums 2 (two Q.x Q.y))] w fun e w' => e = .returned (.tuple #[.string z, .bool true]) ∧ Below w.heap.size w w') (w : World) :
    Calls Try.prog 10 #[.string p, .string t, .string g] w fun e w' => e = .returned (.bool (decide (z = f))) ∧ Below w.heap.size w w' := by
  go_enter Try.func10, Try.ntmps10
  repeat with_reducible (first | (apply wp_seq_k; intro _ _) | (go_at_K; go_step) | apply tn | apply wp_block | apply wp_skip | apply wp_exit | apply then_exit | apply block_normal | apply block_same | exact block_far rfl ?_)
  have h1 := KD.begin w
  with_reducible apply wp_region_lit
  refine wpList_val (.bool false) rfl (by refine lands_value (w := w) ?_ h1; go_simp <;> rfl) ?_
  intro w2 h2
  simp only [pu]
  clear h1
  refine wpList_nil ?_
  repeat with_reducible (first | (apply wp_seq_k; intro _ _) | (go_at_K; go_step) | apply tn | apply wp_block | apply wp_skip | apply wp_exit | apply then_exit | apply block_normal | apply block_same | exact block_far rfl ?_)
  with_reducible apply wp_region_lit
  refine wpList_val (.string g) rfl (by refine lands_value (w := w2) ?_ h2; go_simp <;> rfl) ?_
  intro w3 h3
  simp only [pu]
  clear h2
  refine wpList_val (.int .i64 64) rfl (by refine lands_value (w := w3) ?_ h3; go_simp) ?_
  intro w4 h4
  simp only [pu]
  clear h3
  refine wpList_val (.bool false) rfl (by refine lands_value (w := w4) ?_ h4; go_simp) ?_
  intro w5 h5
  simp only [pu]
  clear h4
  refine wpList_nil ?_
  repeat with_reducible (first | (apply wp_seq_k; intro _ _) | (go_at_K; go_step) | apply tn | apply wp_block | apply wp_skip | apply wp_exit | apply then_exit | apply block_normal | apply block_same | exact block_far rfl ?_)
  refine wp_cond_false rfl ?_
  repeat with_reducible (first | (apply wp_seq_k; intro _ _) | (go_at_K; go_step) | apply tn | apply wp_block | apply wp_skip | apply wp_exit | apply then_exit | apply block_normal | apply block_same | exact block_far rfl ?_)
  obtain ⟨n6, hn6⟩ : ∃ n, n = w5.heap.size := ⟨_, rfl⟩
  refine wp_region_anyE (KM w.heap.size n6 w (fun _ _ => []) 1000 1001 []) (fun _ => false) (by kernel_rfl) (KM.begin h5 hn6 (lows hn6 h5 (fun _ _ => rfl)) _) ?_
  refine kO 0 (.string g) rfl rfl rfl (fun _ => rfl) (fun qv L wx hT => ?_) ?_
  · refine lands_value (w := wx) ?_ hT; go_simp <;> rfl
  simp only [pu]
  refine kO 1 (.string f) rfl rfl rfl (fun _ => rfl) (fun qv L wx hT => ?_) ?_
  · have hf := HF.out; refine lands_value (w := wx) ?_ hT; go_simp
  simp only [pu]
  refine kO 2 (.string g) rfl rfl rfl (fun _ => rfl) (fun qv L wx hT => ?_) ?_
  · refine lands_value (w := wx) ?_ hT; go_simp <;> rfl
  simp only [pu]
  refine kO 3 (.string sd) rfl rfl rfl (fun _ => rfl) (fun qv L wx hT => ?_) ?_
  · have hd := HD.out; refine lands_value (w := wx) ?_ hT; go_simp
  simp only [pu]
  refine kO 4 (.string f) rfl rfl rfl (fun _ => rfl) (fun qv L wx hT => ?_) ?_
  · refine lands_value (w := wx) ?_ hT; go_simp <;> rfl
  simp only [pu]
  refine kO 5 (.string sd) rfl rfl rfl (fun _ => rfl) (fun qv L wx hT => ?_) ?_
  · refine lands_value (w := wx) ?_ hT; go_simp <;> rfl
  simp only [pu]
  refine anyE_done (by kernel_rfl) (fun qv w7 hK => ?_) _
  have hE := hK.outs (by kernel_rfl) (by kernel_rfl)  (b := false) (c := false) (by kernel_rfl) (by kernel_rfl)
  clear hK h5 hn6
  have h7 : KD w.heap.size w [] w7 := hE.k
  clear hE
  clear n6
  clear qv
  repeat with_reducible (first | (apply wp_seq_k; intro _ _) | (go_at_K; go_step) | apply tn | apply wp_block | apply wp_skip | apply wp_exit | apply then_exit | apply block_normal | apply block_same | exact block_far rfl ?_)
  with_reducible apply wp_region_lit
  refine wpList_val (.string p) rfl (by refine lands_value (w := w7) ?_ h7; go_simp <;> rfl) ?_
  intro w8 h8
  simp only [pu]
  clear h7
  refine wpList_val (.tuple #[.agg (nums 2 (two P.x P.y)), .bool true]) rfl (by exact h8.call (CD w8) (by go_simp)) ?_
  intro w9 h9
  simp only [pu]
  clear h8
  refine wpList_val (.tuple #[.agg (nums 2 (two P.x P.y)), .bool true]) rfl (by refine lands_value (w := w9) ?_ h9; go_simp <;> rfl) ?_
  intro w10 h10
  simp only [pu]
  clear h9
  refine wpList_val (.agg (nums 2 (two P.x P.y))) rfl (by refine lands_value (w := w10) ?_ h10; go_simp <;> rfl) ?_
  intro w11 h11
  simp only [pu]
  clear h10
  refine wpList_val (.bool true) rfl (by refine lands_value (w := w11) ?_ h11; go_simp <;> rfl) ?_
  intro w12 h12
  simp only [pu]
  clear h11
  refine wpList_val (R := KD w.heap.size w [(w12.heap.size, 40, nums 2 (two 0 0))]) (.pointer (some ⟨w12.heap.size, 0, none⟩)) rfl (lands_run2 (alloc_run _ _ rfl zero_pt _) (h12.add _ _)) ?_
  intro w13 h13
  simp only [pu]
  clear h12
  generalize w12.heap.size = g14 at h13 ⊢
  refine wpList_val (R := KD w.heap.size w [(g14, 40, nums 2 (two P.x P.y))]) undef rfl (lands_store _ _ _ rfl g14 (nums 2 (two P.x P.y)) rfl rfl _ _ (h13.blk _ m0) (by kernel_rfl) (by kernel_rfl) (row_one fun _ => rfl) (h13.put (k := 0) rfl _)) ?_
  intro w15 h15
  simp only [pu]
  clear h13
  refine wpList_val (.bool true) rfl (by refine lands_value (w := w15) ?_ h15; go_simp <;> rfl) ?_
  intro w16 h16
  simp only [pu]
  clear h15
  refine wpList_nil ?_
  repeat with_reducible (first | (apply wp_seq_k; intro _ _) | (go_at_K; go_step) | apply tn | apply wp_block | apply wp_skip | apply wp_exit | apply then_exit | apply block_normal | apply block_same | exact block_far rfl ?_)
  with_reducible apply wp_region_lit
  refine wpList_val (.bool true) rfl (by refine lands_value (w := w16) ?_ h16; go_simp <;> rfl) ?_
  intro w17 h17
  simp only [pu]
  clear h16
  refine wpList_val (.bool false) rfl (by refine lands_value (w := w17) ?_ h17; go_simp <;> rfl) ?_
  intro w18 h18
  simp only [pu]
  clear h17
  refine wpList_val (.bool false) rfl (by refine lands_value (w := w18) ?_ h18; go_simp <;> rfl) ?_
  intro w19 h19
  simp only [pu]
  clear h18
  refine wpList_valG (.string sd) rfl (by refine lands_value (w := w19) ?_ h19; go_simp <;> rfl) ?_
  intro w20 h20
  simp only [pu]
  clear h19
  refine wpList_valG (.bool true) rfl (by exact h20.call (CR w20) (by go_simp)) ?_
  intro w21 h21
  simp only [pu]
  clear h20
  refine wpList_valG (.bool false) rfl (by refine lands_value (w := w21) ?_ h21; go_simp <;> rfl) ?_
  intro w22 h22
  simp only [pu]
  clear h21
  refine wpList_val (.bool false) rfl (by refine lands_value (w := w22) ?_ h22; go_simp <;> rfl) ?_
  intro w23 h23
  simp only [pu]
  clear h22
  refine wpList_nil ?_
  repeat with_reducible (first | (apply wp_seq_k; intro _ _) | (go_at_K; go_step) | apply tn | apply wp_block | apply wp_skip | apply wp_exit | apply then_exit | apply block_normal | apply block_same | exact block_far rfl ?_)
  refine wp_cond_false rfl ?_
  repeat with_reducible (first | (apply wp_seq_k; intro _ _) | (go_at_K; go_step) | apply tn | apply wp_block | apply wp_skip | apply wp_exit | apply then_exit | apply block_normal | apply block_same | exact block_far rfl ?_)
  with_reducible apply wp_region_lit
  refine wpList_val (.string f) rfl (by refine lands_value (w := w23) ?_ h23; go_simp <;> rfl) ?_
  intro w24 h24
  simp only [pu]
  clear h23
  refine wpList_val (.string p) rfl (by refine lands_value (w := w24) ?_ h24; go_simp <;> rfl) ?_
  intro w25 h25
  simp only [pu]
  clear h24
  refine wpList_val (.string t) rfl (by refine lands_value (w := w25) ?_ h25; go_simp <;> rfl) ?_
  intro w26 h26
  simp only [pu]
  clear h25
  refine wpList_val (R := KD w.heap.size w [(w26.heap.size, 9, #[.string f, .string p, .string t]), (g14, 40, nums 2 (two P.x P.y))]) (.slice (some ⟨w26.heap.size, 0, none⟩) 3 3) rfl (lands_run2 (by go_simp) (h26.add _ _)) ?_
  intro w27 h27
  simp only [pu]
  clear h26
  generalize w26.heap.size = g28 at h27 ⊢
  refine wpList_val (.string k) rfl (by exact h27.call (CK g28 w27 (h27.blk _ m0)) (by go_simp)) ?_
  intro w29 h29
  simp only [pu]
  clear h27
  refine wpList_val (.string k) rfl (by refine lands_value (w := w29) ?_ h29; go_simp <;> rfl) ?_
  intro w30 h30
  simp only [pu]
  clear h29
  refine wpList_nil ?_
  repeat with_reducible (first | (apply wp_seq_k; intro _ _) | (go_at_K; go_step) | apply tn | apply wp_block | apply wp_skip | apply wp_exit | apply then_exit | apply block_normal | apply block_same | exact block_far rfl ?_)
  obtain ⟨n31, hn31⟩ : ∃ n, n = w30.heap.size := ⟨_, rfl⟩
  refine wp_region_anyE (KM w.heap.size n31 w (fun _ _ => [(g28, 9, #[.string f, .string p, .string t]), (g14, 40, nums 2 (two P.x P.y))]) 1000 1001 []) (fun _ => false) (by kernel_rfl) (KM.begin h30 hn31 (lows hn31 h30 (fun _ _ => rfl)) _) ?_
  refine kO 0 (.string sd) rfl rfl rfl (fun _ => rfl) (fun qv L wx hT => ?_) ?_
  · refine lands_value (w := wx) ?_ hT; go_simp <;> rfl
  simp only [pu]
  refine kO 1 (.agg (nums 2 (two bP.x bP.y))) rfl rfl rfl (fun _ => rfl) (fun qv L wx hT => ?_) ?_
  · exact hT.call (qbase_any wx) (by go_simp)
  simp only [pu]
  refine kO 2 (.agg (nums 2 (two A.x A.y))) rfl rfl rfl (fun _ => rfl) (fun qv L wx hT => ?_) ?_
  · exact hT.call (CA wx) (by go_simp)
  simp only [pu]
  refine kO 3 (.string k) rfl rfl rfl (fun _ => rfl) (fun qv L wx hT => ?_) ?_
  · refine lands_value (w := wx) ?_ hT; go_simp <;> rfl
  simp only [pu]
  refine kO 4 (.agg (nums 2 (two P.x P.y))) rfl rfl rfl (fun _ => rfl) (fun qv L wx hT => ?_) ?_
  · exact lands_load _ _ rfl _ rfl _ _ _ (hT.k.blk _ m1) Try.underlying40 rfl (by kernel_rfl) hT
  simp only [pu]
  refine kO 5 (.agg (nums 2 (two N.x N.y))) rfl rfl rfl (fun _ => rfl) (fun qv L wx hT => ?_) ?_
  · exact hT.call (CN wx) (by go_simp)
  simp only [pu]
  refine kO 6 (.agg (nums 2 (two B.x B.y))) rfl rfl rfl (fun _ => rfl) (fun qv L wx hT => ?_) ?_
  · exact hT.call (CB wx) (by go_simp)
  simp only [pu]
  refine kO 7 (.agg (nums 2 (two Q.x Q.y))) rfl rfl rfl (fun _ => rfl) (fun qv L wx hT => ?_) ?_
  · exact hT.call (CQ wx) (by go_simp)
  simp only [pu]
  refine kO 8 (.tuple #[.string z, .bool true]) rfl rfl rfl (fun _ => rfl) (fun qv L wx hT => ?_) ?_
  · exact hT.call (CE wx) (by go_simp)
  simp only [pu]
  refine kO 9 (.tuple #[.string z, .bool true]) rfl rfl rfl (fun _ => rfl) (fun qv L wx hT => ?_) ?_
  · refine lands_value (w := wx) ?_ hT; go_simp <;> rfl
  simp only [pu]
  refine kO 10 (.string z) rfl rfl rfl (fun _ => rfl) (fun qv L wx hT => ?_) ?_
  · refine lands_value (w := wx) ?_ hT; go_simp <;> rfl
  simp only [pu]
  refine kO 11 (.bool true) rfl rfl rfl (fun _ => rfl) (fun qv L wx hT => ?_) ?_
  · refine lands_value (w := wx) ?_ hT; go_simp <;> rfl
  simp only [pu]
  refine kO 12 (.string z) rfl rfl rfl (fun _ => rfl) (fun qv L wx hT => ?_) ?_
  · refine lands_value (w := wx) ?_ hT; go_simp <;> rfl
  simp only [pu]
  refine kO 13 (.bool true) rfl rfl rfl (fun _ => rfl) (fun qv L wx hT => ?_) ?_
  · refine lands_value (w := wx) ?_ hT; go_simp <;> rfl
  simp only [pu]
  refine anyE_done (by kernel_rfl) (fun qv w32 hK => ?_) _
  have hE := hK.outs (by kernel_rfl) (by kernel_rfl)  (b := false) (c := false) (by kernel_rfl) (by kernel_rfl)
  clear hK h30 hn31
  have h32 : KD w.heap.size w [(g28, 9, #[.string f, .string p, .string t]), (g14, 40, nums 2 (two P.x P.y))] w32 := hE.k
  clear hE
  clear n31
  clear qv
  repeat with_reducible (first | (apply wp_seq_k; intro _ _) | (go_at_K; go_step) | apply tn | apply wp_block | apply wp_skip | apply wp_exit | apply then_exit | apply block_normal | apply block_same | exact block_far rfl ?_)
  with_reducible apply wp_region_lit
  refine wpList_val (.bool true) rfl (by refine lands_value (w := w32) ?_ h32; go_simp <;> rfl) ?_
  intro w33 h33
  simp only [pu]
  clear h32
  refine wpList_val (.bool true) rfl (by refine lands_value (w := w33) ?_ h33; go_simp <;> rfl) ?_
  intro w34 h34
  simp only [pu]
  clear h33
  refine wpList_valG (.string z) rfl (by refine lands_value (w := w34) ?_ h34; go_simp <;> rfl) ?_
  intro w35 h35
  simp only [pu]
  clear h34
  refine wpList_valG (.string f) rfl (by refine lands_value (w := w35) ?_ h35; go_simp <;> rfl) ?_
  intro w36 h36
  simp only [pu]
  clear h35
  refine wpList_valG (.bool (decide (z = f))) rfl (by refine lands_value (w := w36) ?_ h36; go_simp; rw [L4.text_eq]) ?_
  intro w37 h37
  simp only [pu]
  clear h36
  refine wpList_val (.bool (decide (z = f))) rfl (by refine lands_value (w := w37) ?_ h37; go_simp <;> rfl) ?_
  intro w38 h38
  simp only [pu]
  clear h37
  refine wpList_val (.bool (decide (z = f))) rfl (by refine lands_value (w := w38) ?_ h38; go_simp <;> rfl) ?_
  intro w39 h39
  simp only [pu]
  clear h38
  refine wpList_nil ?_
  repeat with_reducible (first | (apply wp_seq_k; intro _ _) | (go_at_K; go_step) | apply tn | apply wp_block | apply wp_skip | apply wp_exit | apply then_exit | apply block_normal | apply block_same | exact block_far rfl ?_)
  with_reducible apply wp_ret
  repeat (first | with_reducible apply then_ret | with_reducible apply block_ret)
  exact bodyPost_ret (results_tmp rfl _ _ _) rfl ⟨rfl, h39.b⟩
theorem ver_size (p t g : ByteArray) (hs : ¬ g.size = 64) (w : World) :
    Calls Try.prog 10 #[.string p, .string t, .string g] w fun e w' => e = .returned (.bool false) ∧ Below w.heap.size w w' := by
  go_enter Try.func10, Try.ntmps10
  go_wp2_with fail
  go_ret
  exact ⟨rfl, Below.refl _ _⟩
theorem key_size {p : ByteArray} {P : Pt} (h : decV p = (P, true)) : p.size = 32 := by rw [← (enc_dec h).2]; exact bytesV_size _
theorem verify_is (p t g : ByteArray) (v : Bool) (ht : t.size ≤ 1000) (hv : verV p t g = v) (w : World) :
    Calls Try.prog 10 #[.string p, .string t, .string g] w fun e w' => e = .returned (.bool v) ∧ Below w.heap.size w w' := by
  by_cases hs : g.size = 64
  · cases hd : decV p with
    | mk P ok =>
      cases ok with
      | false =>
        rw [verV_key (by rw [hd]; exact Bool.false_ne_true)] at hv
        subst hv
        exact ver_key p t g _ _ hs (Lib.hid rfl) (Lib.hid rfl) P (fun w => dec_is p P false hd w) w
      | true =>
        by_cases hr : L4.redV (g.extract 32 64) = g.extract 32 64
        · rw [verV_is hs hd hr] at hv
          subst hv
          have hP := (enc_dec hd).1
          have hN := pneg_on hP
          have hA := pmul_on base_on (numV (g.extract 32 64) 32)
          have hB := pmul_on hN (numV (kS (g.extract 0 32) p t) 32)
          have hQ := padd_on hA hB
          exact ver_same p t g _ _ hs (Lib.hid rfl) (Lib.hid rfl) P _ _ _ _ _ _ (fun w => dec_is p P true hd w)
            (fun w => by have := L4.qright_any (g.extract 32 64) w; rw [decide_eq_true hr] at this; exact this)
            (red3_is (g.extract 0 32) p t _ (by rw [ByteArray.size_extract]; omega) (by rw [key_size hd]; decide) (Nat.le_trans ht (by decide)) rfl)
            (fun w => mul_is _ bP _ base_on.ok (by rw [cnt_base]) w)
            (fun w => neg_is P _ hP.ok (by rw [cnt_C' hP]) w)
            (fun w => mul_is _ _ _ hN.ok (by rw [cnt_C' hN]) w)
            (fun w => add_is _ _ _ hA.ok hB.ok (by rw [cnt_C' hA, cnt_C' hB]) w)
            (fun w => enc_is _ _ true hQ.ok (encV_on (onB_C.2 hQ)) w) w
        · rw [verV_right hr] at hv
          subst hv
          exact ver_right p t g _ _ hs (Lib.hid rfl) (Lib.hid rfl) P (fun w => dec_is p P true hd w)
            (fun w => by have := L4.qright_any (g.extract 32 64) w; rw [decide_eq_false hr] at this; exact this) w
  · rw [verV_size hs] at hv
    subst hv
    exact ver_size p t g hs w
end Go.Proofs.Ytggalphgnloneaa
