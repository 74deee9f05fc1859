/- The developers' Verify. (written by mkT.py) -/
import Derived.Test.YtggalphgnloneaaGreatTd
import Derived.Test.YtggalphgnloneaaGreatTv
import Derived.Test.YtggalphgnloneaaGreatQAd
namespace Go.Proofs.YtggalphgnloneaaGreat
open Go.RowKit
set_option maxRecDepth 100000 in
set_option maxHeartbeats 1000000 in
theorem ver_key (p t g f sd : ByteArray) (hs : g.size = 64) (HF : Hid (g.extract 0 32 = f)) (HD : Hid (g.extract 32 64 = sd)) (P : Pt) (CD : ∀ w, Calls Tryz.prog 23 #[.string p] w fun e w' => e = .returned (.tuple #[.agg (nums 2 (two P.x P.y)), .bool false]) ∧ Below w.heap.size w w') (w : World) :
    Calls Tryz.prog 11 #[.string p, .string t, .string g] w fun e w' => e = .returned (.bool false) ∧ Below w.heap.size w w' := by
  go_enter Tryz.func11, Tryz.ntmps11
  with_reducible (apply wp_seq_k; intro _ _)
  have h1 := KD.begin w
  with_reducible apply wp_region_lit
  refine wV (.bool false) ?_
  simp only [pu]
  refine wpList_nil ?_
  with_reducible (apply tn; go_at_K; go_step; apply wp_seq_k; intro _ _; apply wp_seq_k; intro _ _)
  with_reducible apply wp_region_lit
  refine wV (.string g) ?_
  simp only [pu]
  refine wV (.int .i64 64) ?_
  simp only [pu]
  refine wV (.bool false) ?_
  simp only [pu]
  refine wpList_nil ?_
  with_reducible (apply tn; go_at_K; go_step)
  refine wp_cond_false rfl ?_
  with_reducible (apply wp_skip; apply tn; go_at_K; go_step; apply wp_seq_k; intro _ _)
  obtain ⟨n2, hn2⟩ : ∃ n, n = w.heap.size := ⟨_, rfl⟩
  refine wp_region_anyE (KM w.heap.size n2 w (fun _ _ => []) 1000 1001 []) (fun _ => false) (by kernel_rfl) (KM.begin h1 hn2 (lows hn2 h1 (fun _ _ => rfl)) _) ?_
  refine kV 0 (.string g) rfl ?_
  simp only [pu]
  refine kW 1 (.string f) rfl (fun qv L wx hT => ?_) ?_
  · have hf := HF.out; refine lands_value (w := wx) ?_ hT; go_simp
  simp only [pu]
  refine kV 2 (.string g) rfl ?_
  simp only [pu]
  refine kW 3 (.string sd) rfl (fun qv L wx hT => ?_) ?_
  · have hd := HD.out; refine lands_value (w := wx) ?_ hT; go_simp
  simp only [pu]
  refine kV 4 (.string f) rfl ?_
  simp only [pu]
  refine kV 5 (.string sd) rfl ?_
  simp only [pu]
  refine anyE_done (by kernel_rfl) (fun qv w3 hK => ?_) _
  have hE := hK.outs (by kernel_rfl) (by kernel_rfl)  (b := false) (c := false) (by kernel_rfl) (by kernel_rfl)
  clear hK h1 hn2
  have h3 : KD w.heap.size w [] w3 := hE.k
  clear hE
  clear n2
  clear qv
  with_reducible (apply tn; go_at_K; go_step; apply wp_seq_k; intro _ _)
  with_reducible apply wp_region_lit
  refine wV (.string p) ?_
  simp only [pu]
  refine wC h3 (CD w3) fun w4 h4 => ?_
  simp only [pu]
  clear h3
  refine wV (.tuple #[.agg (nums 2 (two P.x P.y)), .bool false]) ?_
  simp only [pu]
  refine wV (.agg (nums 2 (two P.x P.y))) ?_
  simp only [pu]
  refine wV (.bool false) ?_
  simp only [pu]
  refine wA h4 (alloc_run _ _ rfl zero_pt _) fun w5 h5 => ?_
  simp only [pu]
  clear h4
  generalize w4.heap.size = g6 at h5 ⊢
  refine wpList_val (R := KD w.heap.size w [(g6, 42, nums 2 (two P.x P.y))]) undef rfl (lands_store _ _ _ rfl g6 (nums 2 (two P.x P.y)) rfl rfl _ _ (h5.blk _ m0) (by kernel_rfl) (by kernel_rfl) (row_one fun _ => rfl) (h5.put (k := 0) rfl _)) ?_
  intro w7 h7
  simp only [pu]
  clear h5
  refine wV (.bool false) ?_
  simp only [pu]
  refine wpList_nil ?_
  with_reducible (apply tn; go_at_K; go_step; apply wp_seq_k; intro _ _; apply wp_seq_k; intro _ _)
  with_reducible apply wp_region_lit
  refine wV (.bool false) ?_
  simp only [pu]
  refine wV (.bool true) ?_
  simp only [pu]
  refine wV (.bool true) ?_
  simp only [pu]
  refine wpList_skipG rfl ?_
  simp only [pu]
  refine wpList_skipG rfl ?_
  simp only [pu]
  refine wpList_skipG rfl ?_
  simp only [pu]
  refine wV (.bool true) ?_
  simp only [pu]
  refine wpList_nil ?_
  with_reducible (apply tn; go_at_K; go_step)
  refine wp_cond_true rfl ?_
  with_reducible (apply wp_seq_k; intro _ _)
  with_reducible apply wp_region_lit
  refine wV (.bool false) ?_
  simp only [pu]
  refine wpList_nil ?_
  with_reducible (apply tn; go_at_K; go_step)
  with_reducible apply wp_ret
  repeat (first | with_reducible apply then_ret | with_reducible apply block_ret)
  exact bodyPost_ret (results_tmp rfl _ _ _) rfl ⟨rfl, h7.b⟩
set_option maxRecDepth 100000 in
set_option maxHeartbeats 1000000 in
theorem ver_right (p t g f sd : ByteArray) (hs : g.size = 64) (HF : Hid (g.extract 0 32 = f)) (HD : Hid (g.extract 32 64 = sd)) (P : Pt) (CD : ∀ w, Calls Tryz.prog 23 #[.string p] w fun e w' => e = .returned (.tuple #[.agg (nums 2 (two P.x P.y)), .bool true]) ∧ Below w.heap.size w w') (CR : ∀ w, Calls Tryz.prog 24 #[.string sd] w fun e w' => e = .returned (.bool false) ∧ Below w.heap.size w w') (w : World) :
    Calls Tryz.prog 11 #[.string p, .string t, .string g] w fun e w' => e = .returned (.bool false) ∧ Below w.heap.size w w' := by
  go_enter Tryz.func11, Tryz.ntmps11
  with_reducible (apply wp_seq_k; intro _ _)
  have h1 := KD.begin w
  with_reducible apply wp_region_lit
  refine wV (.bool false) ?_
  simp only [pu]
  refine wpList_nil ?_
  with_reducible (apply tn; go_at_K; go_step; apply wp_seq_k; intro _ _; apply wp_seq_k; intro _ _)
  with_reducible apply wp_region_lit
  refine wV (.string g) ?_
  simp only [pu]
  refine wV (.int .i64 64) ?_
  simp only [pu]
  refine wV (.bool false) ?_
  simp only [pu]
  refine wpList_nil ?_
  with_reducible (apply tn; go_at_K; go_step)
  refine wp_cond_false rfl ?_
  with_reducible (apply wp_skip; apply tn; go_at_K; go_step; apply wp_seq_k; intro _ _)
  obtain ⟨n2, hn2⟩ : ∃ n, n = w.heap.size := ⟨_, rfl⟩
  refine wp_region_anyE (KM w.heap.size n2 w (fun _ _ => []) 1000 1001 []) (fun _ => false) (by kernel_rfl) (KM.begin h1 hn2 (lows hn2 h1 (fun _ _ => rfl)) _) ?_
  refine kV 0 (.string g) rfl ?_
  simp only [pu]
  refine kW 1 (.string f) rfl (fun qv L wx hT => ?_) ?_
  · have hf := HF.out; refine lands_value (w := wx) ?_ hT; go_simp
  simp only [pu]
  refine kV 2 (.string g) rfl ?_
  simp only [pu]
  refine kW 3 (.string sd) rfl (fun qv L wx hT => ?_) ?_
  · have hd := HD.out; refine lands_value (w := wx) ?_ hT; go_simp
  simp only [pu]
  refine kV 4 (.string f) rfl ?_
  simp only [pu]
  refine kV 5 (.string sd) rfl ?_
  simp only [pu]
  refine anyE_done (by kernel_rfl) (fun qv w3 hK => ?_) _
  have hE := hK.outs (by kernel_rfl) (by kernel_rfl)  (b := false) (c := false) (by kernel_rfl) (by kernel_rfl)
  clear hK h1 hn2
  have h3 : KD w.heap.size w [] w3 := hE.k
  clear hE
  clear n2
  clear qv
  with_reducible (apply tn; go_at_K; go_step; apply wp_seq_k; intro _ _)
  with_reducible apply wp_region_lit
  refine wV (.string p) ?_
  simp only [pu]
  refine wC h3 (CD w3) fun w4 h4 => ?_
  simp only [pu]
  clear h3
  refine wV (.tuple #[.agg (nums 2 (two P.x P.y)), .bool true]) ?_
  simp only [pu]
  refine wV (.agg (nums 2 (two P.x P.y))) ?_
  simp only [pu]
  refine wV (.bool true) ?_
  simp only [pu]
  refine wA h4 (alloc_run _ _ rfl zero_pt _) fun w5 h5 => ?_
  simp only [pu]
  clear h4
  generalize w4.heap.size = g6 at h5 ⊢
  refine wpList_val (R := KD w.heap.size w [(g6, 42, nums 2 (two P.x P.y))]) undef rfl (lands_store _ _ _ rfl g6 (nums 2 (two P.x P.y)) rfl rfl _ _ (h5.blk _ m0) (by kernel_rfl) (by kernel_rfl) (row_one fun _ => rfl) (h5.put (k := 0) rfl _)) ?_
  intro w7 h7
  simp only [pu]
  clear h5
  refine wV (.bool true) ?_
  simp only [pu]
  refine wpList_nil ?_
  with_reducible (apply tn; go_at_K; go_step; apply wp_seq_k; intro _ _; apply wp_seq_k; intro _ _)
  with_reducible apply wp_region_lit
  refine wV (.bool true) ?_
  simp only [pu]
  refine wV (.bool false) ?_
  simp only [pu]
  refine wV (.bool false) ?_
  simp only [pu]
  refine wVG (.string sd) ?_
  simp only [pu]
  refine wCG h7 (CR w7) fun w8 h8 => ?_
  simp only [pu]
  clear h7
  refine wVG (.bool true) ?_
  simp only [pu]
  refine wV (.bool true) ?_
  simp only [pu]
  refine wpList_nil ?_
  with_reducible (apply tn; go_at_K; go_step)
  refine wp_cond_true rfl ?_
  with_reducible (apply wp_seq_k; intro _ _)
  with_reducible apply wp_region_lit
  refine wV (.bool false) ?_
  simp only [pu]
  refine wpList_nil ?_
  with_reducible (apply tn; go_at_K; go_step)
  with_reducible apply wp_ret
  repeat (first | with_reducible apply then_ret | with_reducible apply block_ret)
  exact bodyPost_ret (results_tmp rfl _ _ _) rfl ⟨rfl, h8.b⟩
set_option maxRecDepth 100000 in
set_option maxHeartbeats 1000000 in
theorem ver_same (p t g f sd : ByteArray) (hs : g.size = 64) (HF : Hid (g.extract 0 32 = f)) (HD : Hid (g.extract 32 64 = sd)) (P : Pt) (k z : ByteArray) (N A B Q : Pt) (CD : ∀ w, Calls Tryz.prog 23 #[.string p] w fun e w' => e = .returned (.tuple #[.agg (nums 2 (two P.x P.y)), .bool true]) ∧ Below w.heap.size w w') (CR : ∀ w, Calls Tryz.prog 24 #[.string sd] w fun e w' => e = .returned (.bool true) ∧ Below w.heap.size w w') (CK : ∀ g w, Blk w g 9 #[.string f, .string p, .string t] → Calls Tryz.prog 18 #[.slice (some ⟨g, 0, none⟩) 3 3] w fun e w' => e = .returned (.string k) ∧ Below w.heap.size w w') (CA : ∀ w, Calls Tryz.prog 27 #[.string sd, .agg (nums 2 (two bP.x bP.y))] w fun e w' => e = .returned (.agg (nums 2 (two A.x A.y))) ∧ Below w.heap.size w w') (CN : ∀ w, Calls Tryz.prog 29 #[.agg (nums 2 (two P.x P.y))] w fun e w' => e = .returned (.agg (nums 2 (two N.x N.y))) ∧ Below w.heap.size w w') (CB : ∀ w, Calls Tryz.prog 27 #[.string k, .agg (nums 2 (two N.x N.y))] w fun e w' => e = .returned (.agg (nums 2 (two B.x B.y))) ∧ Below w.heap.size w w') (CQ : ∀ w, Calls Tryz.prog 26 #[.agg (nums 2 (two A.x A.y)), .agg (nums 2 (two B.x B.y))] w fun e w' => e = .returned (.agg (nums 2 (two Q.x Q.y))) ∧ Below w.heap.size w w') (CE : ∀ w, Calls Tryz.prog 25 #[.agg (nums 2 (two Q.x Q.y))] w fun e w' => e = .returned (.tuple #[.string z, .bool true]) ∧ Below w.heap.size w w') (w : World) :
    Calls Tryz.prog 11 #[.string p, .string t, .string g] w fun e w' => e = .returned (.bool (decide (z = f))) ∧ Below w.heap.size w w' := by
  go_enter Tryz.func11, Tryz.ntmps11
  with_reducible (apply wp_seq_k; intro _ _)
  have h1 := KD.begin w
  with_reducible apply wp_region_lit
  refine wV (.bool false) ?_
  simp only [pu]
  refine wpList_nil ?_
  with_reducible (apply tn; go_at_K; go_step; apply wp_seq_k; intro _ _; apply wp_seq_k; intro _ _)
  with_reducible apply wp_region_lit
  refine wV (.string g) ?_
  simp only [pu]
  refine wV (.int .i64 64) ?_
  simp only [pu]
  refine wV (.bool false) ?_
  simp only [pu]
  refine wpList_nil ?_
  with_reducible (apply tn; go_at_K; go_step)
  refine wp_cond_false rfl ?_
  with_reducible (apply wp_skip; apply tn; go_at_K; go_step; apply wp_seq_k; intro _ _)
  obtain ⟨n2, hn2⟩ : ∃ n, n = w.heap.size := ⟨_, rfl⟩
  refine wp_region_anyE (KM w.heap.size n2 w (fun _ _ => []) 1000 1001 []) (fun _ => false) (by kernel_rfl) (KM.begin h1 hn2 (lows hn2 h1 (fun _ _ => rfl)) _) ?_
  refine kV 0 (.string g) rfl ?_
  simp only [pu]
  refine kW 1 (.string f) rfl (fun qv L wx hT => ?_) ?_
  · have hf := HF.out; refine lands_value (w := wx) ?_ hT; go_simp
  simp only [pu]
  refine kV 2 (.string g) rfl ?_
  simp only [pu]
  refine kW 3 (.string sd) rfl (fun qv L wx hT => ?_) ?_
  · have hd := HD.out; refine lands_value (w := wx) ?_ hT; go_simp
  simp only [pu]
  refine kV 4 (.string f) rfl ?_
  simp only [pu]
  refine kV 5 (.string sd) rfl ?_
  simp only [pu]
  refine anyE_done (by kernel_rfl) (fun qv w3 hK => ?_) _
  have hE := hK.outs (by kernel_rfl) (by kernel_rfl)  (b := false) (c := false) (by kernel_rfl) (by kernel_rfl)
  clear hK h1 hn2
  have h3 : KD w.heap.size w [] w3 := hE.k
  clear hE
  clear n2
  clear qv
  with_reducible (apply tn; go_at_K; go_step; apply wp_seq_k; intro _ _)
  with_reducible apply wp_region_lit
  refine wV (.string p) ?_
  simp only [pu]
  refine wC h3 (CD w3) fun w4 h4 => ?_
  simp only [pu]
  clear h3
  refine wV (.tuple #[.agg (nums 2 (two P.x P.y)), .bool true]) ?_
  simp only [pu]
  refine wV (.agg (nums 2 (two P.x P.y))) ?_
  simp only [pu]
  refine wV (.bool true) ?_
  simp only [pu]
  refine wA h4 (alloc_run _ _ rfl zero_pt _) fun w5 h5 => ?_
  simp only [pu]
  clear h4
  generalize w4.heap.size = g6 at h5 ⊢
  refine wpList_val (R := KD w.heap.size w [(g6, 42, nums 2 (two P.x P.y))]) undef rfl (lands_store _ _ _ rfl g6 (nums 2 (two P.x P.y)) rfl rfl _ _ (h5.blk _ m0) (by kernel_rfl) (by kernel_rfl) (row_one fun _ => rfl) (h5.put (k := 0) rfl _)) ?_
  intro w7 h7
  simp only [pu]
  clear h5
  refine wV (.bool true) ?_
  simp only [pu]
  refine wpList_nil ?_
  with_reducible (apply tn; go_at_K; go_step; apply wp_seq_k; intro _ _; apply wp_seq_k; intro _ _)
  with_reducible apply wp_region_lit
  refine wV (.bool true) ?_
  simp only [pu]
  refine wV (.bool false) ?_
  simp only [pu]
  refine wV (.bool false) ?_
  simp only [pu]
  refine wVG (.string sd) ?_
  simp only [pu]
  refine wCG h7 (CR w7) fun w8 h8 => ?_
  simp only [pu]
  clear h7
  refine wVG (.bool false) ?_
  simp only [pu]
  refine wV (.bool false) ?_
  simp only [pu]
  refine wpList_nil ?_
  with_reducible (apply tn; go_at_K; go_step)
  refine wp_cond_false rfl ?_
  with_reducible (apply wp_skip; apply tn; go_at_K; go_step; apply wp_seq_k; intro _ _)
  with_reducible apply wp_region_lit
  refine wV (.string f) ?_
  simp only [pu]
  refine wV (.string p) ?_
  simp only [pu]
  refine wV (.string t) ?_
  simp only [pu]
  refine wpList_val (R := KD w.heap.size w [(w8.heap.size, 9, #[.string f, .string p, .string t]), (g6, 42, nums 2 (two P.x P.y))]) (.slice (some ⟨w8.heap.size, 0, none⟩) 3 3) rfl (lands_run2 (by go_simp) (h8.add _ _)) ?_
  intro w9 h9
  simp only [pu]
  clear h8
  generalize w8.heap.size = g10 at h9 ⊢
  refine wC h9 (CK g10 w9 (h9.blk _ m0)) fun w11 h11 => ?_
  simp only [pu]
  clear h9
  refine wV (.string k) ?_
  simp only [pu]
  refine wpList_nil ?_
  with_reducible (apply tn; go_at_K; go_step; apply wp_seq_k; intro _ _)
  obtain ⟨n12, hn12⟩ : ∃ n, n = w11.heap.size := ⟨_, rfl⟩
  refine wp_region_anyE (KM w.heap.size n12 w (fun _ _ => [(g10, 9, #[.string f, .string p, .string t]), (g6, 42, nums 2 (two P.x P.y))]) 1000 1001 []) (fun _ => false) (by kernel_rfl) (KM.begin h11 hn12 (lows hn12 h11 (fun _ _ => rfl)) _) ?_
  refine kV 0 (.string sd) rfl ?_
  simp only [pu]
  refine kC 1 rfl (fun wx => qbase_any wx) ?_
  simp only [pu]
  refine kC 2 rfl (fun wx => CA wx) ?_
  simp only [pu]
  refine kV 3 (.string k) rfl ?_
  simp only [pu]
  refine kW 4 (.agg (nums 2 (two P.x P.y))) rfl (fun qv L wx hT => ?_) ?_
  · exact lands_load _ _ rfl _ rfl _ _ _ (hT.k.blk _ m1) Tryz.underlying42 rfl (by kernel_rfl) hT
  simp only [pu]
  refine kC 5 rfl (fun wx => CN wx) ?_
  simp only [pu]
  refine kC 6 rfl (fun wx => CB wx) ?_
  simp only [pu]
  refine kC 7 rfl (fun wx => CQ wx) ?_
  simp only [pu]
  refine kC 8 rfl (fun wx => CE wx) ?_
  simp only [pu]
  refine kV 9 (.tuple #[.string z, .bool true]) rfl ?_
  simp only [pu]
  refine kV 10 (.string z) rfl ?_
  simp only [pu]
  refine kV 11 (.bool true) rfl ?_
  simp only [pu]
  refine kV 12 (.string z) rfl ?_
  simp only [pu]
  refine kV 13 (.bool true) rfl ?_
  simp only [pu]
  refine anyE_done (by kernel_rfl) (fun qv w13 hK => ?_) _
  have hE := hK.outs (by kernel_rfl) (by kernel_rfl)  (b := false) (c := false) (by kernel_rfl) (by kernel_rfl)
  clear hK h11 hn12
  have h13 : KD w.heap.size w [(g10, 9, #[.string f, .string p, .string t]), (g6, 42, nums 2 (two P.x P.y))] w13 := hE.k
  clear hE
  clear n12
  clear qv
  with_reducible (apply tn; go_at_K; go_step; apply wp_seq_k; intro _ _)
  with_reducible apply wp_region_lit
  refine wV (.bool true) ?_
  simp only [pu]
  refine wV (.bool true) ?_
  simp only [pu]
  refine wVG (.string z) ?_
  simp only [pu]
  refine wVG (.string f) ?_
  simp only [pu]
  refine wLG (.bool (decide (z = f))) (by refine lands_value (w := w13) ?_ rfl; go_simp; rw [L4.text_eq]) ?_
  simp only [pu]
  refine wV (.bool (decide (z = f))) ?_
  simp only [pu]
  refine wV (.bool (decide (z = f))) ?_
  simp only [pu]
  refine wpList_nil ?_
  with_reducible (apply tn; go_at_K; go_step)
  with_reducible apply wp_ret
  repeat (first | with_reducible apply then_ret | with_reducible apply block_ret)
  exact bodyPost_ret (results_tmp rfl _ _ _) rfl ⟨rfl, h13.b⟩
theorem ver_size (p t g : ByteArray) (hs : ¬ g.size = 64) (w : World) :
    Calls Tryz.prog 11 #[.string p, .string t, .string g] w fun e w' => e = .returned (.bool false) ∧ Below w.heap.size w w' := by
  go_enter Tryz.func11, Tryz.ntmps11
  go_wp2_with fail
  go_ret
  exact ⟨rfl, Below.refl _ _⟩
theorem key_size {p : ByteArray} {P : Pt} (h : decV p = (P, true)) : p.size = 32 := by rw [← (enc_dec h).2]; exact bytesV_size _
theorem verify_is (p t g : ByteArray) (v : Bool) (ht : t.size ≤ 1000) (hv : verV p t g = v) (w : World) :
    Calls Tryz.prog 11 #[.string p, .string t, .string g] w fun e w' => e = .returned (.bool v) ∧ Below w.heap.size w w' := by
  by_cases hs : g.size = 64
  · cases hd : decV p with
    | mk P ok =>
      cases ok with
      | false =>
        rw [verV_key (by rw [hd]; exact Bool.false_ne_true)] at hv
        subst hv
        exact ver_key p t g _ _ hs (Lib.hid rfl) (Lib.hid rfl) P (fun w => dec_is p P false hd w) w
      | true =>
        by_cases hr : L4.redV (g.extract 32 64) = g.extract 32 64
        · rw [verV_is hs hd hr] at hv
          subst hv
          have hP := (enc_dec hd).1
          have hN := pneg_on hP
          have hA := pmul_on base_on (numV (g.extract 32 64) 32)
          have hB := pmul_on hN (numV (kS (g.extract 0 32) p t) 32)
          have hQ := padd_on hA hB
          exact ver_same p t g _ _ hs (Lib.hid rfl) (Lib.hid rfl) P _ _ _ _ _ _ (fun w => dec_is p P true hd w)
            (fun w => by have := L4.qright_any (g.extract 32 64) w; rw [decide_eq_true hr] at this; exact this)
            (red3_is (g.extract 0 32) p t _ (by rw [ByteArray.size_extract]; omega) (by rw [key_size hd]; decide) (Nat.le_trans ht (by decide)) rfl)
            (fun w => mul_is _ bP _ base_on.ok (by rw [cnt_base]) w)
            (fun w => neg_is P _ hP.ok (by rw [cnt_C' hP]) w)
            (fun w => mul_is _ _ _ hN.ok (by rw [cnt_C' hN]) w)
            (fun w => add_is _ _ _ hA.ok hB.ok (by rw [cnt_C' hA, cnt_C' hB]) w)
            (fun w => enc_is _ _ true hQ.ok (encV_on (onB_C.2 hQ)) w) w
        · rw [verV_right hr] at hv
          subst hv
          exact ver_right p t g _ _ hs (Lib.hid rfl) (Lib.hid rfl) P (fun w => dec_is p P true hd w)
            (fun w => by have := L4.qright_any (g.extract 32 64) w; rw [decide_eq_false hr] at this; exact this) w
  · rw [verV_size hs] at hv
    subst hv
    exact ver_size p t g hs w
end Go.Proofs.YtggalphgnloneaaGreat
