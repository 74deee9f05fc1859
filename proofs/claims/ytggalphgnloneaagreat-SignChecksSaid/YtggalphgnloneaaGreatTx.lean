/- Verify of the reference. (written by mkTx.py) -/
import Derived.Test.YtggalphgnloneaaGreatTr
import Derived.Test.YtggalphgnloneaaGreatTe
import Derived.Test.YtggalphgnloneaaGreatQAz
namespace Go.Proofs.YtggalphgnloneaaGreat
open Go.RowKit
set_option maxRecDepth 100000 in
set_option maxHeartbeats 1000000 in
theorem rver_right (p t g sd : ByteArray) (hs : g.size = 64) (HD : Hid (g.extract 32 64 = sd)) (CR : ∀ w, Calls Tryz.prog 30 #[.string sd] w fun e w' => e = .returned (.bool false) ∧ Below w.heap.size w w') (w : World) :
    Calls Tryz.prog 12 #[.string p, .string t, .string g] w fun e w' => e = .returned (.bool false) ∧ Below w.heap.size w w' := by
  go_enter Tryz.func12, Tryz.ntmps12
  with_reducible (apply wp_seq_k; intro _ _)
  have h1 := KD.begin w
  with_reducible apply wp_region_lit
  refine wV (.bool false) ?_
  simp only [pu]
  refine wpList_nil ?_
  with_reducible (apply tn; go_at_K; go_step; apply wp_seq_k; intro _ _; apply wp_seq_k; intro _ _)
  with_reducible apply wp_region_lit
  refine wV (.string g) ?_
  simp only [pu]
  refine wV (.int .i64 64) ?_
  simp only [pu]
  refine wV (.bool false) ?_
  simp only [pu]
  refine wV (.bool false) ?_
  simp only [pu]
  refine wVG (.string g) ?_
  simp only [pu]
  refine wLG (.string sd) (by have hd := HD.out; refine lands_value (w := w) ?_ rfl; go_simp) ?_
  simp only [pu]
  refine wCG h1 (CR w) fun w2 h2 => ?_
  simp only [pu]
  clear h1
  refine wVG (.bool true) ?_
  simp only [pu]
  refine wV (.bool true) ?_
  simp only [pu]
  refine wpList_nil ?_
  with_reducible (apply tn; go_at_K; go_step)
  refine wp_cond_true rfl ?_
  with_reducible (apply wp_seq_k; intro _ _)
  with_reducible apply wp_region_lit
  refine wV (.bool false) ?_
  simp only [pu]
  refine wpList_nil ?_
  with_reducible (apply tn; go_at_K; go_step)
  with_reducible apply wp_ret
  repeat (first | with_reducible apply then_ret | with_reducible apply block_ret)
  exact bodyPost_ret (results_tmp rfl _ _ _) rfl ⟨rfl, h2.b⟩
set_option maxRecDepth 100000 in
set_option maxHeartbeats 1000000 in
theorem rver_key (p t g sd : ByteArray) (hs : g.size = 64) (HD : Hid (g.extract 32 64 = sd)) (P : Pt) (CR : ∀ w, Calls Tryz.prog 30 #[.string sd] w fun e w' => e = .returned (.bool true) ∧ Below w.heap.size w w') (CD : ∀ w, Calls Tryz.prog 31 #[.string p] w fun e w' => e = .returned (.tuple #[.agg (nums 2 (two P.x P.y)), .bool false]) ∧ Below w.heap.size w w') (w : World) :
    Calls Tryz.prog 12 #[.string p, .string t, .string g] w fun e w' => e = .returned (.bool false) ∧ Below w.heap.size w w' := by
  go_enter Tryz.func12, Tryz.ntmps12
  with_reducible (apply wp_seq_k; intro _ _)
  have h1 := KD.begin w
  with_reducible apply wp_region_lit
  refine wV (.bool false) ?_
  simp only [pu]
  refine wpList_nil ?_
  with_reducible (apply tn; go_at_K; go_step; apply wp_seq_k; intro _ _; apply wp_seq_k; intro _ _)
  with_reducible apply wp_region_lit
  refine wV (.string g) ?_
  simp only [pu]
  refine wV (.int .i64 64) ?_
  simp only [pu]
  refine wV (.bool false) ?_
  simp only [pu]
  refine wV (.bool false) ?_
  simp only [pu]
  refine wVG (.string g) ?_
  simp only [pu]
  refine wLG (.string sd) (by have hd := HD.out; refine lands_value (w := w) ?_ rfl; go_simp) ?_
  simp only [pu]
  refine wCG h1 (CR w) fun w2 h2 => ?_
  simp only [pu]
  clear h1
  refine wVG (.bool false) ?_
  simp only [pu]
  refine wV (.bool false) ?_
  simp only [pu]
  refine wpList_nil ?_
  with_reducible (apply tn; go_at_K; go_step)
  refine wp_cond_false rfl ?_
  with_reducible (apply wp_skip; apply tn; go_at_K; go_step; apply wp_seq_k; intro _ _)
  with_reducible apply wp_region_lit
  refine wV (.string p) ?_
  simp only [pu]
  refine wC h2 (CD w2) fun w3 h3 => ?_
  simp only [pu]
  clear h2
  refine wV (.tuple #[.agg (nums 2 (two P.x P.y)), .bool false]) ?_
  simp only [pu]
  refine wV (.agg (nums 2 (two P.x P.y))) ?_
  simp only [pu]
  refine wV (.bool false) ?_
  simp only [pu]
  refine wA h3 (alloc_run _ _ rfl zero_pt _) fun w4 h4 => ?_
  simp only [pu]
  clear h3
  generalize w3.heap.size = g5 at h4 ⊢
  refine wpList_val (R := KD w.heap.size w [(g5, 42, nums 2 (two P.x P.y))]) undef rfl (lands_store _ _ _ rfl g5 (nums 2 (two P.x P.y)) rfl rfl _ _ (h4.blk _ m0) (by kernel_rfl) (by kernel_rfl) (row_one fun _ => rfl) (h4.put (k := 0) rfl _)) ?_
  intro w6 h6
  simp only [pu]
  clear h4
  refine wV (.bool false) ?_
  simp only [pu]
  refine wpList_nil ?_
  with_reducible (apply tn; go_at_K; go_step; apply wp_seq_k; intro _ _; apply wp_seq_k; intro _ _)
  with_reducible apply wp_region_lit
  refine wV (.bool false) ?_
  simp only [pu]
  refine wV (.bool true) ?_
  simp only [pu]
  refine wpList_nil ?_
  with_reducible (apply tn; go_at_K; go_step)
  refine wp_cond_true rfl ?_
  with_reducible (apply wp_seq_k; intro _ _)
  with_reducible apply wp_region_lit
  refine wV (.bool false) ?_
  simp only [pu]
  refine wpList_nil ?_
  with_reducible (apply tn; go_at_K; go_step)
  with_reducible apply wp_ret
  repeat (first | with_reducible apply then_ret | with_reducible apply block_ret)
  exact bodyPost_ret (results_tmp rfl _ _ _) rfl ⟨rfl, h6.b⟩
set_option maxRecDepth 100000 in
set_option maxHeartbeats 1000000 in
theorem rver_same (p t g f sd : ByteArray) (hs : g.size = 64) (HF : Hid (g.extract 0 32 = f)) (HD : Hid (g.extract 32 64 = sd)) (P : Pt) (k y z : ByteArray) (N A B Q : Pt) (hf3 : f.size = 32) (hp : p.size = 32) (ht : t.size ≤ 1000) (CD : ∀ w, Calls Tryz.prog 31 #[.string p] w fun e w' => e = .returned (.tuple #[.agg (nums 2 (two P.x P.y)), .bool true]) ∧ Below w.heap.size w w') (CR : ∀ w, Calls Tryz.prog 30 #[.string sd] w fun e w' => e = .returned (.bool true) ∧ Below w.heap.size w w') (CO : ∀ w, Calls Tryz.prog 21 #[.string (f ++ p ++ t)] w fun e w' => e = .returned (.string y) ∧ Below w.heap.size w w') (CK : ∀ w, Calls Tryz.prog 20 #[.string y] w fun e w' => e = .returned (.string k) ∧ Below w.heap.size w w') (CA : ∀ w, Calls Tryz.prog 32 #[.string sd, .agg (nums 2 (two bP.x bP.y))] w fun e w' => e = .returned (.agg (nums 2 (two A.x A.y))) ∧ Below w.heap.size w w') (CN : ∀ w, Calls Tryz.prog 34 #[.agg (nums 2 (two P.x P.y))] w fun e w' => e = .returned (.agg (nums 2 (two N.x N.y))) ∧ Below w.heap.size w w') (CB : ∀ w, Calls Tryz.prog 32 #[.string k, .agg (nums 2 (two N.x N.y))] w fun e w' => e = .returned (.agg (nums 2 (two B.x B.y))) ∧ Below w.heap.size w w') (CQ : ∀ w, Calls Tryz.prog 36 #[.agg (nums 2 (two A.x A.y)), .agg (nums 2 (two B.x B.y))] w fun e w' => e = .returned (.agg (nums 2 (two Q.x Q.y))) ∧ Below w.heap.size w w') (CE : ∀ w, Calls Tryz.prog 35 #[.agg (nums 2 (two Q.x Q.y))] w fun e w' => e = .returned (.tuple #[.string z, .bool true]) ∧ Below w.heap.size w w') (w : World) :
    Calls Tryz.prog 12 #[.string p, .string t, .string g] w fun e w' => e = .returned (.bool (decide (z = f))) ∧ Below w.heap.size w w' := by
  go_enter Tryz.func12, Tryz.ntmps12
  with_reducible (apply wp_seq_k; intro _ _)
  have h1 := KD.begin w
  with_reducible apply wp_region_lit
  refine wV (.bool false) ?_
  simp only [pu]
  refine wpList_nil ?_
  with_reducible (apply tn; go_at_K; go_step; apply wp_seq_k; intro _ _; apply wp_seq_k; intro _ _)
  with_reducible apply wp_region_lit
  refine wV (.string g) ?_
  simp only [pu]
  refine wV (.int .i64 64) ?_
  simp only [pu]
  refine wV (.bool false) ?_
  simp only [pu]
  refine wV (.bool false) ?_
  simp only [pu]
  refine wVG (.string g) ?_
  simp only [pu]
  refine wLG (.string sd) (by have hd := HD.out; refine lands_value (w := w) ?_ rfl; go_simp) ?_
  simp only [pu]
  refine wCG h1 (CR w) fun w2 h2 => ?_
  simp only [pu]
  clear h1
  refine wVG (.bool false) ?_
  simp only [pu]
  refine wV (.bool false) ?_
  simp only [pu]
  refine wpList_nil ?_
  with_reducible (apply tn; go_at_K; go_step)
  refine wp_cond_false rfl ?_
  with_reducible (apply wp_skip; apply tn; go_at_K; go_step; apply wp_seq_k; intro _ _)
  with_reducible apply wp_region_lit
  refine wV (.string p) ?_
  simp only [pu]
  refine wC h2 (CD w2) fun w3 h3 => ?_
  simp only [pu]
  clear h2
  refine wV (.tuple #[.agg (nums 2 (two P.x P.y)), .bool true]) ?_
  simp only [pu]
  refine wV (.agg (nums 2 (two P.x P.y))) ?_
  simp only [pu]
  refine wV (.bool true) ?_
  simp only [pu]
  refine wA h3 (alloc_run _ _ rfl zero_pt _) fun w4 h4 => ?_
  simp only [pu]
  clear h3
  generalize w3.heap.size = g5 at h4 ⊢
  refine wpList_val (R := KD w.heap.size w [(g5, 42, nums 2 (two P.x P.y))]) undef rfl (lands_store _ _ _ rfl g5 (nums 2 (two P.x P.y)) rfl rfl _ _ (h4.blk _ m0) (by kernel_rfl) (by kernel_rfl) (row_one fun _ => rfl) (h4.put (k := 0) rfl _)) ?_
  intro w6 h6
  simp only [pu]
  clear h4
  refine wV (.bool true) ?_
  simp only [pu]
  refine wpList_nil ?_
  with_reducible (apply tn; go_at_K; go_step; apply wp_seq_k; intro _ _; apply wp_seq_k; intro _ _)
  with_reducible apply wp_region_lit
  refine wV (.bool true) ?_
  simp only [pu]
  refine wV (.bool false) ?_
  simp only [pu]
  refine wpList_nil ?_
  with_reducible (apply tn; go_at_K; go_step)
  refine wp_cond_false rfl ?_
  with_reducible (apply wp_skip; apply tn; go_at_K; go_step; apply wp_seq_k; intro _ _)
  with_reducible apply wp_region_lit
  refine wV (.string g) ?_
  simp only [pu]
  refine wL (.string f) (by have hf := HF.out; refine lands_value (w := w6) ?_ rfl; go_simp) ?_
  simp only [pu]
  refine wV (.string p) ?_
  simp only [pu]
  refine wV (.string (f ++ p)) ?_
  simp only [pu]
  refine wV (.string t) ?_
  simp only [pu]
  refine wL (.string (f ++ p ++ t)) (by refine lands_value (w := w6) ?_ rfl; go_simp; omega) ?_
  simp only [pu]
  refine wC h6 (CO w6) fun w7 h7 => ?_
  simp only [pu]
  clear h6
  refine wC h7 (CK w7) fun w8 h8 => ?_
  simp only [pu]
  clear h7
  refine wV (.string k) ?_
  simp only [pu]
  refine wpList_nil ?_
  with_reducible (apply tn; go_at_K; go_step; apply wp_seq_k; intro _ _)
  obtain ⟨n9, hn9⟩ : ∃ n, n = w8.heap.size := ⟨_, rfl⟩
  refine wp_region_anyE (KM w.heap.size n9 w (fun _ _ => [(g5, 42, nums 2 (two P.x P.y))]) 1000 1001 [⟨4, 5, 42, nums 2 (two 0 0), nums 2 (two A.x A.y), ptr⟩]) (fun i => i == 4) (by kernel_rfl) (KM.begin h8 hn9 (lows hn9 h8 (fun _ _ => rfl)) _) ?_
  refine kV 0 (.string g) rfl ?_
  simp only [pu]
  refine kW 1 (.string sd) rfl (fun qv L wx hT => ?_) ?_
  · have hd := HD.out; refine lands_value (w := wx) ?_ hT; go_simp
  simp only [pu]
  refine kC 2 rfl (fun wx => rbase_any wx) ?_
  simp only [pu]
  refine kC 3 rfl (fun wx => CA wx) ?_
  simp only [pu]
  refine anyE_made (i := 4) rfl rfl (by kernel_rfl) (by kernel_rfl) (by kernel_rfl) (fun qv => ym_made (n := 9) ⟨4, 5, 42, nums 2 (two 0 0), nums 2 (two A.x A.y), ptr⟩ (by kernel_rfl) m0 (.inl (show waits .any _ 9 5 4 = true from (by kernel_rfl))) rfl (alloc_run _ _ rfl zero_pt)) ?_
  simp only [pu]
  refine anyE_take (i := 5) undef rfl rfl (by kernel_rfl) (by kernel_rfl) (by kernel_rfl) (fun qv => ym_stored ⟨4, 5, 42, nums 2 (two 0 0), nums 2 (two A.x A.y), ptr⟩ _ _ _ (by kernel_rfl) m0 rfl (by kernel_rfl) rfl rfl rfl rfl (by kernel_rfl) (by kernel_rfl) (row_one fun _ => rfl)) ?_
  simp only [pu]
  refine anyE_done (by kernel_rfl) (fun qv w10 hK => ?_) _
  have hE := hK.outs (by kernel_rfl) (by kernel_rfl)  (b := false) (c := false) (by kernel_rfl) (by kernel_rfl)
  clear hK h8 hn9
  obtain ⟨g11, eg11, hE'⟩ := hE.next
  clear hE
  replace eg11 : qv 4 = .pointer (some ⟨g11, 0, none⟩) := eg11
  have h10 : KD w.heap.size w [(g11, 42, nums 2 (two A.x A.y)), (g5, 42, nums 2 (two P.x P.y))] w10 := hE'.k
  clear hE'
  clear n9
  rw [eg11]
  clear eg11
  clear qv
  with_reducible (apply tn; go_at_K; go_step; apply wp_seq_k; intro _ _)
  with_reducible apply wp_region_lit
  refine wV (.string k) ?_
  simp only [pu]
  refine wL (.agg (nums 2 (two P.x P.y))) (by exact lands_load _ _ rfl _ rfl _ _ _ (h10.blk _ m1) Tryz.underlying42 rfl (by kernel_rfl) rfl) ?_
  simp only [pu]
  refine wC h10 (CN w10) fun w12 h12 => ?_
  simp only [pu]
  clear h10
  refine wC h12 (CB w12) fun w13 h13 => ?_
  simp only [pu]
  clear h12
  refine wA h13 (alloc_run _ _ rfl zero_pt _) fun w14 h14 => ?_
  simp only [pu]
  clear h13
  generalize w13.heap.size = g15 at h14 ⊢
  refine wpList_val (R := KD w.heap.size w [(g15, 42, nums 2 (two B.x B.y)), (g11, 42, nums 2 (two A.x A.y)), (g5, 42, nums 2 (two P.x P.y))]) undef rfl (lands_store _ _ _ rfl g15 (nums 2 (two B.x B.y)) rfl rfl _ _ (h14.blk _ m0) (by kernel_rfl) (by kernel_rfl) (row_one fun _ => rfl) (h14.put (k := 0) rfl _)) ?_
  intro w16 h16
  simp only [pu]
  clear h14
  refine wpList_nil ?_
  with_reducible (apply tn; go_at_K; go_step; apply wp_seq_k; intro _ _)
  with_reducible apply wp_region_lit
  refine wL (.agg (nums 2 (two A.x A.y))) (by exact lands_load _ _ rfl _ rfl _ _ _ (h16.blk _ m1) Tryz.underlying42 rfl (by kernel_rfl) rfl) ?_
  simp only [pu]
  refine wL (.agg (nums 2 (two B.x B.y))) (by exact lands_load _ _ rfl _ rfl _ _ _ (h16.blk _ m0) Tryz.underlying42 rfl (by kernel_rfl) rfl) ?_
  simp only [pu]
  refine wC h16 (CQ w16) fun w17 h17 => ?_
  simp only [pu]
  clear h16
  refine wC h17 (CE w17) fun w18 h18 => ?_
  simp only [pu]
  clear h17
  refine wV (.tuple #[.string z, .bool true]) ?_
  simp only [pu]
  refine wV (.string z) ?_
  simp only [pu]
  refine wV (.bool true) ?_
  simp only [pu]
  refine wV (.string z) ?_
  simp only [pu]
  refine wV (.bool true) ?_
  simp only [pu]
  refine wpList_nil ?_
  with_reducible (apply tn; go_at_K; go_step; apply wp_seq_k; intro _ _)
  with_reducible apply wp_region_lit
  refine wV (.string z) ?_
  simp only [pu]
  refine wV (.string g) ?_
  simp only [pu]
  refine wL (.string f) (by have hf := HF.out; refine lands_value (w := w18) ?_ rfl; go_simp) ?_
  simp only [pu]
  refine wL (.bool (decide (z = f))) (by refine lands_value (w := w18) ?_ rfl; go_simp; rw [L4.text_eq]) ?_
  simp only [pu]
  refine wV (.bool (decide (z = f))) ?_
  simp only [pu]
  refine wpList_nil ?_
  with_reducible (apply tn; go_at_K; go_step)
  with_reducible apply wp_ret
  repeat (first | with_reducible apply then_ret | with_reducible apply block_ret)
  exact bodyPost_ret (results_tmp rfl _ _ _) rfl ⟨rfl, h18.b⟩
theorem rver_size (p t g : ByteArray) (hs : ¬ g.size = 64) (w : World) :
    Calls Tryz.prog 12 #[.string p, .string t, .string g] w fun e w' => e = .returned (.bool false) ∧ Below w.heap.size w w' := by
  go_enter Tryz.func12, Tryz.ntmps12
  go_wp2_with fail
  go_ret
  exact ⟨rfl, Below.refl _ _⟩
theorem rright6 (g : ByteArray) (hs : g.size = 64) (b : Bool) (h : decide (L4.redV (g.extract 32 64) = g.extract 32 64) = b) (w : World) :
    Calls Tryz.prog 30 #[.string (g.extract 32 64)] w fun e w' => e = .returned (.bool b) ∧ Below w.heap.size w w' := by
  have := L4.rright_any (g.extract 32 64) w
  rwa [show decide ((g.extract 32 64).size = 32 ∧ L4.redV (g.extract 32 64) = g.extract 32 64) = b by
    rw [← h]; congr 1; exact propext ⟨fun c => c.2, fun c => ⟨by rw [ByteArray.size_extract]; omega, c⟩⟩] at this
theorem rverify_is (p t g : ByteArray) (v : Bool) (ht : t.size ≤ 1000) (hv : verV p t g = v) (w : World) :
    Calls Tryz.prog 12 #[.string p, .string t, .string g] w fun e w' => e = .returned (.bool v) ∧ Below w.heap.size w w' := by
  by_cases hs : g.size = 64
  · by_cases hr : L4.redV (g.extract 32 64) = g.extract 32 64
    · cases hd : decV p with
      | mk P ok =>
        cases ok with
        | false =>
          rw [verV_key (by rw [hd]; exact Bool.false_ne_true)] at hv
          subst hv
          exact rver_key p t g _ hs (Lib.hid rfl) P (rright6 g hs _ (decide_eq_true hr)) (fun w => rdec_is p P false hd w) w
        | true =>
          rw [verV_is hs hd hr] at hv
          subst hv
          have hP := (enc_dec hd).1
          have hN := pneg_on hP
          have hA := pmul_on base_on (numV (g.extract 32 64) 32)
          have hB := pmul_on hN (numV (kS (g.extract 0 32) p t) 32)
          have hQ := padd_on hA hB
          have hf : (g.extract 0 32).size = 32 := by rw [ByteArray.size_extract]; omega
          have hp := key_size hd
          exact rver_same p t g _ _ hs (Lib.hid rfl) (Lib.hid rfl) P _ _ _ _ _ _ _ hf hp ht (fun w => rdec_is p P true hd w)
            (rright6 g hs _ (decide_eq_true hr))
            (rone_is _ _ _ (by rw [size_append, size_append]; omega) (by rw [lB_append, lB_append]) rfl)
            (fun w => L4.rreduce_any _ w)
            (fun w => rmul5_is _ bP _ base_on.ok (by rw [cnt_base]) w)
            (fun w => rneg5_is P _ hP.ok (by rw [cnt_C' hP]) w)
            (fun w => rmul5_is _ _ _ hN.ok (by rw [cnt_C' hN]; rfl) w)
            (fun w => radd_is _ _ _ hA.ok hB.ok (by rw [cnt_C' hA, cnt_C' hB]) w)
            (fun w => renc_is _ _ true hQ.ok (encV_on (onB_C.2 hQ)) w) w
    · rw [verV_right hr] at hv
      subst hv
      exact rver_right p t g _ hs (Lib.hid rfl) (rright6 g hs _ (decide_eq_false hr)) w
  · rw [verV_size hs] at hv
    subst hv
    exact rver_size p t g hs w
end Go.Proofs.YtggalphgnloneaaGreat
