/- InflateFixed: the law's walk. -/
import Derived.Test.YtiphnnaanjjaoaaMU
import Derived.Test.YtiphnnaanjjaoaaMZ
namespace Go.Proofs.Ytiphnnaanjjaoaa
open Go.RowKit
set_option maxRecDepth 100000 in
set_option maxHeartbeats 8000000 in
theorem inflateFixed_any (s : ByteArray) (c : Nat) (hs : s.size ≤ 140737488351232) (hc : c < 256) (w : World) (hT : TB w) : Calls Try.prog 8 #[.string s, .int .u8 (c : Int)] w fun e w' => e = .returned (.bool true) ∧ Below w.heap.size w w' := by
  have C := ex10_any w hT
  obtain ⟨n, hn⟩ : ∃ n, n = min s.size 100 := ⟨_, rfl⟩
  have hn100 : n ≤ 100 := by omega
  have hns : n ≤ s.size := by omega
  have hni : (n : Int) ≤ (s.size : Int) := by omega
  have hmm : min n s.size = n := by omega
  have hsz : (s.extract 0 n).size = n := by rw [ByteArray.size_extract]; omega
  have hmk1 : ∀ w, (Instr.makeSlice 36 (.int .i64 (n : Int)) (.int .i64 (n : Int))).run Try.prog w = .ok (.slice (some ⟨w.heap.size, 0, none⟩) n n) (w.alloc (.cells (r8 n fun _ => litw 8 0) 5)) := run_zerosZ n (n : Int) rfl (by omega)
  have hmk2 : ∀ w, (Instr.makeSlice 36 (.int .i64 ((n + 3 : Nat) : Int)) (.int .i64 ((n + 3 : Nat) : Int))).run Try.prog w = .ok (.slice (some ⟨w.heap.size, 0, none⟩) (n + 3) (n + 3)) (w.alloc (.cells (r8 (n + 3) fun _ => litw 8 0) 5)) := run_zerosZ (n + 3) ((n + 3 : Nat) : Int) rfl (by omega)
  obtain ⟨N, hN⟩ : ∃ N, N = n + 3 := ⟨_, rfl⟩
  rw [← hN] at hmk2
  have hwN : IntKind.i64.wrap ((n : Int) + 3) = (N : Int) := by rw [IntWalk.i64_in _ (by omega)]; omega
  have HN := Lib.hid hn
  have HNN := Lib.hid hN
  have H100 := Lib.hid hn100
  have HTB := Lib.hid hT
  have HSS := Lib.hid hs
  have HCC := Lib.hid hc
  clear hn hT hs hc hn100 hns hN
  go_enter Try.func8, Try.ntmps8
  go_wp2_with fail
  refine C.mono ?_
  rintro e w1 ⟨rfl, b1⟩
  have HB := Lib.hid b1
  clear C b1
  obtain ⟨X, hX⟩ : ∃ X, X = s.extract 0 n := ⟨_, rfl⟩
  rw [← hX] at hsz
  have HX := Lib.hid hX
  clear hX
  obtain ⟨D, hD⟩ : ∃ D : Nat → Nat, D = fun i => byteS X i % 144 := ⟨_, rfl⟩
  have HD := Lib.hid hD
  have HD144 : Hid (∀ i, D i < 144) := Lib.hid fun i => by rw [hD]; exact Nat.mod_lt _ (by decide)
  clear hD
  obtain ⟨q, hq⟩ : ∃ q, q = w1.heap.size := ⟨_, rfl⟩
  have l0 : iw (litw 8 0) = 0 := by decide +kernel
  have P0 : PW (tfB D n) (w1.heap.size + 1 + 1 + 1) (w1.heap.size + 1 + 1) (w1.heap.size + 1) N 0 (w1.alloc (.cells (r8 n fun _ => litw 8 0) 5)) ((((w1.alloc (.cells (r8 n fun _ => litw 8 0) 5)).alloc (.cells (r8 N fun _ => litw 8 0) 5)).alloc (.cells #[.slice (some ⟨w1.heap.size + 1, 0, none⟩) N N] 36)).alloc (.cells #[.int .i64 0] 3)) := by
    have z0 : ∀ i, bytF (tfB D n) 0 i = 0 := fun i => by
      unfold bytF
      rw [vb_zero (m := 0) 8 (by omega) fun j _ _ => by unfold cutF; rw [if_neg (by omega)]]
      rfl
    refine ⟨(Blk.new _ _ _).cast' ⟨by simp, rfl⟩, ((Blk.new _ _ _).alloc _).cast' ⟨by simp, rfl⟩, (((Blk.new _ _ _).alloc _).alloc _).cast' ⟨by simp, row_ext fun i _ => by rw [z0]; show Value.int .u8 (iw (litw 8 0)) = Value.int .u8 0; rw [l0]⟩, (((Below.refl _ _).alloc (Nat.le_refl _) _).alloc (by simp) _).alloc (by simp) _, by simp, by simp, by omega, by omega, by omega⟩
  have W0 : Blk (w1.alloc (.cells (r8 n fun _ => litw 8 0) 5)) w1.heap.size 5 (row n fun j => .int .u8 ((if j < 0 then D j else 0 : Nat) : Int)) := (Blk.new _ _ _).cast_ (row_ext fun i _ => by rw [if_neg (by omega)]; show Value.int .u8 (iw (litw 8 0)) = Value.int .u8 0; rw [l0])
  have B0 : Below w.heap.size w (w1.alloc (.cells (r8 n fun _ => litw 8 0) 5)) := HB.out.alloc HB.out.size _
  have S0 : (w1.alloc (.cells (r8 n fun _ => litw 8 0) 5)).heap.size = w1.heap.size + 1 := by simp
  have C1 := put_any (tfB D n) (tfB_lt D n) _ _ _ N 0 6 3 _ _ P0 (by have := HNN.out; have := H100.out; omega) (by have := HNN.out; omega) (by decide) (by decide) (tfB_head D n)
  have HW0 := Lib.hid (⟨W0, B0, S0⟩ : Blk (w1.alloc (.cells (r8 n fun _ => litw 8 0) 5)) w1.heap.size 5 (row n fun j => .int .u8 ((if j < 0 then D j else 0 : Nat) : Int)) ∧ Below w.heap.size w (w1.alloc (.cells (r8 n fun _ => litw 8 0) 5)) ∧ (w1.alloc (.cells (r8 n fun _ => litw 8 0) 5)).heap.size = w1.heap.size + 1)
  clear P0 W0 B0 S0 hq l0
  go_wp2_with (refine wpList_valK (.int .i64 ((min s.size 100 : Nat) : Int)) rfl (lands_min (.tmp 23) s.size 100 rfl rfl rfl) ?_; intro w8 h8; obtain rfl : w1 = w8 := h8.symm; simp only [pu]; rw [← HN.out])
  refine C1.mono ?_
  rintro e w2 ⟨rfl, P3⟩
  have HP := Lib.hid P3
  clear C1 P3
  go_wp2_with fail
  obtain ⟨ba, hba⟩ : ∃ ba, ba = w1.heap.size + 1 + 1 + 1 := ⟨_, rfl⟩
  obtain ⟨bb, hbb⟩ : ∃ bb, bb = w1.heap.size + 1 + 1 := ⟨_, rfl⟩
  obtain ⟨z, hz⟩ : ∃ z, z = w1.heap.size + 1 := ⟨_, rfl⟩
  obtain ⟨q9, hq9⟩ : ∃ q9, q9 = w1.heap.size := ⟨_, rfl⟩
  have HQB : Hid (q9 ≠ bb ∧ q9 < w1.heap.size + 1) := Lib.hid (by omega)
  rw [← hba, ← hbb, ← hz] at HP
  rw [← hba, ← hbb, ← hz]
  obtain ⟨G, hG⟩ : ∃ G, G = w1.heap.size + 1 := ⟨_, rfl⟩
  rw [← hG] at HQB
  have HW1 : Hid (Blk (w1.alloc (.cells (r8 n fun _ => litw 8 0) 5)) q9 5 (row n fun j => .int .u8 ((if j < 0 then D j else 0 : Nat) : Int)) ∧ Below w.heap.size w (w1.alloc (.cells (r8 n fun _ => litw 8 0) 5)) ∧ (w1.alloc (.cells (r8 n fun _ => litw 8 0) 5)).heap.size = G ∧ w.heap.size ≤ q9) := Lib.hid (by rw [hq9, hG]; exact ⟨HW0.out.1, HW0.out.2.1, HW0.out.2.2, HB.out.size⟩)
  rw [← hq9, ← HX.out]
  clear hba hbb hz hq9 hG HW0 hmk1 hmk2 hwN hmm hni
  generalize w1.alloc (.cells (r8 n fun _ => litw 8 0) 5) = wa at *
  go_loopw [10] (fun i wr => ∃ (k : Nat) (wx : World), k ≤ n ∧ i = .int .i64 (k : Int) ∧ Hid (Blk wx q9 5 (row n fun j => .int .u8 ((if j < k then D j else 0 : Nat) : Int)) ∧ Below w.heap.size w wx ∧ wx.heap.size = G ∧ w.heap.size ≤ q9) ∧ Hid (PW (tfB D n) ba bb z N (3 + 8 * k) wx wr)) (fun i _ => n - (intOf i).toNat)
  case atStart => exact ⟨0, wa, by omega, rfl, HW1, HP⟩
  case round =>
    obtain ⟨k, wx, hk, rfl, HWX, HPX⟩ := hrel
    clear HW1 HP
    by_cases hlt : k < n
    · have hlti : (k : Int) < (n : Int) := by omega
      have hkX : k < X.size := by rw [hsz]; exact hlt
      have hkXi : (k : Int) < (X.size : Int) := by omega
      have hb := HWX.out.1.below HPX.out.lo HWX.out.1.lt
      have cw := hb.at_ hlt
      have fw := hb.frozen k
      have hd : ((X[k]).toNat : Int).tmod 144 = (D k : Int) := by
        rw [byteS_at X k hkX, HD.out]; dsimp only; rw [Int.tmod_eq_emod_of_nonneg (by omega)]; omega
      have hd2 : ((X[k]).toNat : Int) % 144 = (D k : Int) := by
        rw [byteS_at X k hkX, HD.out]; dsimp only; omega
      have hD8 := HD144.out k
      have hdw : IntKind.u8.wrap (D k : Int) = (D k : Int) := by rw [IntKind.wrap_u8]; omega
      have hdw2 : IntKind.i64.wrap (48 + (D k : Int)) = ((48 + D k : Nat) : Int) := by rw [IntWalk.i64_in _ (by omega)]; omega
      have hdw3 : IntKind.i64.wrap (D k : Int) = (D k : Int) := IntWalk.i64_in _ (by omega)
      go_wp2_with fail
      have HKN := Lib.hid hlt
      have hkw : IntKind.i64.wrap ((k : Int) + 1) = ((k + 1 : Nat) : Int) := by have := H100.out; rw [IntWalk.i64_in _ (by omega)]; rfl
      have C := put_any (tfB D n) (tfB_lt D n) ba bb z N (3 + 8 * k) (48 + D k) 8 (wx.setCell ⟨q9, k, none⟩ (.int .u8 (D k : Int))) (wr.setCell ⟨q9, k, none⟩ (.int .u8 (D k : Int))) (HPX.out.side (by rw [HWX.out.2.2.1]; exact HQB.out.2) HQB.out.1 k _) (by have := HNN.out; have := H100.out; omega) (by have := HNN.out; omega) (by decide) (by omega) (tfB_byte D hlt)
      have e48 : ((48 + D k : Nat) : Int) = 48 + (D k : Int) := by omega
      rw [e48] at C
      have HW2 : Hid (Blk (wx.setCell ⟨q9, k, none⟩ (.int .u8 (D k : Int))) q9 5 (row n fun j => .int .u8 ((if j < k + 1 then D j else 0 : Nat) : Int)) ∧ Below w.heap.size w (wx.setCell ⟨q9, k, none⟩ (.int .u8 (D k : Int))) ∧ (wx.setCell ⟨q9, k, none⟩ (.int .u8 (D k : Int))).heap.size = G ∧ w.heap.size ≤ q9) := Lib.hid ⟨(HWX.out.1.put hlt (.int .u8 (D k : Int))).cast_ (row_ext fun j _ => by
        by_cases e : j = k
        · rw [if_pos e, if_pos (by omega), e]
        · rw [if_neg e]
          by_cases e2 : j < k
          · rw [if_pos e2, if_pos (by omega)]
          · rw [if_neg e2, if_neg (by omega)]), HWX.out.2.1.setCell (p := ⟨q9, k, none⟩) HWX.out.2.2.2 _, by simp [World.setCell]; exact HWX.out.2.2.1, HWX.out.2.2.2⟩
      clear e48 hlt hb
      refine C.mono ?_
      rintro e w3 ⟨rfl, P⟩
      have HP3 := Lib.hid P
      clear C P cw fw hd hd2
      go_wp2_with fail
      go_roundw
      case rel => exact ⟨k + 1, _, by have := HKN.out; omega, by go_num, HW2, Lib.hid (by rw [show 3 + 8 * (k + 1) = 3 + 8 * k + 8 by omega]; exact HP3.out)⟩
      case measure => simp only [intOf]; have := HKN.out; omega
    · obtain rfl : k = n := by omega
      have hlti : ¬ (k : Int) < (k : Int) := by omega
      have C := put_any (tfB D k) (tfB_lt D k) ba bb z N (3 + 8 * k) 0 7 wx wr HPX.out (by have := HNN.out; have := H100.out; omega) (by have := HNN.out; omega) (by decide) (by decide) (tfB_tail D k)
      go_wp2_with fail
      refine C.mono ?_
      rintro e w3 ⟨rfl, P⟩
      rw [show 3 + 8 * k + 7 = 8 * k + 10 by omega] at P
      have HP3 := Lib.hid P
      have ca := P.ka.cell 0
      have cb := P.kb.cell 0
      clear C P
      have h100 := H100.out
      have hq0 : IntKind.i64.wrap (((8 * k + 10 : Nat) : Int) + 7) = ((8 * k + 17 : Nat) : Int) := by rw [IntWalk.i64_in _ (by omega)]; omega
      have hq1 : ((8 * k + 17 : Nat) : Int).tdiv 8 = ((k + 2 : Nat) : Int) := by rw [Int.tdiv_eq_ediv_of_nonneg (by omega)]; omega
      obtain ⟨U, hU⟩ : ∃ U, U = k + 2 := ⟨_, rfl⟩
      obtain ⟨A, hA⟩ : ∃ A, A = 8 * k + 10 := ⟨_, rfl⟩
      have hq2 : IntKind.i64.wrap ((A : Int) + 7) = (A : Int) + 7 := IntWalk.i64_in _ (by omega)
      have hq3 : ((A : Int) + 7).tdiv 8 = (U : Int) := by rw [Int.tdiv_eq_ediv_of_nonneg (by omega)]; omega
      have hq4 : ((A : Int) + 7) / 8 = (U : Int) := by omega
      have hqw : IntKind.i64.wrap (U : Int) = (U : Int) := IntWalk.i64_in _ (by omega)
      rw [← hA] at ca
      have HA := Lib.hid hA
      have HU := Lib.hid hU
      have ct := HP3.out.text (tfB_lt D k) (by have := HNN.out; omega) (Nat.le_refl N)
      have O1 := dopen_any (textN N (bytF (tfB D k) (8 * k + 10))) (k : Int) w3 (HTB.out.below (HWX.out.2.1.trans (HP3.out.lo.mono HWX.out.2.1.size))) (by rw [textN_size]; have := HNN.out; omega)
      rw [show openS (textN N (bytF (tfB D k) (8 * k + 10))) (k : Int) = (firstD D k, k + 2, 0) by rw [HNN.out]; exact open_fixed D k h100 (fun i _ => HD144.out i)] at O1
      dsimp only at O1
      rw [← hU] at O1
      clear hq0 hq1 hU hA h100 hk
      go_wp2_with fail
      refine O1.mono ?_
      rintro e w4 ⟨rfl, b4⟩
      have HP4 : Hid (PW (tfB D k) ba bb z N (8 * k + 10) wx w4) := Lib.hid ⟨HP3.out.ka.below b4 HP3.out.ka.lt, HP3.out.kb.below b4 HP3.out.kb.lt, HP3.out.kz.below b4 HP3.out.kz.lt, HP3.out.lo.trans (b4.mono HP3.out.lo.size), HP3.out.h1, HP3.out.h2, HP3.out.n1, HP3.out.n2, HP3.out.n3⟩
      clear O1 b4 ct ca cb
      obtain ⟨m, hm⟩ : ∃ m, m = c % U := ⟨_, rfl⟩
      have hUU := HU.out
      have hNN := HNN.out
      have hCC := HCC.out
      have h100 := H100.out
      have hmU : m < U := by rw [hm]; exact Nat.mod_lt _ (by omega)
      have hm1 : (c : Int).tmod (U : Int) = (m : Int) := by rw [Int.tmod_eq_emod_of_nonneg (by omega), hm]; rfl
      have hm2 : (c : Int) % (U : Int) = (m : Int) := by rw [hm]; rfl
      have hmN : (m : Int) ≤ (N : Int) := by omega
      have hmw : IntKind.i64.wrap (m : Int) = (m : Int) := IntWalk.i64_in _ (by omega)
      have hcw : IntKind.i64.wrap (c : Int) = (c : Int) := IntWalk.i64_in _ (by omega)
      have hU0 : ¬ U = 0 := by omega
      obtain ⟨Y, hY⟩ : ∃ Y, Y = textN m (bytF (tfB D k) (8 * k + 10)) := ⟨_, rfl⟩
      obtain ⟨T, hTd⟩ : ∃ T : Bool → World → Prop, T = fun b wy => (b = false → PW (tfB D k) ba bb z N (8 * k + 10) wx wy) ∧ Below wx.heap.size wx wy := ⟨_, rfl⟩
      have HT0 : Hid (∀ wy, T false wy → wy.cell? ⟨bb, 0, none⟩ = some (.slice (some ⟨z, 0, none⟩) N N) ∧ (convert 36 9 (.slice (some ⟨z, 0, none⟩) m N)).run Try.prog wy = .ok (.string Y) wy ∧ Calls Try.prog 10 #[.string Y, .int .i64 (k : Int)] wy fun e w' => e = .returned (.tuple #[.string ByteArray.empty, .int .i64 0, .int .i64 2]) ∧ T true w') := Lib.hid fun wy h => by
        rw [hTd] at h ⊢
        have P := h.1 rfl
        refine ⟨P.kb.cell 0, by rw [hY]; exact P.text (tfB_lt D k) (by omega) (by omega), ?_⟩
        have O2 := dopen_any Y (k : Int) wy (HTB.out.below (HWX.out.2.1.trans (P.lo.mono HWX.out.2.1.size))) (by rw [hY, textN_size]; omega)
        rw [show openS Y (k : Int) = ([], 0, 2) by rw [hY]; exact open_fixed_cut D k m h100 (by omega) (fun i _ => HD144.out i)] at O2
        dsimp only at O2
        rw [txt0] at O2
        exact O2.mono fun e w' ⟨he, hb⟩ => ⟨he, fun h => (by cases h), h.2.trans (hb.mono h.2.size)⟩
      have HT1 : Hid (∀ wy, T true wy → Below wx.heap.size wx wy) := Lib.hid fun wy h => by rw [hTd] at h; exact h.2
      have HTS : Hid (T false w4.drew) := Lib.hid (by rw [hTd]; exact ⟨fun _ => ⟨HP4.out.ka.drew, HP4.out.kb.drew, HP4.out.kz.drew, HP4.out.lo.drew, HP4.out.h1, HP4.out.h2, HP4.out.n1, HP4.out.n2, HP4.out.n3⟩, HP4.out.lo.drew⟩)
      clear hTd hm hY hUU hNN hCC h100 hmU
      go_wp2_with fail
      refine wp_region_anyL (Two 9 1001 fun b _ wy => T b wy) (by kernel_rfl) HTS.out ?_
      refine anyL_take (i := 0) (v := .slice (some ⟨z, 0, none⟩) N N) rfl (by kernel_rfl) (by kernel_rfl) (by kernel_rfl) (yl_ahead (n := 9) (by decide) (by decide) (by kernel_rfl) rfl (fun f2 wx hT => ?_)) ?_
      · have cc := (HT0.out wx hT).1; refine lands_value (w := wx) ?_ hT; go_simp; skip
      simp only [pu]
      refine anyL_take (i := 1) (v := ?_) rfl (by kernel_rfl) (by kernel_rfl) (by kernel_rfl) (yl_other (by decide) (by decide) rfl (fun f1 f2 wx hT => ?_)) ?_; rotate_left
      · refine lands_value (w := wx) ?_ hT; go_simp <;> rfl
      simp only [pu]
      refine anyL_take (i := 2) (v := .int .i64 (c : Int)) rfl (by kernel_rfl) (by kernel_rfl) (by kernel_rfl) (yl_other (by decide) (by decide) rfl (fun f1 f2 wx hT => ?_)) ?_
      · refine lands_value (w := wx) ?_ hT; go_simp; skip
      simp only [pu]
      refine anyL_take (i := 3) (v := ?_) rfl (by kernel_rfl) (by kernel_rfl) (by kernel_rfl) (yl_other (by decide) (by decide) rfl (fun f1 f2 wx hT => ?_)) ?_; rotate_left
      · refine lands_value (w := wx) ?_ hT; go_simp <;> rfl
      simp only [pu]
      refine anyL_take (i := 4) (v := .int .i64 (m : Int)) rfl (by kernel_rfl) (by kernel_rfl) (by kernel_rfl) (yl_other (by decide) (by decide) rfl (fun f1 f2 wx hT => ?_)) ?_
      · refine lands_value (w := wx) ?_ hT; go_simp; skip
      simp only [pu]
      refine anyL_take (i := 5) (v := .slice (some ⟨z, 0, none⟩) m N) rfl (by kernel_rfl) (by kernel_rfl) (by kernel_rfl) (yl_other (by decide) (by decide) rfl (fun f1 f2 wx hT => ?_)) ?_
      · refine lands_value (w := wx) ?_ hT; go_simp; skip
      simp only [pu]
      refine anyL_take (i := 6) (v := .string Y) rfl (by kernel_rfl) (by kernel_rfl) (by kernel_rfl) (yl_ahead (n := 9) (by decide) (by decide) (by kernel_rfl) rfl (fun f2 wx hT => ?_)) ?_
      · have cc := (HT0.out wx hT).2.1; refine lands_value (w := wx) ?_ hT; go_simp; skip
      simp only [pu]
      refine anyL_take (i := 7) (v := ?_) rfl (by kernel_rfl) (by kernel_rfl) (by kernel_rfl) (yl_other (by decide) (by decide) rfl (fun f1 f2 wx hT => ?_)) ?_; rotate_left
      · refine lands_value (w := wx) ?_ hT; go_simp <;> rfl
      simp only [pu]
      refine anyL_take (i := 8) (v := .int .i64 (k : Int)) rfl (by kernel_rfl) (by kernel_rfl) (by kernel_rfl) (yl_other (by decide) (by decide) rfl (fun f1 f2 wx hT => ?_)) ?_
      · refine lands_value (w := wx) ?_ hT; go_simp; skip
      simp only [pu]
      refine anyL_take (i := 9) (v := .tuple #[.string ByteArray.empty, .int .i64 0, .int .i64 2]) rfl (by kernel_rfl) (by kernel_rfl) (by kernel_rfl) (yl_first (by decide) rfl (fun f2 wx hT => ?_)) ?_
      · refine lands_calls (f := 10) (((HT0.out wx hT).2.2).mono fun e w' ⟨he, hq⟩ => ⟨he, hq⟩) ?_; go_simp; skip
      simp only [pu]
      refine anyL_take (i := 10) (v := ?_) rfl (by kernel_rfl) (by kernel_rfl) (by kernel_rfl) (yl_other (by decide) (by decide) rfl (fun f1 f2 wx hT => ?_)) ?_; rotate_left
      · refine lands_value (w := wx) ?_ hT; go_simp <;> rfl
      simp only [pu]
      refine anyL_take (i := 11) (v := ?_) rfl (by kernel_rfl) (by kernel_rfl) (by kernel_rfl) (yl_other (by decide) (by decide) rfl (fun f1 f2 wx hT => ?_)) ?_; rotate_left
      · refine lands_value (w := wx) ?_ hT; go_simp <;> rfl
      simp only [pu]
      refine anyL_take (i := 12) (v := ?_) rfl (by kernel_rfl) (by kernel_rfl) (by kernel_rfl) (yl_other (by decide) (by decide) rfl (fun f1 f2 wx hT => ?_)) ?_; rotate_left
      · refine lands_value (w := wx) ?_ hT; go_simp <;> rfl
      simp only [pu]
      refine anyL_take (i := 13) (v := ?_) rfl (by kernel_rfl) (by kernel_rfl) (by kernel_rfl) (yl_other (by decide) (by decide) rfl (fun f1 f2 wx hT => ?_)) ?_; rotate_left
      · refine lands_value (w := wx) ?_ hT; go_simp <;> rfl
      simp only [pu]
      refine anyL_take (i := 14) (v := ?_) rfl (by kernel_rfl) (by kernel_rfl) (by kernel_rfl) (yl_other (by decide) (by decide) rfl (fun f1 f2 wx hT => ?_)) ?_; rotate_left
      · refine lands_value (w := wx) ?_ hT; go_simp <;> rfl
      simp only [pu]
      refine anyL_take (i := 15) (v := ?_) rfl (by kernel_rfl) (by kernel_rfl) (by kernel_rfl) (yl_other (by decide) (by decide) rfl (fun f1 f2 wx hT => ?_)) ?_; rotate_left
      · refine lands_value (w := wx) ?_ hT; go_simp <;> rfl
      simp only [pu]
      refine anyL_take (i := 16) (v := ?_) rfl (by kernel_rfl) (by kernel_rfl) (by kernel_rfl) (yl_other (by decide) (by decide) rfl (fun f1 f2 wx hT => ?_)) ?_; rotate_left
      · refine lands_value (w := wx) ?_ hT; go_simp <;> rfl
      simp only [pu]
      refine anyL_done rfl ?_ _
      intro w5 hT5
      have b5 := HT1.out w5 hT5
      have hw := HWX.out.1.below b5 HWX.out.1.lt
      have HB5 := Lib.hid (HWX.out.2.1.trans (b5.mono HWX.out.2.1.size))
      have cv : (convert 36 9 (.slice (some ⟨q9, 0, none⟩) k k)).run Try.prog w5 = .ok (.string (txtL (firstD D k))) w5 := by
        have := run_string_of_blk (P := Try.prog) w5 36 9 5 Try.underlying36 Try.underlying5 Try.underlying9 q9 k k 5 (fun i => BitVec.ofNat 8 ((firstD D k).getD i 0)) (hw.cast_ (row_ext fun i hi => by
          rw [if_pos hi]
          show Value.int .u8 (D i : Int) = Value.int .u8 (iw (BitVec.ofNat 8 ((firstD D k).getD i 0)))
          have e : (firstD D k).getD i 0 = D i := by simp [firstD, List.getD, hi]
          unfold iw
          have := HD144.out i
          rw [e, BitVec.toNat_ofNat, Nat.mod_eq_of_lt (by omega)]))
        rw [this]
        unfold txtL textN
        rw [firstD_len]
      clear hT5 b5 hw HT0 HT1 HTS
      generalize txtL (firstD D k) = Z at *
      have hself : (Z.data.toList == Z.data.toList) = true := by simp
      go_wp2_with fail
      go_ret
      exact ⟨rfl, HB5.out⟩
theorem inflateFixed_int (s : ByteArray) (c : Int) (hs : s.size ≤ 140737488351232) (h0 : 0 ≤ c) (hc : c < 256) (w : World) (hT : TB w) : Calls Try.prog 8 #[.string s, .int .u8 c] w fun e w' => e = .returned (.bool true) ∧ Below w.heap.size w w' := by
  obtain ⟨x, rfl⟩ := Int.eq_ofNat_of_zero_le h0
  exact inflateFixed_any s x hs (by omega) w hT
end Go.Proofs.Ytiphnnaanjjaoaa
