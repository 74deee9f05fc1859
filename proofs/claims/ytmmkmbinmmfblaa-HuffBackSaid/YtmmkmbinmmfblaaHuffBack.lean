/- HuffBack: the walk. -/
import Derived.Test.YtmmkmbinmmfblaaVl9
import Derived.Test.YtmmkmbinmmfblaaVc9
import Derived.Test.YtmmkmbinmmfblaaHw
import Derived.Test.YtmmkmbinmmfblaaMA
import Derived.BigQuiet
namespace Go.Proofs.Ytmmkmbinmmfblaa
open Go.RowKit
/-- What HuffBack lays: the list of lengths, of codes; eight bytes. -/
structure BkW (g at_ L c i : Nat) (w0 wr : World) : Prop where
  b : Blk wr g 5 (r8 8 (laidB at_ L c i))
  l : Below g w0 wr
  z : w0.heap.size = g
set_option maxRecDepth 100000 in
set_option maxHeartbeats 8000000 in
theorem huffBack_nat (p : Option Addr) (n cap : Nat) (f : Nat → Nat) (x : Nat) (hx : x < 9223372036854775808) (a : Nat) (ha : a < 256) (t : ByteArray) (ht : t.size ≤ 140737488351232) (w : World) (h : US p n cap f w) (hn : n ≤ 70368744177664) :
    Calls Try.prog 7 #[.slice p n cap, .int .i64 (x : Int), .int .u8 (a : Int), .string t] w fun e w' => e = .returned (.bool true) ∧ Below w.heap.size w w' := by
  have C1 := Lib.hid (fun w h => counted9_is p n cap f w h hn)
  obtain ⟨m, hm⟩ : ∃ m, m = min n 40 := ⟨_, rfl⟩
  rw [← hm] at C1
  have hm40 : m ≤ 40 := by omega
  obtain ⟨l, hl, _, hB, hE, hN⟩ := lens_counted f m hm40 15 (by decide)
  have h15 := Lib.hid (okB_true.1 hB)
  have C2 := Lib.hid (fun p c w h => lengths_huff p m c _ 15 w h (by omega) l hl)
  have C3 := Lib.hid (fun p c w h => codes_huff p m c (fun i => (l i : Int)) w h (by omega))
  rw [show codesM (fun i => (l i : Int)) m = m by unfold codesM; rw [if_pos hE], hE, show toL (fun i => (l i : Int)) = l from funext fun i => Int.toNat_natCast _] at C3
  have C4 := Lib.hid (fun p c w h => new_huff p m c (fun i => (l i : Int)) w h (by omega) hN)
  have HK : Hid (kr l m ≤ 2 ^ 15) := Lib.hid (by
    have := (codesE_zero hE).2
    rw [show toL (fun i => (l i : Int)) = l from funext fun i => Int.toNat_natCast _] at this
    exact this)
  clear hm hn hl hB hE hN
  go_enter Try.func7, Try.ntmps7
  go_wp2_with fail
  refine (examples9_any _).mono ?_
  rintro e w1 ⟨rfl, b1⟩
  have I1 := Lib.hid (h.below b1)
  go_wp2_with fail
  refine (C1.out _ I1.out).mono ?_
  rintro e w2 ⟨p2, c2, rfl, i2, b2⟩
  have d2 := b1.trans (b2.mono b1.size)
  clear I1 b1 b2
  go_wp2_with fail
  refine (C2.out _ _ _ i2).mono ?_
  rintro e w3 ⟨p3, c3, rfl, i3, b3⟩
  have d3 := d2.trans (b3.mono d2.size)
  have I3 := Lib.hid i3
  clear d2 i2 b3 i3
  go_wp2_with fail
  refine (C3.out _ _ _ I3.out).mono ?_
  rintro e w4 ⟨p4, c4, rfl, i4, b4⟩
  have d4 := d3.trans (b4.mono d3.size)
  have I4 := Lib.hid (I3.out.below b4)
  have J4 := Lib.hid i4
  clear d3 i4 b4 I3
  go_wp2_with fail
  refine (C4.out _ _ _ I4.out).mono ?_
  rintro e w5 ⟨v5, rfl, cv, b5⟩
  have d5 := d4.trans (b5.mono d4.size)
  have I5 := Lib.hid (I4.out.below b5)
  have J5 := Lib.hid (J4.out.below b5)
  obtain ⟨a5, rfl⟩ := cv.some
  have CV := Lib.hid cv
  clear d4 b5 I4 J4 cv
  by_cases h0 : m = 0
  · subst h0
    go_wp2_with fail
    go_ret
    exact ⟨rfl, d5⟩
  · have hm0 : ¬ (m : Int) = 0 := by omega
    have hxi : ¬ (x : Int) < 0 := by omega
    obtain ⟨k, hk⟩ : ∃ k, k = x % m := ⟨_, rfl⟩
    have hkm : k < m := by rw [hk]; exact Nat.mod_lt _ (by omega)
    have hkx : (x : Int) % (m : Int) = (k : Int) := by rw [hk]; exact (Int.natCast_emod ..).symm
    have hkmi : (k : Int) < (m : Int) := by omega
    have HKM := Lib.hid hkm
    clear hk hkm h0
    cases p3 with
    | none => have := (I5.out.nil_ rfl).1; have := HKM.out; omega
    | some a3 =>
    cases p4 with
    | none => have := (J5.out.nil_ rfl).1; have := HKM.out; omega
    | some a4 =>
    have ci := I5.out.cell a3 rfl k HKM.out
    have xi := J5.out.cell a4 rfl k HKM.out
    have HL := h15.out k HKM.out
    try dsimp only at ci xi HL
    obtain ⟨L, hL⟩ : ∃ L, L = l k := ⟨_, rfl⟩
    obtain ⟨c, hc⟩ : ∃ c, c = codeN l m k := ⟨_, rfl⟩
    rw [← hL] at ci HL
    rw [← hc] at xi
    have EL := Lib.hid hL
    have EC := Lib.hid hc
    clear hL hc
    by_cases hL0 : L = 0
    · subst hL0
      go_wp2_with fail
      go_ret
      exact ⟨rfl, d5⟩
    · have hL0i : ((L : Int) == 0) = false := beq_eq_false_iff_ne.2 (by omega)
      have hL15 : ¬ (15 : Int) < (L : Int) := by omega
      have HLn : Hid (L ≤ 15 ∧ 1 ≤ L) := Lib.hid (by omega)
      obtain ⟨A, hA⟩ : ∃ A, A = a % 20 := ⟨_, rfl⟩
      have hAi : (a : Int) % 20 = (A : Int) := by omega
      have HA : Hid (A < 20) := Lib.hid (by omega)
      clear hA HL hL0
      have hmk := run_zerosZ 8 8 rfl (by decide)
      go_wp2_with fail
      clear hmk
      have K0 : BkW w5.heap.size A L c 0 w5 (w5.alloc (.cells (r8 8 fun _ => litw 8 0) 5)) := ⟨Blk.new _ _ _, (Below.refl _ _).alloc (Nat.le_refl _) _, rfl⟩
      go_loopw [19] (fun i wr => ∃ j : Nat, j ≤ L ∧ i = .int .i64 (j : Int) ∧ BkW w5.heap.size A L c j w5 wr) (fun i _ => L - (intOf i).toNat)
      case atStart => exact ⟨0, by omega, rfl, K0⟩
      case round =>
        obtain ⟨j, hj, rfl, hr⟩ := hrel
        clear K0
        have ci2 := (I5.out.below hr.l).cell a3 rfl k HKM.out
        try dsimp only at ci2
        rw [← EL.out] at ci2
        by_cases hlt : j < L
        · have hlti : (j : Int) < (L : Int) := by omega
          have xi2 := (J5.out.below hr.l).cell a4 rfl k HKM.out
          try dsimp only at xi2
          rw [← EC.out] at xi2
          obtain ⟨D, hD⟩ : ∃ D, D = L - 1 - j := ⟨_, rfl⟩
          have hs1 : IntKind.i64.wrap ((L : Int) - 1) = ((L - 1 : Nat) : Int) := by rw [IntWalk.i64_in _ (by omega)]; omega
          have hs2 : IntKind.i64.wrap (((L - 1 : Nat) : Int) - (j : Int)) = (D : Int) := by rw [IntWalk.i64_in _ (by omega)]; omega
          have HD := Lib.hid hD
          clear hD
          obtain ⟨b, hb⟩ : ∃ b, b = c / 2 ^ D := ⟨_, rfl⟩
          have hmd : min D 64 = D := by have := HD.out; omega
          have hbi : (c : Int) / 2 ^ D = (b : Int) := by rw [hb, Int.natCast_ediv]; push_cast; rfl
          have HBb := Lib.hid hb
          clear hb
          by_cases hbit : b % 2 = 1
          · have hb1 : (b : Int) % 2 = 1 := by omega
            have hb2 : (b : Int).tmod 2 = 1 := by rw [Int.tmod_eq_emod_of_nonneg (by omega)]; exact hb1
            obtain ⟨S, hS⟩ : ∃ S, S = A + j := ⟨_, rfl⟩
            obtain ⟨q, hq⟩ : ∃ q, q = S / 8 := ⟨_, rfl⟩
            obtain ⟨r, hr0⟩ : ∃ r, r = S % 8 := ⟨_, rfl⟩
            have hA20 := HA.out
            have hL1 := HLn.out
            have hq8 : q < 8 := by omega
            have hl0 : (q : Int) < 8 := by omega
            have hl1 : (0 : Int) ≤ q := by omega
            have hr8 : r < 8 := by omega
            have HPUT : Hid (∀ wx, BkW w5.heap.size A L c j w5 wx → BkW w5.heap.size A L c (j + 1) w5 (wx.setCell ⟨w5.heap.size, q, none⟩ (.int .u8 (iw (orw (laidB A L c j q) (shlw (litw 8 1) r)))))) := Lib.hid (fun wx hx => by
              refine ⟨(hx.b.put hq8 _).cast_ (row_ext fun i hi => ?_), hx.l.setCell (by simp) _, rfl⟩
              have hbc : c / 2 ^ (L - 1 - j) % 2 = 1 := by rw [← HD.out, ← HBb.out]; exact hbit
              by_cases h1 : i = q
              · subst h1
                rw [if_pos rfl]
                show _ = Value.int .u8 (iw (if _ then _ else _))
                rw [if_pos ⟨hbc, by omega⟩, ← hS, ← hr0]
              · rw [if_neg h1]
                show _ = Value.int .u8 (iw (if _ then _ else _))
                rw [if_neg (by rintro ⟨_, h2⟩; omega)])
            have hSA : (A : Int) + (j : Int) = (S : Int) := by omega
            have hSq : (S : Int).tdiv 8 = (q : Int) := by rw [Int.tdiv_eq_ediv_of_nonneg (by omega)]; omega
            have hSr : (S : Int).tmod 8 = (r : Int) := by rw [Int.tmod_eq_emod_of_nonneg (by omega)]; omega
            have hS40 : S < 40 := by omega
            clear hS hq hr0 hbit hA20 hL1
            go_wp2_with fail
            go_quiet (fail)
            have hrq : BkW w5.heap.size A L c j w5 (wr.drewN nq) := ⟨hr.b.drewN _, below_draws hr.l _, rfl⟩
            go_wp2_with fail
            refine wp_region_anyL (Two 19 1000 fun f1 _ wx => BkW w5.heap.size A L c (if f1 then j + 1 else j) w5 wx) (by kernel_rfl) ⟨hrq.b.drew, hrq.l.drew, rfl⟩ ?_
            refine anyL_take (i := 0) (v := ?_) rfl (by kernel_rfl) (by kernel_rfl) (by kernel_rfl) (yl_other (by decide) (by decide) rfl (fun f1 f2 wx hT => ?_)) ?_; rotate_left
            · refine lands_value (w := wx) ?_ hT; go_simp <;> rfl
            simp only [pu]
            refine anyL_take (i := 1) (v := ?_) rfl (by kernel_rfl) (by kernel_rfl) (by kernel_rfl) (yl_other (by decide) (by decide) rfl (fun f1 f2 wx hT => ?_)) ?_; rotate_left
            · refine lands_value (w := wx) ?_ hT; go_simp <;> rfl
            simp only [pu]
            refine anyL_take (i := 2) (v := ?_) rfl (by kernel_rfl) (by kernel_rfl) (by kernel_rfl) (yl_other (by decide) (by decide) rfl (fun f1 f2 wx hT => ?_)) ?_; rotate_left
            · refine lands_value (w := wx) ?_ hT; go_simp <;> rfl
            simp only [pu]
            refine anyL_take (i := 3) (v := .int .i64 (S : Int)) rfl (by kernel_rfl) (by kernel_rfl) (by kernel_rfl) (yl_other (by decide) (by decide) rfl (fun f1 f2 wx hT => ?_)) ?_
            · refine lands_value (w := wx) ?_ hT; go_simp; exact IntWalk.i64_in _ (by omega)
            simp only [pu]
            refine anyL_take (i := 4) (v := .int .i64 (q : Int)) rfl (by kernel_rfl) (by kernel_rfl) (by kernel_rfl) (yl_other (by decide) (by decide) rfl (fun f1 f2 wx hT => ?_)) ?_
            · refine lands_value (w := wx) ?_ hT; go_simp; exact IntWalk.i64_in _ (by omega)
            simp only [pu]
            refine anyL_take (i := 5) (v := ?_) rfl (by kernel_rfl) (by kernel_rfl) (by kernel_rfl) (yl_other (by decide) (by decide) rfl (fun f1 f2 wx hT => ?_)) ?_; rotate_left
            · refine lands_value (w := wx) ?_ hT; go_simp <;> rfl
            simp only [pu]
            refine anyL_take (i := 6) (v := ?_) rfl (by kernel_rfl) (by kernel_rfl) (by kernel_rfl) (yl_other (by decide) (by decide) rfl (fun f1 f2 wx hT => ?_)) ?_; rotate_left
            · refine lands_value (w := wx) ?_ hT; go_simp <;> rfl
            simp only [pu]
            refine anyL_take (i := 7) (v := ?_) rfl (by kernel_rfl) (by kernel_rfl) (by kernel_rfl) (yl_other (by decide) (by decide) rfl (fun f1 f2 wx hT => ?_)) ?_; rotate_left
            · refine lands_value (w := wx) ?_ hT; go_simp <;> rfl
            simp only [pu]
            refine anyL_take (i := 8) (v := .int .i64 (S : Int)) rfl (by kernel_rfl) (by kernel_rfl) (by kernel_rfl) (yl_other (by decide) (by decide) rfl (fun f1 f2 wx hT => ?_)) ?_
            · refine lands_value (w := wx) ?_ hT; go_simp; exact IntWalk.i64_in _ (by omega)
            simp only [pu]
            refine anyL_take (i := 9) (v := .int .i64 (q : Int)) rfl (by kernel_rfl) (by kernel_rfl) (by kernel_rfl) (yl_other (by decide) (by decide) rfl (fun f1 f2 wx hT => ?_)) ?_
            · refine lands_value (w := wx) ?_ hT; go_simp; exact IntWalk.i64_in _ (by omega)
            simp only [pu]
            refine anyL_take (i := 10) (v := ?_) rfl (by kernel_rfl) (by kernel_rfl) (by kernel_rfl) (yl_other (by decide) (by decide) rfl (fun f1 f2 wx hT => ?_)) ?_; rotate_left
            · refine lands_value (w := wx) ?_ hT; go_simp <;> rfl
            simp only [pu]
            refine anyL_take (i := 11) (v := .int .u8 (iw (laidB A L c j q))) rfl (by kernel_rfl) (by kernel_rfl) (by kernel_rfl) (yl_ahead (n := 12) (by decide) (by decide) (by kernel_rfl) rfl (fun f2 wx hT => ?_)) ?_
            · have c0 := hT.b.at_ hq8; refine lands_value (w := wx) ?_ hT; go_simp; skip
            simp only [pu]
            refine anyL_take (i := 12) (v := ?_) rfl (by kernel_rfl) (by kernel_rfl) (by kernel_rfl) (yl_other (by decide) (by decide) rfl (fun f1 f2 wx hT => ?_)) ?_; rotate_left
            · refine lands_value (w := wx) ?_ hT; go_simp <;> rfl
            simp only [pu]
            refine anyL_take (i := 13) (v := ?_) rfl (by kernel_rfl) (by kernel_rfl) (by kernel_rfl) (yl_other (by decide) (by decide) rfl (fun f1 f2 wx hT => ?_)) ?_; rotate_left
            · refine lands_value (w := wx) ?_ hT; go_simp <;> rfl
            simp only [pu]
            refine anyL_take (i := 14) (v := .int .i64 (S : Int)) rfl (by kernel_rfl) (by kernel_rfl) (by kernel_rfl) (yl_other (by decide) (by decide) rfl (fun f1 f2 wx hT => ?_)) ?_
            · refine lands_value (w := wx) ?_ hT; go_simp; exact IntWalk.i64_in _ (by omega)
            simp only [pu]
            refine anyL_take (i := 15) (v := .int .i64 (r : Int)) rfl (by kernel_rfl) (by kernel_rfl) (by kernel_rfl) (yl_other (by decide) (by decide) rfl (fun f1 f2 wx hT => ?_)) ?_
            · refine lands_value (w := wx) ?_ hT; go_simp; skip
            simp only [pu]
            refine anyL_take (i := 16) (v := .int .u8 (iw (shlw (litw 8 1) r))) rfl (by kernel_rfl) (by kernel_rfl) (by kernel_rfl) (yl_other (by decide) (by decide) rfl (fun f1 f2 wx hT => ?_)) ?_
            · refine lands_value (w := wx) ?_ hT; go_simp; exact wrap8_pow r
            simp only [pu]
            refine anyL_take (i := 17) (v := .int .u8 (iw (orw (laidB A L c j q) (shlw (litw 8 1) r)))) rfl (by kernel_rfl) (by kernel_rfl) (by kernel_rfl) (yl_other (by decide) (by decide) rfl (fun f1 f2 wx hT => ?_)) ?_
            · refine lands_value (w := wx) ?_ hT; go_simp; exact or8w _ _
            simp only [pu]
            refine anyL_take (i := 18) (v := ?_) rfl (by kernel_rfl) (by kernel_rfl) (by kernel_rfl) (yl_other (by decide) (by decide) rfl (fun f1 f2 wx hT => ?_)) ?_; rotate_left
            · refine lands_value (w := wx) ?_ hT; go_simp <;> rfl
            simp only [pu]
            refine anyL_take (i := 19) (v := undef) rfl (by kernel_rfl) (by kernel_rfl) (by kernel_rfl) (yl_first (by decide) rfl (fun f2 wx hT => ?_)) ?_
            · have co := hT.b.at_ hq8; have fo := hT.b.frozen q; have K := HPUT.out _ hT; go_simp; exact ⟨rfl, K⟩
            simp only [Act.put]
            refine anyL_done rfl ?_ _
            intro wx hT
            have hT2 : BkW w5.heap.size A L c (j + 1) w5 wx := hT
            go_wp2_with fail
            exact ⟨⟨j + 1, by omega, rfl, hT2⟩, by simp only [intOf]; omega⟩
          · have hb1 : (b : Int) % 2 = 0 := by omega
            have hb2 : (b : Int).tmod 2 = 0 := by rw [Int.tmod_eq_emod_of_nonneg (by omega)]; exact hb1
            have HN : Hid (∀ wx, BkW w5.heap.size A L c j w5 wx → BkW w5.heap.size A L c (j + 1) w5 wx) := Lib.hid (fun wx hx => ⟨hx.b.cast_ (row_ext fun i hi => by
              show _ = Value.int .u8 (iw (if _ then _ else _))
              rw [if_neg (by rintro ⟨h2, _⟩; rw [← HD.out, ← HBb.out] at h2; exact hbit h2)]), hx.l, rfl⟩)
            clear hbit
            go_wp2_with fail
            go_quiet (fail)
            have hrq : BkW w5.heap.size A L c j w5 (wr.drewN nq) := ⟨hr.b.drewN _, below_draws hr.l _, rfl⟩
            go_wp2_with fail
            exact ⟨⟨j + 1, by omega, rfl, HN.out _ hrq⟩, by simp only [intOf]; omega⟩
        · obtain rfl : L = j := by omega
          have hcv := conv_blkZ 8 8 (laidB A L c L) wr w5.heap.size hr.b
          obtain ⟨s8, hs8⟩ : ∃ s8, s8 = textN 8 fun i => (laidB A L c L i).toNat := ⟨_, rfl⟩
          rw [← hs8] at hcv
          have hsz : s8.size = 8 := by rw [hs8]; exact textN_size _ _
          have hsb : ∀ q, q < 8 → byteS s8 q = (laidB A L c L q).toNat := fun q hq => by rw [hs8]; exact byteS_textN 8 _ q hq (BitVec.isLt _)
          have hn1 := next_code l m k (bitH (s8 ++ t)) (8 * (s8 ++ t).size) A (fun i hi => by have := (h15.out i hi).2; omega) HK.out HKM.out (by rw [← EL.out]; have := HLn.out; omega)
            (fun i hi => by rw [← EL.out] at hi ⊢; rw [← EC.out]; exact laid_bits A L c s8 t hsz hsb i hi (by have := HLn.out; have := HA.out; omega))
            (by rw [size_app, hsz, ← EL.out]; have := HLn.out; have := HA.out; omega) 0 15 (by rw [← EL.out]; have := HLn.out; omega) (by rw [← EL.out]; have := HLn.out; omega)
          rw [← EL.out] at hn1
          have CN := next_huff (.pointer (some a5)) (fun i => (l i : Int)) m (s8 ++ t) A wr (CV.out.below hr.l) (by rw [size_app, hsz]; omega) (by have := HA.out; omega) (k, A + L, 0) (by
            rw [show toL (fun i => (l i : Int)) = l from funext fun i => Int.toNat_natCast _]; exact hn1)
          have CN := Lib.hid CN
          have HZ : Hid ((s8 ++ t).size < 140737488351232 + 9) := Lib.hid (by rw [size_app, hsz]; omega)
          have hsum : ¬ 9223372036854775807 < s8.size + t.size := by omega
          clear hn1 hsz hsb hs8
          go_wp2_with fail
          refine CN.out.mono ?_
          rintro e w6 ⟨rfl, b6⟩
          have hALi : IntKind.i64.wrap ((A : Int) + (L : Int)) = ((A + L : Nat) : Int) := by
            have := HLn.out; have := HA.out
            rw [IntWalk.i64_in _ (by omega)]; omega
          have hci6 := (I5.out.below (hr.l.trans (b6.mono (Nat.le_of_lt hr.b.lt)))).cell a3 rfl k HKM.out
          try dsimp only at hci6
          rw [← EL.out] at hci6
          go_wp2_with fail
          go_ret
          exact ⟨rfl, d5.trans ((hr.l.trans (b6.mono (Nat.le_of_lt hr.b.lt))).mono d5.size)⟩
set_option maxRecDepth 100000 in
set_option maxHeartbeats 8000000 in
theorem huffBack_neg (p : Option Addr) (n cap : Nat) (f : Nat → Nat) (y : Int) (x : Nat) (hx : x < 9223372036854775808) (hy : y = -(x : Int) - 1) (a : Nat) (ha : a < 256) (t : ByteArray) (ht : t.size ≤ 140737488351232) (w : World) (h : US p n cap f w) (hn : n ≤ 70368744177664) :
    Calls Try.prog 7 #[.slice p n cap, .int .i64 y, .int .u8 (a : Int), .string t] w fun e w' => e = .returned (.bool true) ∧ Below w.heap.size w w' := by
  have C1 := Lib.hid (fun w h => counted9_is p n cap f w h hn)
  obtain ⟨m, hm⟩ : ∃ m, m = min n 40 := ⟨_, rfl⟩
  rw [← hm] at C1
  have hm40 : m ≤ 40 := by omega
  obtain ⟨l, hl, _, hB, hE, hN⟩ := lens_counted f m hm40 15 (by decide)
  have h15 := Lib.hid (okB_true.1 hB)
  have C2 := Lib.hid (fun p c w h => lengths_huff p m c _ 15 w h (by omega) l hl)
  have C3 := Lib.hid (fun p c w h => codes_huff p m c (fun i => (l i : Int)) w h (by omega))
  rw [show codesM (fun i => (l i : Int)) m = m by unfold codesM; rw [if_pos hE], hE, show toL (fun i => (l i : Int)) = l from funext fun i => Int.toNat_natCast _] at C3
  have C4 := Lib.hid (fun p c w h => new_huff p m c (fun i => (l i : Int)) w h (by omega) hN)
  have HK : Hid (kr l m ≤ 2 ^ 15) := Lib.hid (by
    have := (codesE_zero hE).2
    rw [show toL (fun i => (l i : Int)) = l from funext fun i => Int.toNat_natCast _] at this
    exact this)
  have hy0 : y < 0 := by omega
  have hy1 : wrap64 (y + 1) = -(x : Int) := by unfold wrap64; omega
  have hy2 : wrap64 (x : Int) = (x : Int) := by unfold wrap64; omega
  clear hm hn hl hB hE hN hy
  go_enter Try.func7, Try.ntmps7
  go_wp2_with fail
  refine (examples9_any _).mono ?_
  rintro e w1 ⟨rfl, b1⟩
  have I1 := Lib.hid (h.below b1)
  go_wp2_with fail
  refine (C1.out _ I1.out).mono ?_
  rintro e w2 ⟨p2, c2, rfl, i2, b2⟩
  have d2 := b1.trans (b2.mono b1.size)
  clear I1 b1 b2
  go_wp2_with fail
  refine (C2.out _ _ _ i2).mono ?_
  rintro e w3 ⟨p3, c3, rfl, i3, b3⟩
  have d3 := d2.trans (b3.mono d2.size)
  have I3 := Lib.hid i3
  clear d2 i2 b3 i3
  go_wp2_with fail
  refine (C3.out _ _ _ I3.out).mono ?_
  rintro e w4 ⟨p4, c4, rfl, i4, b4⟩
  have d4 := d3.trans (b4.mono d3.size)
  have I4 := Lib.hid (I3.out.below b4)
  have J4 := Lib.hid i4
  clear d3 i4 b4 I3
  go_wp2_with fail
  refine (C4.out _ _ _ I4.out).mono ?_
  rintro e w5 ⟨v5, rfl, cv, b5⟩
  have d5 := d4.trans (b5.mono d4.size)
  have I5 := Lib.hid (I4.out.below b5)
  have J5 := Lib.hid (J4.out.below b5)
  obtain ⟨a5, rfl⟩ := cv.some
  have CV := Lib.hid cv
  clear d4 b5 I4 J4 cv
  by_cases h0 : m = 0
  · subst h0
    go_wp2_with fail
    go_ret
    exact ⟨rfl, d5⟩
  · have hm0 : ¬ (m : Int) = 0 := by omega
    obtain ⟨k, hk⟩ : ∃ k, k = x % m := ⟨_, rfl⟩
    have hkm : k < m := by rw [hk]; exact Nat.mod_lt _ (by omega)
    have hkx : (x : Int) % (m : Int) = (k : Int) := by rw [hk]; exact (Int.natCast_emod ..).symm
    have hkmi : (k : Int) < (m : Int) := by omega
    have HKM := Lib.hid hkm
    clear hk hkm h0
    cases p3 with
    | none => have := (I5.out.nil_ rfl).1; have := HKM.out; omega
    | some a3 =>
    cases p4 with
    | none => have := (J5.out.nil_ rfl).1; have := HKM.out; omega
    | some a4 =>
    have ci := I5.out.cell a3 rfl k HKM.out
    have xi := J5.out.cell a4 rfl k HKM.out
    have HL := h15.out k HKM.out
    try dsimp only at ci xi HL
    obtain ⟨L, hL⟩ : ∃ L, L = l k := ⟨_, rfl⟩
    obtain ⟨c, hc⟩ : ∃ c, c = codeN l m k := ⟨_, rfl⟩
    rw [← hL] at ci HL
    rw [← hc] at xi
    have EL := Lib.hid hL
    have EC := Lib.hid hc
    clear hL hc
    by_cases hL0 : L = 0
    · subst hL0
      go_wp2_with fail
      go_ret
      exact ⟨rfl, d5⟩
    · have hL0i : ((L : Int) == 0) = false := beq_eq_false_iff_ne.2 (by omega)
      have hL15 : ¬ (15 : Int) < (L : Int) := by omega
      have HLn : Hid (L ≤ 15 ∧ 1 ≤ L) := Lib.hid (by omega)
      obtain ⟨A, hA⟩ : ∃ A, A = a % 20 := ⟨_, rfl⟩
      have hAi : (a : Int) % 20 = (A : Int) := by omega
      have HA : Hid (A < 20) := Lib.hid (by omega)
      clear hA HL hL0
      have hmk := run_zerosZ 8 8 rfl (by decide)
      go_wp2_with fail
      clear hmk
      have K0 : BkW w5.heap.size A L c 0 w5 (w5.alloc (.cells (r8 8 fun _ => litw 8 0) 5)) := ⟨Blk.new _ _ _, (Below.refl _ _).alloc (Nat.le_refl _) _, rfl⟩
      go_loopw [19] (fun i wr => ∃ j : Nat, j ≤ L ∧ i = .int .i64 (j : Int) ∧ BkW w5.heap.size A L c j w5 wr) (fun i _ => L - (intOf i).toNat)
      case atStart => exact ⟨0, by omega, rfl, K0⟩
      case round =>
        obtain ⟨j, hj, rfl, hr⟩ := hrel
        clear K0
        have ci2 := (I5.out.below hr.l).cell a3 rfl k HKM.out
        try dsimp only at ci2
        rw [← EL.out] at ci2
        by_cases hlt : j < L
        · have hlti : (j : Int) < (L : Int) := by omega
          have xi2 := (J5.out.below hr.l).cell a4 rfl k HKM.out
          try dsimp only at xi2
          rw [← EC.out] at xi2
          obtain ⟨D, hD⟩ : ∃ D, D = L - 1 - j := ⟨_, rfl⟩
          have hs1 : IntKind.i64.wrap ((L : Int) - 1) = ((L - 1 : Nat) : Int) := by rw [IntWalk.i64_in _ (by omega)]; omega
          have hs2 : IntKind.i64.wrap (((L - 1 : Nat) : Int) - (j : Int)) = (D : Int) := by rw [IntWalk.i64_in _ (by omega)]; omega
          have HD := Lib.hid hD
          clear hD
          obtain ⟨b, hb⟩ : ∃ b, b = c / 2 ^ D := ⟨_, rfl⟩
          have hmd : min D 64 = D := by have := HD.out; omega
          have hbi : (c : Int) / 2 ^ D = (b : Int) := by rw [hb, Int.natCast_ediv]; push_cast; rfl
          have HBb := Lib.hid hb
          clear hb
          by_cases hbit : b % 2 = 1
          · have hb1 : (b : Int) % 2 = 1 := by omega
            have hb2 : (b : Int).tmod 2 = 1 := by rw [Int.tmod_eq_emod_of_nonneg (by omega)]; exact hb1
            obtain ⟨S, hS⟩ : ∃ S, S = A + j := ⟨_, rfl⟩
            obtain ⟨q, hq⟩ : ∃ q, q = S / 8 := ⟨_, rfl⟩
            obtain ⟨r, hr0⟩ : ∃ r, r = S % 8 := ⟨_, rfl⟩
            have hA20 := HA.out
            have hL1 := HLn.out
            have hq8 : q < 8 := by omega
            have hl0 : (q : Int) < 8 := by omega
            have hl1 : (0 : Int) ≤ q := by omega
            have hr8 : r < 8 := by omega
            have HPUT : Hid (∀ wx, BkW w5.heap.size A L c j w5 wx → BkW w5.heap.size A L c (j + 1) w5 (wx.setCell ⟨w5.heap.size, q, none⟩ (.int .u8 (iw (orw (laidB A L c j q) (shlw (litw 8 1) r)))))) := Lib.hid (fun wx hx => by
              refine ⟨(hx.b.put hq8 _).cast_ (row_ext fun i hi => ?_), hx.l.setCell (by simp) _, rfl⟩
              have hbc : c / 2 ^ (L - 1 - j) % 2 = 1 := by rw [← HD.out, ← HBb.out]; exact hbit
              by_cases h1 : i = q
              · subst h1
                rw [if_pos rfl]
                show _ = Value.int .u8 (iw (if _ then _ else _))
                rw [if_pos ⟨hbc, by omega⟩, ← hS, ← hr0]
              · rw [if_neg h1]
                show _ = Value.int .u8 (iw (if _ then _ else _))
                rw [if_neg (by rintro ⟨_, h2⟩; omega)])
            have hSA : (A : Int) + (j : Int) = (S : Int) := by omega
            have hSq : (S : Int).tdiv 8 = (q : Int) := by rw [Int.tdiv_eq_ediv_of_nonneg (by omega)]; omega
            have hSr : (S : Int).tmod 8 = (r : Int) := by rw [Int.tmod_eq_emod_of_nonneg (by omega)]; omega
            have hS40 : S < 40 := by omega
            clear hS hq hr0 hbit hA20 hL1
            go_wp2_with fail
            go_quiet (fail)
            have hrq : BkW w5.heap.size A L c j w5 (wr.drewN nq) := ⟨hr.b.drewN _, below_draws hr.l _, rfl⟩
            go_wp2_with fail
            refine wp_region_anyL (Two 19 1000 fun f1 _ wx => BkW w5.heap.size A L c (if f1 then j + 1 else j) w5 wx) (by kernel_rfl) ⟨hrq.b.drew, hrq.l.drew, rfl⟩ ?_
            refine anyL_take (i := 0) (v := ?_) rfl (by kernel_rfl) (by kernel_rfl) (by kernel_rfl) (yl_other (by decide) (by decide) rfl (fun f1 f2 wx hT => ?_)) ?_; rotate_left
            · refine lands_value (w := wx) ?_ hT; go_simp <;> rfl
            simp only [pu]
            refine anyL_take (i := 1) (v := ?_) rfl (by kernel_rfl) (by kernel_rfl) (by kernel_rfl) (yl_other (by decide) (by decide) rfl (fun f1 f2 wx hT => ?_)) ?_; rotate_left
            · refine lands_value (w := wx) ?_ hT; go_simp <;> rfl
            simp only [pu]
            refine anyL_take (i := 2) (v := ?_) rfl (by kernel_rfl) (by kernel_rfl) (by kernel_rfl) (yl_other (by decide) (by decide) rfl (fun f1 f2 wx hT => ?_)) ?_; rotate_left
            · refine lands_value (w := wx) ?_ hT; go_simp <;> rfl
            simp only [pu]
            refine anyL_take (i := 3) (v := .int .i64 (S : Int)) rfl (by kernel_rfl) (by kernel_rfl) (by kernel_rfl) (yl_other (by decide) (by decide) rfl (fun f1 f2 wx hT => ?_)) ?_
            · refine lands_value (w := wx) ?_ hT; go_simp; exact IntWalk.i64_in _ (by omega)
            simp only [pu]
            refine anyL_take (i := 4) (v := .int .i64 (q : Int)) rfl (by kernel_rfl) (by kernel_rfl) (by kernel_rfl) (yl_other (by decide) (by decide) rfl (fun f1 f2 wx hT => ?_)) ?_
            · refine lands_value (w := wx) ?_ hT; go_simp; exact IntWalk.i64_in _ (by omega)
            simp only [pu]
            refine anyL_take (i := 5) (v := ?_) rfl (by kernel_rfl) (by kernel_rfl) (by kernel_rfl) (yl_other (by decide) (by decide) rfl (fun f1 f2 wx hT => ?_)) ?_; rotate_left
            · refine lands_value (w := wx) ?_ hT; go_simp <;> rfl
            simp only [pu]
            refine anyL_take (i := 6) (v := ?_) rfl (by kernel_rfl) (by kernel_rfl) (by kernel_rfl) (yl_other (by decide) (by decide) rfl (fun f1 f2 wx hT => ?_)) ?_; rotate_left
            · refine lands_value (w := wx) ?_ hT; go_simp <;> rfl
            simp only [pu]
            refine anyL_take (i := 7) (v := ?_) rfl (by kernel_rfl) (by kernel_rfl) (by kernel_rfl) (yl_other (by decide) (by decide) rfl (fun f1 f2 wx hT => ?_)) ?_; rotate_left
            · refine lands_value (w := wx) ?_ hT; go_simp <;> rfl
            simp only [pu]
            refine anyL_take (i := 8) (v := .int .i64 (S : Int)) rfl (by kernel_rfl) (by kernel_rfl) (by kernel_rfl) (yl_other (by decide) (by decide) rfl (fun f1 f2 wx hT => ?_)) ?_
            · refine lands_value (w := wx) ?_ hT; go_simp; exact IntWalk.i64_in _ (by omega)
            simp only [pu]
            refine anyL_take (i := 9) (v := .int .i64 (q : Int)) rfl (by kernel_rfl) (by kernel_rfl) (by kernel_rfl) (yl_other (by decide) (by decide) rfl (fun f1 f2 wx hT => ?_)) ?_
            · refine lands_value (w := wx) ?_ hT; go_simp; exact IntWalk.i64_in _ (by omega)
            simp only [pu]
            refine anyL_take (i := 10) (v := ?_) rfl (by kernel_rfl) (by kernel_rfl) (by kernel_rfl) (yl_other (by decide) (by decide) rfl (fun f1 f2 wx hT => ?_)) ?_; rotate_left
            · refine lands_value (w := wx) ?_ hT; go_simp <;> rfl
            simp only [pu]
            refine anyL_take (i := 11) (v := .int .u8 (iw (laidB A L c j q))) rfl (by kernel_rfl) (by kernel_rfl) (by kernel_rfl) (yl_ahead (n := 12) (by decide) (by decide) (by kernel_rfl) rfl (fun f2 wx hT => ?_)) ?_
            · have c0 := hT.b.at_ hq8; refine lands_value (w := wx) ?_ hT; go_simp; skip
            simp only [pu]
            refine anyL_take (i := 12) (v := ?_) rfl (by kernel_rfl) (by kernel_rfl) (by kernel_rfl) (yl_other (by decide) (by decide) rfl (fun f1 f2 wx hT => ?_)) ?_; rotate_left
            · refine lands_value (w := wx) ?_ hT; go_simp <;> rfl
            simp only [pu]
            refine anyL_take (i := 13) (v := ?_) rfl (by kernel_rfl) (by kernel_rfl) (by kernel_rfl) (yl_other (by decide) (by decide) rfl (fun f1 f2 wx hT => ?_)) ?_; rotate_left
            · refine lands_value (w := wx) ?_ hT; go_simp <;> rfl
            simp only [pu]
            refine anyL_take (i := 14) (v := .int .i64 (S : Int)) rfl (by kernel_rfl) (by kernel_rfl) (by kernel_rfl) (yl_other (by decide) (by decide) rfl (fun f1 f2 wx hT => ?_)) ?_
            · refine lands_value (w := wx) ?_ hT; go_simp; exact IntWalk.i64_in _ (by omega)
            simp only [pu]
            refine anyL_take (i := 15) (v := .int .i64 (r : Int)) rfl (by kernel_rfl) (by kernel_rfl) (by kernel_rfl) (yl_other (by decide) (by decide) rfl (fun f1 f2 wx hT => ?_)) ?_
            · refine lands_value (w := wx) ?_ hT; go_simp; skip
            simp only [pu]
            refine anyL_take (i := 16) (v := .int .u8 (iw (shlw (litw 8 1) r))) rfl (by kernel_rfl) (by kernel_rfl) (by kernel_rfl) (yl_other (by decide) (by decide) rfl (fun f1 f2 wx hT => ?_)) ?_
            · refine lands_value (w := wx) ?_ hT; go_simp; exact wrap8_pow r
            simp only [pu]
            refine anyL_take (i := 17) (v := .int .u8 (iw (orw (laidB A L c j q) (shlw (litw 8 1) r)))) rfl (by kernel_rfl) (by kernel_rfl) (by kernel_rfl) (yl_other (by decide) (by decide) rfl (fun f1 f2 wx hT => ?_)) ?_
            · refine lands_value (w := wx) ?_ hT; go_simp; exact or8w _ _
            simp only [pu]
            refine anyL_take (i := 18) (v := ?_) rfl (by kernel_rfl) (by kernel_rfl) (by kernel_rfl) (yl_other (by decide) (by decide) rfl (fun f1 f2 wx hT => ?_)) ?_; rotate_left
            · refine lands_value (w := wx) ?_ hT; go_simp <;> rfl
            simp only [pu]
            refine anyL_take (i := 19) (v := undef) rfl (by kernel_rfl) (by kernel_rfl) (by kernel_rfl) (yl_first (by decide) rfl (fun f2 wx hT => ?_)) ?_
            · have co := hT.b.at_ hq8; have fo := hT.b.frozen q; have K := HPUT.out _ hT; go_simp; exact ⟨rfl, K⟩
            simp only [Act.put]
            refine anyL_done rfl ?_ _
            intro wx hT
            have hT2 : BkW w5.heap.size A L c (j + 1) w5 wx := hT
            go_wp2_with fail
            exact ⟨⟨j + 1, by omega, rfl, hT2⟩, by simp only [intOf]; omega⟩
          · have hb1 : (b : Int) % 2 = 0 := by omega
            have hb2 : (b : Int).tmod 2 = 0 := by rw [Int.tmod_eq_emod_of_nonneg (by omega)]; exact hb1
            have HN : Hid (∀ wx, BkW w5.heap.size A L c j w5 wx → BkW w5.heap.size A L c (j + 1) w5 wx) := Lib.hid (fun wx hx => ⟨hx.b.cast_ (row_ext fun i hi => by
              show _ = Value.int .u8 (iw (if _ then _ else _))
              rw [if_neg (by rintro ⟨h2, _⟩; rw [← HD.out, ← HBb.out] at h2; exact hbit h2)]), hx.l, rfl⟩)
            clear hbit
            go_wp2_with fail
            go_quiet (fail)
            have hrq : BkW w5.heap.size A L c j w5 (wr.drewN nq) := ⟨hr.b.drewN _, below_draws hr.l _, rfl⟩
            go_wp2_with fail
            exact ⟨⟨j + 1, by omega, rfl, HN.out _ hrq⟩, by simp only [intOf]; omega⟩
        · obtain rfl : L = j := by omega
          have hcv := conv_blkZ 8 8 (laidB A L c L) wr w5.heap.size hr.b
          obtain ⟨s8, hs8⟩ : ∃ s8, s8 = textN 8 fun i => (laidB A L c L i).toNat := ⟨_, rfl⟩
          rw [← hs8] at hcv
          have hsz : s8.size = 8 := by rw [hs8]; exact textN_size _ _
          have hsb : ∀ q, q < 8 → byteS s8 q = (laidB A L c L q).toNat := fun q hq => by rw [hs8]; exact byteS_textN 8 _ q hq (BitVec.isLt _)
          have hn1 := next_code l m k (bitH (s8 ++ t)) (8 * (s8 ++ t).size) A (fun i hi => by have := (h15.out i hi).2; omega) HK.out HKM.out (by rw [← EL.out]; have := HLn.out; omega)
            (fun i hi => by rw [← EL.out] at hi ⊢; rw [← EC.out]; exact laid_bits A L c s8 t hsz hsb i hi (by have := HLn.out; have := HA.out; omega))
            (by rw [size_app, hsz, ← EL.out]; have := HLn.out; have := HA.out; omega) 0 15 (by rw [← EL.out]; have := HLn.out; omega) (by rw [← EL.out]; have := HLn.out; omega)
          rw [← EL.out] at hn1
          have CN := next_huff (.pointer (some a5)) (fun i => (l i : Int)) m (s8 ++ t) A wr (CV.out.below hr.l) (by rw [size_app, hsz]; omega) (by have := HA.out; omega) (k, A + L, 0) (by
            rw [show toL (fun i => (l i : Int)) = l from funext fun i => Int.toNat_natCast _]; exact hn1)
          have CN := Lib.hid CN
          have HZ : Hid ((s8 ++ t).size < 140737488351232 + 9) := Lib.hid (by rw [size_app, hsz]; omega)
          have hsum : ¬ 9223372036854775807 < s8.size + t.size := by omega
          clear hn1 hsz hsb hs8
          go_wp2_with fail
          refine CN.out.mono ?_
          rintro e w6 ⟨rfl, b6⟩
          have hALi : IntKind.i64.wrap ((A : Int) + (L : Int)) = ((A + L : Nat) : Int) := by
            have := HLn.out; have := HA.out
            rw [IntWalk.i64_in _ (by omega)]; omega
          have hci6 := (I5.out.below (hr.l.trans (b6.mono (Nat.le_of_lt hr.b.lt)))).cell a3 rfl k HKM.out
          try dsimp only at hci6
          rw [← EL.out] at hci6
          go_wp2_with fail
          go_ret
          exact ⟨rfl, d5.trans ((hr.l.trans (b6.mono (Nat.le_of_lt hr.b.lt))).mono d5.size)⟩
theorem huffBack_any (p : Option Addr) (n cap : Nat) (f : Nat → Nat) (y : Int) (hy : -9223372036854775808 ≤ y) (hy2 : y < 9223372036854775808) (a : Nat) (ha : a < 256) (t : ByteArray) (ht : t.size ≤ 140737488351232) (w : World) (h : US p n cap f w) (hn : n ≤ 70368744177664) :
    Calls Try.prog 7 #[.slice p n cap, .int .i64 y, .int .u8 (a : Int), .string t] w fun e w' => e = .returned (.bool true) ∧ Below w.heap.size w w' := by
  rcases Int.lt_or_le y 0 with h0 | h0
  · obtain ⟨x, hx⟩ : ∃ x : Nat, y = -(x : Int) - 1 := ⟨(-(y + 1)).toNat, by omega⟩
    exact huffBack_neg p n cap f y x (by omega) hx a ha t ht w h hn
  · obtain ⟨x, rfl⟩ : ∃ x : Nat, y = (x : Int) := ⟨y.toNat, by omega⟩
    exact huffBack_nat p n cap f x (by omega) a ha t ht w h hn
theorem huffBack_int (p : Option Addr) (n cap : Nat) (f : Nat → Nat) (y : Int) (hy : -9223372036854775808 ≤ y) (hy2 : y < 9223372036854775808) (a : Int) (ha : 0 ≤ a) (ha2 : a < 256) (t : ByteArray) (ht : t.size ≤ 140737488351232) (w : World) (h : US p n cap f w) (hn : n ≤ 70368744177664) :
    Calls Try.prog 7 #[.slice p n cap, .int .i64 y, .int .u8 a, .string t] w fun e w' => e = .returned (.bool true) ∧ Below w.heap.size w w' := by
  obtain ⟨x, rfl⟩ : ∃ x : Nat, a = (x : Int) := ⟨a.toNat, by omega⟩
  exact huffBack_any p n cap f y hy hy2 x (by omega) t ht w h hn
end Go.Proofs.Ytmmkmbinmmfblaa
