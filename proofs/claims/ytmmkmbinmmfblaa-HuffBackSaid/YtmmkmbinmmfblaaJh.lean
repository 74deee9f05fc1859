/- The developers' Next of chapter 9. -/
import Derived.Test.YtmmkmbinmmfblaaJg
namespace Go.Proofs.Ytmmkmbinmmfblaa
open Go.RowKit
theorem next_huff_neg (v : Value) (f : Nat → Int) (n : Nat) (s : ByteArray) (at_ : Int) (w : World) (h : CodeV v f n w) (ha : at_ < 0) :
    Calls Try.prog 18 #[v, .string s, .int .i64 at_] w fun e w' => e = .returned (.tuple #[.int .i64 0, .int .i64 0, .int .i64 1]) ∧ Below w.heap.size w w' := by
  obtain ⟨_, _, _, w1, rfl, _⟩ := h
  go_enter Try.func18, Try.ntmps18
  go_wp2_with fail
  go_step3
  go_wp2_with fail
  rw [Exit.noGoto_ret]
  go_ret3
  exact ⟨rfl, Below.refl _ _⟩
theorem and_bitU8 : ∀ x : Fin 256, bits .and .u8 (x.val : Int) 1 = ((x.val % 2 : Nat) : Int) := by decide +kernel
theorem bit_outU8 (x r : Nat) (h : x < 256) : bits .and .u8 ((x : Int) / 2 ^ r) 1 = ((x / 2 ^ r % 2 : Nat) : Int) := by
  have e : (x : Int) / 2 ^ r = ((x / 2 ^ r : Nat) : Int) := by norm_cast
  have h2 : x / 2 ^ r < 256 := Nat.lt_of_le_of_lt (Nat.div_le_self _ _) h
  rw [e]
  clear e
  generalize x / 2 ^ r = y at h2 ⊢
  exact and_bitU8 ⟨y, h2⟩
theorem or_even {m b : Nat} (hb : b < 2) : (2 * m) ||| b = 2 * m + b := by
  have h := Nat.two_pow_add_eq_or_of_lt (i := 1) (b := b) (by omega) m
  rw [Nat.pow_one] at h
  exact h.symm
set_option maxRecDepth 100000 in
set_option maxHeartbeats 8000000 in
theorem next_huff (v : Value) (f : Nat → Int) (n : Nat) (s : ByteArray) (at_ : Nat) (w : World) (h : CodeV v f n w) (hs : s.size ≤ 281474976710656) (ha : at_ < 9223372036854775808) (r : Nat × Nat × Nat) (hr : nextV (toL f) n (bitH s) (8 * s.size) at_ 0 15 = r) :
    Calls Try.prog 18 #[v, .string s, .int .i64 (at_ : Int)] w fun e w' => e = .returned (.tuple #[.int .i64 (r.1 : Int), .int .i64 (r.2.1 : Int), .int .i64 (r.2.2 : Int)]) ∧ Below w.heap.size w w' := by
  obtain ⟨hn, hok, hk, w1, rfl, hm, hc⟩ := h
  obtain ⟨l, hl⟩ : ∃ l, l = toL f := ⟨_, rfl⟩
  rw [← hl] at hr hm hk
  have HL : Hid (∀ x : Nat, x < 4294967296 → (Instr.lookup 62 (.map (some w1.heap.size)) (.int .u32 (x : Int)) true).run Try.prog w = .ok (.tuple #[.int .i64 (((gkW l n n x).getD 0 : Nat) : Int), .bool (gkW l n n x).isSome]) w) := Lib.hid fun x hx => hm.look hx
  have H15 : Hid (∀ j, j < n → l j ≤ 15) := Lib.hid fun j hj => by have := okB_true.1 hok j hj; rw [hl]; unfold toL; omega
  have HK := Lib.hid hk
  have HR := Lib.hid hr
  have ha0 : ¬ (at_ : Int) < 0 := by omega
  have c0 : w.cell? ⟨w1.heap.size + 1, 0, none⟩ = some (.map (some w1.heap.size)) := hc.cell 0
  clear hm hk hr hok hl hc
  go_enter Try.func18, Try.ntmps18
  go_wp2_with fail
  go_step3
  go_wp2_with fail
  go_step3
  go_wp2_with fail
  go_loopw [2, 6, 7, 8, 9] (fun p x y z c wr => ∃ d : Nat, d ≤ 14 ∧ x = .int .i64 0 ∧ y = .int .i64 0 ∧ z = .int .i64 3 ∧ p = .int .i64 ((at_ + d : Nat) : Int) ∧ at_ + d < 9223372036854775808 ∧ c = .int .u32 ((2 ^ d + rv (bitH s) at_ d : Nat) : Int) ∧ Hid (nextV l n (bitH s) (8 * s.size) at_ d (15 - d) = r) ∧ w = wr) (fun _ _ _ _ c _ => 65536 - (intOf c).toNat)
  case atStart => exact ⟨0, by omega, rfl, rfl, rfl, rfl, by omega, rfl, HR, rfl⟩
  case round =>
    obtain ⟨d, hd, rfl, rfl, rfl, rfl, hal, rfl, HV, rfl⟩ := hrel
    have hrv := rv_lt (bitH_lt s) at_ d
    have hp2 : 2 ^ d ≤ 2 ^ 14 := Nat.pow_le_pow_right (by decide) (by omega)
    obtain ⟨q, hq15⟩ : ∃ q, 15 - d = q + 1 := ⟨14 - d, by omega⟩
    rw [hq15] at HV
    obtain ⟨P, hP⟩ : ∃ P, P = at_ + d := ⟨_, rfl⟩
    obtain ⟨Q, hQ⟩ : ∃ Q, Q = P / 8 := ⟨_, rfl⟩
    obtain ⟨R, hR⟩ : ∃ R, R = P % 8 := ⟨_, rfl⟩
    have hz1 : (P : Int).tdiv 8 = (Q : Int) := by rw [Int.tdiv_eq_ediv_of_nonneg (by omega)]; omega
    have hz2 : (P : Int).tmod 8 = (R : Int) := by rw [Int.tmod_eq_emod_of_nonneg (by omega)]; omega
    have hz3 : (P : Int) / 8 = (Q : Int) := by omega
    have hz4 : (P : Int) % 8 = (R : Int) := by omega
    have hzw : IntKind.i64.wrap (Q : Int) = (Q : Int) := IntWalk.i64_in _ (by omega)
    by_cases hT : 8 * s.size ≤ P
    · have HE : Hid (r = (0, 0, 3)) := Lib.hid (by rw [← HV.out, nextV_end _ _ _ _ _ _ _ (by omega)])
      have hq : ¬ (Q : Int) < (s.size : Int) := by omega
      rw [← hP] at hal ⊢
      clear HV hrv hp2 hq15 hP hQ hR hT HL c0
      generalize 2 ^ d + rv (bitH s) at_ d = C at *
      go_wp2_with fail
      go_ret3
      rw [HE.out]
      exact ⟨rfl, Below.refl _ _⟩
    · obtain ⟨K, hKd⟩ : ∃ K, K = 2 ^ d + rv (bitH s) at_ d := ⟨_, rfl⟩
      obtain ⟨b, hb⟩ : ∃ b, b = bitH s P := ⟨_, rfl⟩
      have hb2 : b < 2 := by rw [hb]; exact bitH_lt s P
      obtain ⟨K2, hK2⟩ : ∃ K2, K2 = 2 * K + b := ⟨_, rfl⟩
      have hK2r : K2 = 2 ^ (d + 1) + rv (bitH s) at_ (d + 1) := by
        rw [hK2, hKd, hb, hP, Nat.pow_succ]
        show _ = _ + (2 * rv (bitH s) at_ d + bitH s (at_ + d))
        omega
      have hrv2 := rv_lt (bitH_lt s) at_ (d + 1)
      have hKl : K < 32768 := by omega
      have hQs : Q < s.size := by omega
      have hx : (s[Q]).toNat < 256 := by rw [byteS_at s Q hQs]; exact byteS_lt s Q
      have hbx : b = (s[Q]).toNat / 2 ^ R % 2 := by rw [byteS_at s Q hQs, hb, hQ, hR]; rfl
      have hmin : min R 64 = R := by omega
      have hbit : bits .and .u8 (((s[Q]).toNat : Int) / 2 ^ R) 1 = (b : Int) := by rw [hbx]; exact bit_outU8 _ _ hx
      have hb32 : (b : Int) % 4294967296 = (b : Int) := by omega
      obtain ⟨M, hM⟩ : ∃ M, M = 2 * K := ⟨_, rfl⟩
      have hM1 : (K : Int) * 2 % 4294967296 = (M : Int) := by omega
      have hor : bits .or .u32 (M : Int) (b : Int) = (K2 : Int) := by rw [u32_or_nat _ _ (by omega) (by omega), hM, or_even hb2, hK2]
      have hl := HL.out K2 (by omega)
      have hqi : (Q : Int) < (s.size : Int) := by omega
      have hgf : gkW l n n K2 = fnd l n (d + 1) (rv (bitH s) at_ (d + 1)) n := by rw [hK2r]; exact gk_fnd H15.out HK.out (by omega) hrv2
      rw [hgf] at hl
      rw [← hP] at hal ⊢
      rw [← hKd]
      have HP := Lib.hid hP
      have HK2 := Lib.hid hK2r
      have HQ15 := Lib.hid hq15
      have HKl := Lib.hid hKl
      have HT := Lib.hid hT
      have HK1 : Hid (1 ≤ K) := Lib.hid (by have : 0 < 2 ^ d := Nat.pow_pos (by decide); omega)
      have HKM : Hid (K2 = 2 * K + b) := Lib.hid hK2
      have hP2 : P < 2251799813685248 := by omega
      have hPw : IntKind.i64.wrap ((P : Int) + 1) = ((P + 1 : Nat) : Int) := by rw [IntWalk.i64_in _ (by omega)]; omega
      cases hf : fnd l n (d + 1) (rv (bitH s) at_ (d + 1)) n with
      | some k =>
        have HE : Hid (r = (k, P + 1, 0)) := Lib.hid (by rw [← HV.out, nextV_found (by omega) hf, hP])
        rw [hf] at hl
        have hg1 : (some k).isSome = true := rfl
        have hg2 : (some k).getD 0 = k := rfl
        rw [hg1, hg2] at hl
        clear HV hrv hp2 hQ hR hx hbx hb hM hrv2 hP hKd hK2 hK2r hgf hf hq15 hT hd hKl hg1 hg2
        go_wp2_with fail
        rw [Exit.noGoto_ret]
        go_ret3
        rw [HE.out]
        exact ⟨rfl, Below.refl _ _⟩
      | none =>
        rw [hf] at hl
        have hg1 : (none : Option Nat).isSome = false := rfl
        have hg2 : (none : Option Nat).getD 0 = 0 := rfl
        rw [hg1, hg2] at hl
        have HN : Hid (nextV l n (bitH s) (8 * s.size) at_ (d + 1) q = r) := Lib.hid (by rw [← HV.out, nextV_not (by omega) hf])
        by_cases hd14 : d = 14
        · have HE : Hid (r = (0, 0, 2)) := Lib.hid (by rw [← HN.out, show q = 0 by omega]; rfl)
          have hge : (K2 : Int) ≥ 32768 := by rw [hK2r, hd14]; omega
          clear HV HN hrv hp2 hQ hR hx hbx hb hM hrv2 hP hKd hK2 hK2r hgf hf hq15 hT hd hKl hg1 hg2 hd14
          go_wp2_with fail
          rw [Exit.noGoto_ret]
          go_ret3
          rw [HE.out]
          exact ⟨rfl, Below.refl _ _⟩
        · have hge : ¬ (K2 : Int) ≥ 32768 := by
            have : 2 ^ (d + 1) ≤ 2 ^ 14 := Nat.pow_le_pow_right (by decide) (by omega)
            omega
          have HD : Hid (d + 1 ≤ 14) := Lib.hid (by omega)
          clear HV hrv hp2 hQ hR hx hbx hb hM hrv2 hP hKd hK2 hK2r hgf hf hq15 hT hd hKl hg1 hg2 hd14
          go_wp2_with fail
          go_roundw
          case rel =>
            have e1 := HP.out
            have e2 := HT.out
            have e3 := HQ15.out
            exact ⟨d + 1, HD.out, by trivial, by trivial, by trivial, by go_num, by omega, by rw [HK2.out], Lib.hid (by rw [show 15 - (d + 1) = q by omega]; exact HN.out), by trivial⟩
          case measure => have e1 := HKM.out; have e2 := HKl.out; have e3 := HK1.out; simp [intOf]; omega
end Go.Proofs.Ytmmkmbinmmfblaa
