/- Layer 8: the developers' functions: a bit, a byte, the product, the power. -/
import Derived.Test.YtdekapkdgbmjbaaCm
import Derived.Test.YtdekapkdgbmjbaaCd
namespace Go.Proofs.Ytdekapkdgbmjbaa
open Go.RowKit
theorem and_one32 (a : BitVec 32) : bits .and .u32 (iw a) 1 = ((a.toNat % 2 : Nat) : Int) := by
  rw [and32_lit]
  unfold iw andw litw
  rw [BitVec.toNat_and, show (BitVec.ofNat 32 1).toNat = 1 from rfl, Nat.and_one_is_mod]
theorem all32 (a : BitVec 32) : bits .and .u32 (iw a) 4294967295 = iw a := by
  rw [and32_lit]
  unfold iw andw litw
  rw [show BitVec.ofNat 32 4294967295 = BitVec.allOnes 32 from rfl, BitVec.and_allOnes]
theorem none32 (a : BitVec 32) : bits .and .u32 (iw a) 0 = iw (0#32) := by
  have h := and32_lit a 0
  refine Eq.trans h ?_
  unfold iw andw litw
  rw [show BitVec.ofNat 32 0 = 0#32 from rfl, BitVec.and_zero]
theorem poly_all : bits .and .u32 3988292384 4294967295 = iw crcP := by
  rw [← show iw crcP = 3988292384 by unfold iw crcP litw; rfl]
  exact all32 crcP
theorem poly_none : bits .and .u32 3988292384 0 = iw (0#32) := by
  rw [← show iw crcP = 3988292384 by unfold iw crcP litw; rfl]
  exact none32 crcP
theorem overBit_any (a : BitVec 32) (w : World) :
    Calls Try.prog 20 #[.int .u32 (iw a)] w fun e w' => e = .returned (.int .u32 (iw (cS a))) ∧ w' = w := by
  have hp := poly_all
  have hn := poly_none
  by_cases ho : a.toNat % 2 = 1
  · have h1 : bits .and .u32 (iw a) 1 = 1 := by rw [and_one32, ho]; rfl
    have hcs : cS a = xorw (shrw a 1) crcP := if_pos ho
    go_enter Try.func20, Try.ntmps20
    go_wp2_with fail
    go_ret
    exact ⟨by rw [hcs]; rfl, rfl⟩
  · have h1 : bits .and .u32 (iw a) 1 = 0 := by rw [and_one32, show a.toNat % 2 = 0 by omega]; rfl
    have hcs : cS a = xorw (shrw a 1) (0#32) := by rw [xorw_zero]; exact if_neg ho
    go_enter Try.func20, Try.ntmps20
    go_wp2_with fail
    go_ret
    exact ⟨by rw [hcs]; rfl, rfl⟩
theorem overByte_any (a : BitVec 32) (w : World) :
    Calls Try.prog 18 #[.int .u32 (iw a)] w fun e w' => e = .returned (.int .u32 (iw (cN 8 a))) ∧ w' = w := by
  go_enter Try.func18, Try.ntmps18
  go_wp2_with fail
  go_loopw [0, 3] (fun c j wr => ∃ m : Nat, m ≤ 8 ∧ j = .int .i64 m ∧ c = .int .u32 (iw (cN m a)) ∧ w = wr) (fun _ j _ => 8 - (intOf j).toNat)
  case atStart => exact ⟨0, by omega, rfl, rfl, rfl⟩
  case round =>
    obtain ⟨m, hm, rfl, rfl, rfl⟩ := hrel
    by_cases hm8 : m < 8
    · have hm8i : (m : Int) < 8 := by omega
      have HS : Hid (cN (m + 1) a = cS (cN m a)) := Lib.hid rfl
      generalize cN m a = z at *
      have C := overBit_any z w
      go_wp2_with fail
      refine C.mono ?_
      rintro e w1 ⟨rfl, rfl⟩
      go_wp2_with fail
      go_roundw
      case rel => exact ⟨m + 1, by omega, by go_num, by rw [HS.out], by trivial⟩
      case measure => simp [intOf]; omega
    · obtain rfl : m = 8 := by omega
      go_wp2_with fail
      go_ret
      exact ⟨rfl, rfl⟩
theorem top_bit (a : BitVec 32) (i : Nat) : bits .and .u32 (iw (shrw a (31 - i))) 1 = ((topB a i : Nat) : Int) := by
  rw [and_one32]
  unfold shrw topB
  rw [BitVec.toNat_ushiftRight, Nat.shiftRight_eq_div_pow]
set_option maxRecDepth 100000 in
theorem product_any (a b : BitVec 32) (w : World) :
    Calls Try.prog 16 #[.int .u32 (iw a), .int .u32 (iw b)] w fun e w' => e = .returned (.int .u32 (iw (pT a b 32))) ∧ w' = w := by
  go_enter Try.func16, Try.ntmps16
  go_wp2_with fail
  go_loopw [1, 5, 7] (fun b' c j wr => ∃ m : Nat, m ≤ 32 ∧ j = .int .i64 m ∧ b' = .int .u32 (iw (cN m b)) ∧ c = .int .u32 (iw (pT a b m)) ∧ w = wr) (fun _ _ j _ => 32 - (intOf j).toNat)
  case atStart => exact ⟨0, by omega, rfl, rfl, by rw [show pT a b 0 = 0#32 from rfl, show iw (0#32) = 0 by unfold iw; rfl], rfl⟩
  case round =>
    obtain ⟨m, hm, rfl, rfl, rfl, rfl⟩ := hrel
    by_cases hm8 : m < 32
    · have hm8i : (m : Int) < 32 := by omega
      have HS : Hid (cN (m + 1) b = cS (cN m b)) := Lib.hid rfl
      have HP : Hid (pT a b (m + 1) = xorw (pT a b m) (if topB a m = 1 then cN m b else 0#32)) := Lib.hid rfl
      generalize cN m b = z at *
      generalize pT a b m = p at *
      have C := overBit_any z w
      by_cases ho : topB a m = 1
      · have h1 : bits .and .u32 (iw (shrw a (31 - m))) 1 = 1 := by rw [top_bit, ho]; rfl
        have h2 := all32 z
        rw [if_pos ho] at HP
        go_wp2_with fail
        refine C.mono ?_
        rintro e w1 ⟨rfl, rfl⟩
        go_wp2_with fail
        go_roundw
        case rel => exact ⟨m + 1, by omega, by go_num, by rw [HS.out], by rw [HP.out], by trivial⟩
        case measure => simp [intOf]; omega
      · have h1 : bits .and .u32 (iw (shrw a (31 - m))) 1 = 0 := by rw [top_bit, show topB a m = 0 by unfold topB at ho ⊢; omega]; rfl
        have h2 := none32 z
        rw [if_neg ho] at HP
        go_wp2_with fail
        refine C.mono ?_
        rintro e w1 ⟨rfl, rfl⟩
        go_wp2_with fail
        go_roundw
        case rel => exact ⟨m + 1, by omega, by go_num, by rw [HS.out], by rw [HP.out], by trivial⟩
        case measure => simp [intOf]; omega
    · obtain rfl : m = 32 := by omega
      go_wp2_with fail
      go_ret
      exact ⟨rfl, rfl⟩
theorem and_oneI (m : Nat) : bits .and .i64 (m : Int) 1 = ((m % 2 : Nat) : Int) := by
  show IntKind.i64.wrap ((BitVec.ofInt 64 (m : Int) &&& 1#64).toNat : Int) = _
  rw [show BitVec.ofInt 64 (m : Int) = BitVec.ofNat 64 m from BitVec.ofInt_natCast .., BitVec.toNat_and, BitVec.toNat_ofNat, show (1#64).toNat = 1 from rfl, Nat.and_one_is_mod, Nat.mod_mod_of_dvd _ (by decide : 2 ∣ 2 ^ 64)]
  have h : m % 2 < 2 := Nat.mod_lt _ (by decide)
  generalize m % 2 = r at h
  match r, h with
  | 0, _ => rfl
  | 1, _ => rfl
theorem halfE {m q r x : Nat} (h : m % 2 = 1) (e : r + m * q = x) : q + r + m / 2 * (q + q) = x := by
  have h2 : m = 2 * (m / 2) + 1 := by omega
  generalize m / 2 = d at h2
  subst h2
  rw [← e, Nat.add_mul, Nat.one_mul, Nat.mul_comm 2 d, Nat.mul_assoc, Nat.two_mul]
  generalize d * (q + q) = z
  omega
theorem halfZ {m q r x : Nat} (h : ¬ m % 2 = 1) (e : r + m * q = x) : r + m / 2 * (q + q) = x := by
  have h2 : m = 2 * (m / 2) := by omega
  generalize m / 2 = d at h2
  subst h2
  rw [← e, Nat.mul_comm 2 d, Nat.mul_assoc, Nat.two_mul]
set_option maxRecDepth 100000 in
theorem power_any (k n : Nat) (hn : n ≤ 1000000) (w : World) :
    Calls Try.prog 17 #[.int .u32 (iw (cN k oneC)), .int .i64 (n : Int)] w fun e w' => e = .returned (.int .u32 (iw (cN (n * k) oneC))) ∧ w' = w := by
  have h1 : iw oneC = 2147483648 := by unfold iw oneC litw; rfl
  go_enter Try.func17, Try.ntmps17
  go_wp2_with fail
  go_loopw [0, 1, 5] (fun a' n' c wr => ∃ m q r : Nat, m ≤ 1000000 ∧ n' = .int .i64 m ∧ a' = .int .u32 (iw (cN q oneC)) ∧ c = .int .u32 (iw (cN r oneC)) ∧ r + m * q = n * k ∧ w = wr) (fun _ n' _ _ => (intOf n').toNat)
  case atStart => exact ⟨n, k, 0, by omega, rfl, rfl, by rw [show cN 0 oneC = oneC from rfl, h1], by omega, rfl⟩
  case round =>
    obtain ⟨m, q, r, hm, rfl, rfl, rfl, he, rfl⟩ := hrel
    by_cases h0 : 0 < m
    · have h0i : (0 : Int) < (m : Int) := by omega
      have C2 := product_any (cN q oneC) (cN q oneC) w
      rw [mul_pow, ← cN_add] at C2
      by_cases ho : m % 2 = 1
      · have hb : bits .and .i64 (m : Int) 1 = 1 := by rw [and_oneI m, ho]; rfl
        have C1 := product_any (cN r oneC) (cN q oneC) w
        rw [mul_pow, ← cN_add] at C1
        go_wp2_with fail
        refine C1.mono ?_
        rintro e w1 ⟨rfl, rfl⟩
        go_wp2_with fail
        refine C2.mono ?_
        rintro e w1 ⟨rfl, rfl⟩
        go_wp2_with fail
        go_roundw
        case rel => exact ⟨m / 2, q + q, q + r, by omega, by go_num, rfl, rfl, halfE ho he, by trivial⟩
        case measure => simp [intOf]; omega
      · have hb : bits .and .i64 (m : Int) 1 = 0 := by rw [and_oneI m, show m % 2 = 0 by omega]; rfl
        go_wp2_with fail
        refine C2.mono ?_
        rintro e w1 ⟨rfl, rfl⟩
        go_wp2_with fail
        go_roundw
        case rel => exact ⟨m / 2, q + q, r, by omega, by go_num, rfl, rfl, halfZ ho he, by trivial⟩
        case measure => simp [intOf]; omega
    · obtain rfl : m = 0 := by omega
      obtain rfl : r = n * k := by omega
      go_wp2_with fail
      go_ret
      exact ⟨rfl, rfl⟩
end Go.Proofs.Ytdekapkdgbmjbaa
