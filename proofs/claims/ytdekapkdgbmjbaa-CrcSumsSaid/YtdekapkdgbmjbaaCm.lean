/- Layer 8: a product of polynomials, bit by bit; with a power of x it is a move. -/
import Derived.Test.YtdekapkdgbmjbaaCa
namespace Go.Proofs.Ytdekapkdgbmjbaa
open Go.RowKit
/-- 1 as a polynomial. -/
def oneC : BitVec 32 := litw 32 2147483648
/-- The bit of x^i. -/
def topB (a : BitVec 32) (i : Nat) : Nat := a.toNat / 2 ^ (31 - i) % 2
/-- The product, of n bits of a. -/
def pT (a b : BitVec 32) : Nat → BitVec 32
  | 0 => 0#32
  | i + 1 => xorw (pT a b i) (if topB a i = 1 then cN i b else 0#32)
theorem pT_pow (a : BitVec 32) (k n : Nat) : pT a (cN k oneC) n = cN k (pT a oneC n) := by
  induction n with
  | zero => exact (cN_zero k).symm
  | succ n ih =>
    show xorw _ _ = cN k (xorw _ _)
    rw [ih, cN_xor]
    congr 1
    by_cases h : topB a n = 1
    · rw [if_pos h, if_pos h, ← cN_add, ← cN_add, Nat.add_comm]
    · rw [if_neg h, if_neg h, cN_zero]
theorem cN_one : ∀ i, i < 32 → cN i oneC = BitVec.twoPow 32 (31 - i) := by decide +kernel
theorem pT_bits (a : BitVec 32) (n : Nat) (hn : n ≤ 32) (j : Nat) : (pT a oneC n).getLsbD j = (decide (32 - n ≤ j) && a.getLsbD j) := by
  induction n with
  | zero =>
    show (0#32).getLsbD j = _
    rw [BitVec.getLsbD_zero]
    by_cases h : 32 ≤ j
    · rw [BitVec.getLsbD_of_ge _ _ h]; simp
    · simp; omega
  | succ n ih =>
    show (xorw _ _).getLsbD j = _
    unfold xorw
    rw [BitVec.getLsbD_xor, ih (by omega), cN_one n (by omega)]
    have hb : topB a n = 1 ↔ a.getLsbD (31 - n) = true := by
      unfold topB BitVec.getLsbD
      rw [Nat.testBit_eq_decide_div_mod_eq]
      simp
    by_cases e : j = 31 - n
    · subst e
      have h1 : decide (32 - n ≤ 31 - n) = false := by simp; omega
      have h2 : decide (32 - (n + 1) ≤ 31 - n) = true := by simp
      rw [h1, h2]
      by_cases h : topB a n = 1
      · rw [if_pos h, BitVec.getLsbD_twoPow, hb.1 h]; simp; omega
      · rw [if_neg h, BitVec.getLsbD_zero]
        have : a.getLsbD (31 - n) = false := by
          by_cases h3 : a.getLsbD (31 - n) = true
          · exact absurd (hb.2 h3) h
          · simpa using h3
        rw [this]; rfl
    · have h0 : (if topB a n = 1 then BitVec.twoPow 32 (31 - n) else 0#32).getLsbD j = false := by
        by_cases h : topB a n = 1
        · rw [if_pos h, BitVec.getLsbD_twoPow]; simp; omega
        · rw [if_neg h, BitVec.getLsbD_zero]
      rw [h0, Bool.xor_false]
      by_cases h : 32 - n ≤ j
      · rw [decide_eq_true h, decide_eq_true (by omega)]
      · by_cases h5 : 32 - (n + 1) ≤ j
        · exfalso; omega
        · rw [decide_eq_false h, decide_eq_false h5]
theorem pT_one (a : BitVec 32) : pT a oneC 32 = a := by
  apply BitVec.eq_of_getLsbD_eq
  intro j hj
  rw [pT_bits a 32 (by omega)]
  simp
/-- A product with a power of x. -/
theorem mul_pow (a : BitVec 32) (k : Nat) : pT a (cN k oneC) 32 = cN k a := by rw [pT_pow, pT_one]
end Go.Proofs.Ytdekapkdgbmjbaa
