/- Layer 8: bits in a row that are turned. -/
import Derived.Test.YtdekapkdgbmjbaaCa
namespace Go.Proofs.Ytdekapkdgbmjbaa
open Go.RowKit
/-- The bytes behind i rounds. -/
def bT (F : Nat → BitVec 8) (y f : Nat) : Nat → Nat → BitVec 8
  | 0 => F
  | i + 1 => if y / 2 ^ i % 2 = 1 then fun j => if j = (f + i) / 8 then xorw (bT F y f i j) (shlw (litw 8 1) ((f + i) % 8)) else bT F y f i j else bT F y f i
/-- The bits that were turned. -/
def bW (y : Nat) : Nat → BitVec 32
  | 0 => 0#32
  | i + 1 => if y / 2 ^ i % 2 = 1 then xorw (bW y i) (litw 32 (2 ^ i)) else bW y i
def b32 (x : BitVec 8) : BitVec 32 := litw 32 x.toNat
theorem b32_xor (x y : BitVec 8) : b32 (xorw x y) = xorw (b32 x) (b32 y) := by
  unfold b32 litw xorw
  rw [BitVec.toNat_xor, BitVec.ofNat_xor]
theorem b32_bit : ∀ r, r < 8 → b32 (shlw (litw 8 1) r) = litw 32 (2 ^ r) := by decide +kernel
theorem bW_odd (y : Nat) (hy : y % 2 = 1) (i : Nat) : (bW y (i + 1)).toNat % 2 = 1 := by
  induction i with
  | zero =>
    show (if y / 2 ^ 0 % 2 = 1 then xorw (bW y 0) (litw 32 (2 ^ 0)) else bW y 0).toNat % 2 = 1
    rw [Nat.pow_zero, Nat.div_one, if_pos hy]
    show (xorw 0#32 (litw 32 1)).toNat % 2 = 1
    decide +kernel
  | succ i ih =>
    show (if y / 2 ^ (i + 1) % 2 = 1 then xorw (bW y (i + 1)) (litw 32 (2 ^ (i + 1))) else bW y (i + 1)).toNat % 2 = 1
    by_cases h : y / 2 ^ (i + 1) % 2 = 1
    · rw [if_pos h, odd_xor, ih]
      have h2 : (litw 32 (2 ^ (i + 1))).toNat % 2 = 0 := by
        unfold litw
        rw [BitVec.toNat_ofNat, Nat.mod_mod_of_dvd _ ⟨2 ^ 31, by decide⟩, Nat.pow_succ, Nat.mul_mod_left]
      rw [h2]
    · rw [if_neg h, ih]
theorem bW_ne (y : Nat) (hy : y % 2 = 1) (i : Nat) (hi : 1 ≤ i) : bW y i ≠ 0#32 := by
  obtain ⟨k, rfl⟩ : ∃ k, i = k + 1 := ⟨i - 1, by omega⟩
  intro e
  have := bW_odd y hy k
  rw [e] at this
  exact absurd this (by decide)
/-- A bit alone. -/
theorem cN_alone (n r : Nat) (hr : r < 32) (h : r ≤ n) : cN n (litw 32 (2 ^ r)) = cN (n - r) (litw 32 1) := by
  rw [← cN_bit r hr, ← cN_add]
  congr 1; omega
theorem burst (F : Nat → BitVec 8) (y f n : Nat) (c : BitVec 32) (i : Nat) (hi : i ≤ 32) (hn : f + i ≤ 8 * n) :
    cR (fun j => b32 (bT F y f i j)) c n = xorw (cR (fun j => b32 (F j)) c n) (cN (8 * n - f) (bW y i)) := by
  induction i with
  | zero => show cR (fun j => b32 (F j)) c n = xorw _ (cN _ 0#32); rw [cN_zero, xorw_zero]
  | succ i ih =>
    have ih2 := ih (by omega) (by omega)
    show cR (fun j => b32 ((if y / 2 ^ i % 2 = 1 then fun j => if j = (f + i) / 8 then xorw (bT F y f i j) (shlw (litw 8 1) ((f + i) % 8)) else bT F y f i j else bT F y f i) j)) c n = xorw _ (cN _ (if y / 2 ^ i % 2 = 1 then xorw (bW y i) (litw 32 (2 ^ i)) else bW y i))
    by_cases h : y / 2 ^ i % 2 = 1
    · rw [if_pos h, if_pos h, cN_xor, ← xorw_assoc, ← ih2]
      have e : cR (fun j => b32 (if j = (f + i) / 8 then xorw (bT F y f i j) (shlw (litw 8 1) ((f + i) % 8)) else bT F y f i j)) c n
          = cR (fun j => xorw (b32 (bT F y f i j)) (if j = (f + i) / 8 then litw 32 (2 ^ ((f + i) % 8)) else 0#32)) (xorw c 0#32) n := by
        rw [xorw_zero]
        refine cR_same (fun j _ => ?_) c
        by_cases hj : j = (f + i) / 8
        · rw [if_pos hj, if_pos hj, b32_xor, b32_bit _ (by omega)]
        · rw [if_neg hj, if_neg hj, xorw_zero]
      show cR (fun j => b32 (if j = (f + i) / 8 then xorw (bT F y f i j) (shlw (litw 8 1) ((f + i) % 8)) else bT F y f i j)) c n = _
      rw [e, cR_xor, cR_one _ _ _ (by omega)]
      congr 1
      rw [cN_alone _ _ (by omega) (by omega), cN_alone _ _ (by omega) (by omega)]
      congr 1; omega
    · rw [if_neg h, if_neg h, ← ih2]
/-- The sum of a text with bits turned, the first one for sure, is another one. -/
theorem burst_ne (F : Nat → BitVec 8) (y f n : Nat) (c : BitVec 32) (i : Nat) (hi : i ≤ 32) (hn : f + i ≤ 8 * n) (h1 : 1 ≤ i) (hy : y % 2 = 1) :
    cR (fun j => b32 (bT F y f i j)) c n ≠ cR (fun j => b32 (F j)) c n := by
  rw [burst F y f n c i hi hn]
  intro e
  have e2 := congrArg (xorw (cR (fun j => b32 (F j)) c n)) e
  rw [xorw_back, xorw_self] at e2
  exact cN_ne (bW_ne y hy i h1) _ e2
end Go.Proofs.Ytdekapkdgbmjbaa
