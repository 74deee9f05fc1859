/- The document's answer to chapter 3: Mul, the words. -/
import Derived.Test.YtjggclhhimccoaaFm
namespace Go.Proofs.Ytjggclhhimccoaa
open Go.RowKit
def mw (Q X y i k : Nat) : BitVec 64 := BitVec.ofNat 64 (mc Q X y i k)
/-- What is reckoned at place i, k: the word so far, the product of the digits, the carry. -/
def ms (Q x y i k : Nat) : BitVec 64 := addw (addw (D64 Q (i + k)) (mulw (castw 64 (N8 x i)) (castw 64 (N8 y k)))) (mw Q (x / 2 ^ (32 * i) % 4294967296) y i k)
theorem mc_lt (Q X y i k : Nat) (hX : X < 4294967296) : mc Q X y i k < 4294967296 := by
  obtain ⟨r, q, p, b, hr, hq, hp, hrpq, hr0, hq0, hp0, hb, h1, h2⟩ := m_sum i k
  unfold mc
  rw [← hr, ← hq, ← hp, ← hb]
  rw [← hb] at hX
  have h3 : Q % r < r := Nat.mod_lt _ hr0
  have h4 : y % q < q := Nat.mod_lt _ hq0
  refine Nat.div_lt_of_lt_mul ?_
  have h5 : X * (y % q) * p ≤ (b - 1) * (q - 1) * p := Nat.mul_le_mul_right p (Nat.mul_le_mul (by omega) (by omega))
  have h6 : (b - 1) * (q - 1) * p ≤ (b - 1) * r := by
    rw [Nat.mul_assoc, hrpq]
    refine Nat.mul_le_mul_left _ ?_
    rw [Nat.mul_comm p q]
    exact Nat.mul_le_mul_right p (by omega)
  have h7 : r * b = r + (b - 1) * r := by
    obtain ⟨c, hc⟩ : ∃ c, b = c + 1 := ⟨b - 1, by omega⟩
    rw [hc, Nat.add_sub_cancel, Nat.mul_succ, Nat.mul_comm r c, Nat.add_comm]
  omega
theorem ms_nat (Q x y i k : Nat) : (ms Q x y i k).toNat = Q / 2 ^ (32 * (i + k)) % 4294967296 + x / 2 ^ (32 * i) % 4294967296 * (y / 2 ^ (32 * k) % 4294967296) + mc Q (x / 2 ^ (32 * i) % 4294967296) y i k := by
  have hX : x / 2 ^ (32 * i) % 4294967296 < 4294967296 := Nat.mod_lt _ (by decide)
  have hY : y / 2 ^ (32 * k) % 4294967296 < 4294967296 := Nat.mod_lt _ (by decide)
  have hQ : Q / 2 ^ (32 * (i + k)) % 4294967296 < 4294967296 := Nat.mod_lt _ (by decide)
  have h0 := mc_lt Q (x / 2 ^ (32 * i) % 4294967296) y i k hX
  have h1 : (castw 64 (N8 x i)).toNat = x / 2 ^ (32 * i) % 4294967296 := by
    unfold castw; rw [BitVec.toNat_ofNat, N8_nat]; omega
  have h2 : (castw 64 (N8 y k)).toNat = y / 2 ^ (32 * k) % 4294967296 := by
    unfold castw; rw [BitVec.toNat_ofNat, N8_nat]; omega
  have h3 : (D64 Q (i + k)).toNat = Q / 2 ^ (32 * (i + k)) % 4294967296 := by
    unfold D64; rw [BitVec.toNat_ofNat]; omega
  have h4 : (mw Q (x / 2 ^ (32 * i) % 4294967296) y i k).toNat = mc Q (x / 2 ^ (32 * i) % 4294967296) y i k := by
    unfold mw; rw [BitVec.toNat_ofNat]; exact Nat.mod_eq_of_lt (Nat.lt_trans h0 (by decide))
  unfold ms addw mulw
  rw [BitVec.toNat_add, BitVec.toNat_add, BitVec.toNat_mul, h1, h2, h3, h4]
  generalize mc Q (x / 2 ^ (32 * i) % 4294967296) y i k = c at h0 ⊢
  generalize x / 2 ^ (32 * i) % 4294967296 = X at hX ⊢
  generalize y / 2 ^ (32 * k) % 4294967296 = Y at hY ⊢
  generalize Q / 2 ^ (32 * (i + k)) % 4294967296 = d at hQ ⊢
  have hp : X * Y ≤ 4294967295 * 4294967295 := Nat.mul_le_mul (by omega) (by omega)
  generalize X * Y = z at hp ⊢
  omega
theorem ms_digit (Q x y i k : Nat) : andw (ms Q x y i k) (litw 64 4294967295) = D64 (Q + x / 2 ^ (32 * i) % 4294967296 * y * 2 ^ (32 * i)) (i + k) := by
  apply BitVec.eq_of_toNat_eq
  have h4 : (litw 64 4294967295).toNat = 2 ^ 32 - 1 := by unfold litw; rfl
  unfold andw D64
  rw [BitVec.toNat_and, h4, Nat.and_two_pow_sub_one_eq_mod, ms_nat, BitVec.toNat_ofNat, show (2 : Nat) ^ 32 = 4294967296 by rfl, mc_digit]
  omega
theorem ms_carry (Q x y i k : Nat) : shrw (ms Q x y i k) 32 = mw Q (x / 2 ^ (32 * i) % 4294967296) y i (k + 1) := by
  apply BitVec.eq_of_toNat_eq
  have hX : x / 2 ^ (32 * i) % 4294967296 < 4294967296 := Nat.mod_lt _ (by decide)
  have h0 := mc_lt Q (x / 2 ^ (32 * i) % 4294967296) y i (k + 1) hX
  unfold shrw mw
  rw [BitVec.toNat_ushiftRight, Nat.shiftRight_eq_div_pow, ms_nat, BitVec.toNat_ofNat, show (2 : Nat) ^ 32 = 4294967296 by rfl, mc_next]
  exact (Nat.mod_eq_of_lt (Nat.lt_trans h0 (by decide))).symm
theorem mw_zero (Q X y i : Nat) : Value.int .u64 0 = .int .u64 (iw (mw Q X y i 0)) := by
  have h : mc Q X y i 0 = 0 := by
    unfold mc
    rw [Nat.mul_zero, Nat.pow_zero, Nat.mod_one, Nat.mul_zero, Nat.zero_mul, Nat.add_zero, Nat.add_zero]
    exact Nat.div_eq_of_lt (Nat.mod_lt _ (Nat.pow_pos (by decide)))
  have : mw Q X y i 0 = litw 64 0 := by unfold mw; rw [h]; rfl
  rw [this, iw_zero]
end Go.Proofs.Ytjggclhhimccoaa
