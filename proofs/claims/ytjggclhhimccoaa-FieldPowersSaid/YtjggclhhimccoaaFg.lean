/- The document's answer to chapter 3: Add. -/
import Derived.Test.YtjggclhhimccoaaFf
namespace Go.Proofs.Ytjggclhhimccoaa
open Go.RowKit
/-- What the sum of the first k digits carries. -/
def cy (x y k : Nat) : BitVec 64 := BitVec.ofNat 64 ((x % 2 ^ (32 * k) + y % 2 ^ (32 * k)) / 2 ^ (32 * k))
def sx (x y k : Nat) : BitVec 64 := addw (addw (castw 64 (N8 x k)) (castw 64 (N8 y k))) (cy x y k)
theorem cy_le (q a b : Nat) (hq : 0 < q) : (a % q + b % q) / q ≤ 1 := by
  have h1 := Nat.mod_lt a hq
  have h2 := Nat.mod_lt b hq
  have : (a % q + b % q) / q < 2 := Nat.div_lt_of_lt_mul (by omega)
  omega
theorem sx_nat (x y k : Nat) : (sx x y k).toNat = x / 2 ^ (32 * k) % 4294967296 + y / 2 ^ (32 * k) % 4294967296 + (x % 2 ^ (32 * k) + y % 2 ^ (32 * k)) / 2 ^ (32 * k) := by
  have h0 := cy_le (2 ^ (32 * k)) x y (Nat.pow_pos (by decide))
  have h1 : (castw 64 (N8 x k)).toNat = x / 2 ^ (32 * k) % 4294967296 := by
    unfold castw; rw [BitVec.toNat_ofNat, N8_nat]; omega
  have h2 : (castw 64 (N8 y k)).toNat = y / 2 ^ (32 * k) % 4294967296 := by
    unfold castw; rw [BitVec.toNat_ofNat, N8_nat]; omega
  have h3 : (cy x y k).toNat = (x % 2 ^ (32 * k) + y % 2 ^ (32 * k)) / 2 ^ (32 * k) := by
    unfold cy; rw [BitVec.toNat_ofNat]; exact Nat.mod_eq_of_lt (Nat.lt_of_le_of_lt h0 (by decide))
  unfold sx addw
  rw [BitVec.toNat_add, BitVec.toNat_add, h1, h2, h3]
  generalize (x % 2 ^ (32 * k) + y % 2 ^ (32 * k)) / 2 ^ (32 * k) = c at h0 ⊢
  omega
theorem sum_div (x y q : Nat) (hq : 0 < q) : (x + y) / q = x / q + y / q + (x % q + y % q) / q := by
  have e : x + y = (x % q + y % q) + (x / q + y / q) * q := by
    have h1 := Nat.mod_add_div x q
    have h2 := Nat.mod_add_div y q
    rw [Nat.add_mul, Nat.mul_comm (x / q), Nat.mul_comm (y / q)]; omega
  rw [e, Nat.add_mul_div_right _ _ hq]
  have e1 : ((x % q + y % q) + (x / q + y / q) * q) = x + y := e.symm
  omega
theorem sx_digit (x y k : Nat) : castw 32 (sx x y k) = N8 (x + y) k := by
  apply BitVec.eq_of_toNat_eq
  unfold castw
  rw [BitVec.toNat_ofNat, sx_nat, N8_nat, sum_div x y _ (Nat.pow_pos (by decide))]
  generalize (x % 2 ^ (32 * k) + y % 2 ^ (32 * k)) / 2 ^ (32 * k) = c
  omega
theorem mod_split (a k : Nat) : a % 2 ^ (32 * (k + 1)) = a % 2 ^ (32 * k) + 2 ^ (32 * k) * (a / 2 ^ (32 * k) % 4294967296) := by
  rw [Nat.mul_succ, Nat.pow_add, Nat.mod_mul]
theorem sx_carry (x y k : Nat) : shrw (sx x y k) 32 = cy x y (k + 1) := by
  apply BitVec.eq_of_toNat_eq
  have h0 := cy_le (2 ^ (32 * (k + 1))) x y (Nat.pow_pos (by decide))
  have hq : 0 < 2 ^ (32 * k) := Nat.pow_pos (by decide)
  have h3 : (cy x y (k + 1)).toNat = (x % 2 ^ (32 * (k + 1)) + y % 2 ^ (32 * (k + 1))) / 2 ^ (32 * (k + 1)) := by
    unfold cy; rw [BitVec.toNat_ofNat]; exact Nat.mod_eq_of_lt (Nat.lt_of_le_of_lt h0 (by decide))
  rw [h3, div_split, mod_split, mod_split]
  unfold shrw
  rw [BitVec.toNat_ushiftRight, Nat.shiftRight_eq_div_pow, sx_nat]
  generalize 2 ^ (32 * k) = q at hq ⊢
  have e : x % q + q * (x / q % 4294967296) + (y % q + q * (y / q % 4294967296)) = (x % q + y % q) + (x / q % 4294967296 + y / q % 4294967296) * q := by
    rw [Nat.add_mul, Nat.mul_comm q, Nat.mul_comm q]; omega
  rw [e, Nat.add_mul_div_right _ _ hq]
  generalize (x % q + y % q) / q = c
  rw [show c + (x / q % 4294967296 + y / q % 4294967296) = x / q % 4294967296 + y / q % 4294967296 + c by omega]
theorem cy_zero (x y : Nat) : Value.int .u64 0 = .int .u64 (iw (cy x y 0)) := by
  have : cy x y 0 = litw 64 0 := by unfold cy; simp [Nat.mod_one]; rfl
  rw [this, iw_zero]
end Go.Proofs.Ytjggclhhimccoaa
