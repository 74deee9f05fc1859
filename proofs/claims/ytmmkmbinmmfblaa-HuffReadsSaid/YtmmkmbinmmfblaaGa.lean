/- Words of 64 bits: sums, rests, products with one word. -/
import Derived.Test.YtmmkmbinmmfblaaFa
namespace Go.Proofs.Ytmmkmbinmmfblaa
open Go.RowKit
def W64 : Nat := 18446744073709551616
theorem W64_pow (k : Nat) : (2 : Nat) ^ (64 * (k + 1)) = 2 ^ (64 * k) * W64 := by
  rw [Nat.mul_succ, Nat.pow_add]; rfl
/-- What the sum of the first k words carries. -/
def cn (x y k : Nat) : Nat := (x % 2 ^ (64 * k) + y % 2 ^ (64 * k)) / 2 ^ (64 * k)
def c64 (x y k : Nat) : BitVec 64 := BitVec.ofNat 64 (cn x y k)
theorem cn_le (x y k : Nat) : cn x y k ≤ 1 := by
  have hq : 0 < 2 ^ (64 * k) := Nat.pow_pos (by decide)
  have h1 := Nat.mod_lt x hq
  have h2 := Nat.mod_lt y hq
  have : cn x y k < 2 := Nat.div_lt_of_lt_mul (by omega)
  omega
theorem c64_nat (x y k : Nat) : (c64 x y k).toNat = cn x y k := by
  have := cn_le x y k
  unfold c64; rw [BitVec.toNat_ofNat]; exact Nat.mod_eq_of_lt (by omega)
theorem cn_zero (x y : Nat) : cn x y 0 = 0 := by unfold cn; simp [Nat.mod_one]
theorem cn_sum (x y k : Nat) : (x + y) / 2 ^ (64 * k) = x / 2 ^ (64 * k) + y / 2 ^ (64 * k) + cn x y k := by
  have hq : 0 < 2 ^ (64 * k) := Nat.pow_pos (by decide)
  unfold cn
  generalize 2 ^ (64 * k) = q at hq ⊢
  have e : x + y = (x % q + y % q) + (x / q + y / q) * q := by
    have h1 := Nat.mod_add_div x q
    have h2 := Nat.mod_add_div y q
    rw [Nat.add_mul, Nat.mul_comm (x / q), Nat.mul_comm (y / q)]; omega
  have e1 : (x + y) / q = ((x % q + y % q) + (x / q + y / q) * q) / q := by rw [← e]
  rw [e1, Nat.add_mul_div_right _ _ hq]
  omega
theorem F4_lt (x k : Nat) : x / 2 ^ (64 * k) % W64 < W64 := Nat.mod_lt _ (by decide)
theorem F4_nat' (a i : Nat) : (F4 a i).toNat = a / 2 ^ (64 * i) % W64 := F4_nat a i
theorem cn_next (x y k : Nat) : (x / 2 ^ (64 * k) % W64 + y / 2 ^ (64 * k) % W64 + cn x y k) / W64 = cn x y (k + 1) := by
  have h0 := cn_sum x y k
  have h1 := cn_sum x y (k + 1)
  rw [W64_pow, ← Nat.div_div_eq_div_mul, ← Nat.div_div_eq_div_mul, ← Nat.div_div_eq_div_mul] at h1
  rw [h0] at h1
  generalize x / 2 ^ (64 * k) = a at *
  generalize y / 2 ^ (64 * k) = b at *
  generalize cn x y k = c at *
  generalize cn x y (k + 1) = d at *
  unfold W64 at *
  omega
theorem cn_digit (x y k : Nat) : (x / 2 ^ (64 * k) % W64 + y / 2 ^ (64 * k) % W64 + cn x y k) % W64 = (x + y) / 2 ^ (64 * k) % W64 := by
  have h0 := cn_sum x y k
  rw [h0]
  generalize x / 2 ^ (64 * k) = a at *
  generalize y / 2 ^ (64 * k) = b at *
  generalize cn x y k = c at *
  unfold W64 at *
  omega
/-- What is carried behind word k of X times b, and W. -/
def cr (X b W k : Nat) : Nat := (X * (b % 2 ^ (64 * k)) + W % 2 ^ (64 * k)) / 2 ^ (64 * k)
theorem cr_sum (X b W k : Nat) : (X * b + W) / 2 ^ (64 * k) = X * (b / 2 ^ (64 * k)) + W / 2 ^ (64 * k) + cr X b W k := by
  have hq : 0 < 2 ^ (64 * k) := Nat.pow_pos (by decide)
  unfold cr
  generalize 2 ^ (64 * k) = q at hq ⊢
  have e : X * b + W = (X * (b % q) + W % q) + (X * (b / q) + W / q) * q := by
    have h1 := Nat.mod_add_div b q
    have h2 := Nat.mod_add_div W q
    have e2 : X * b = X * (b % q) + X * (b / q) * q := by
      have : X * b = X * (b % q + q * (b / q)) := by rw [h1]
      rw [this, Nat.mul_add, ← Nat.mul_assoc, Nat.mul_right_comm]
    rw [Nat.add_mul, Nat.mul_comm (W / q)]
    omega
  have e1 : (X * b + W) / q = ((X * (b % q) + W % q) + (X * (b / q) + W / q) * q) / q := by rw [← e]
  rw [e1, Nat.add_mul_div_right _ _ hq]
  omega
theorem cr_lt (X b W k : Nat) (hX : X < W64) : cr X b W k < W64 := by
  have hq : 0 < 2 ^ (64 * k) := Nat.pow_pos (by decide)
  unfold cr
  generalize 2 ^ (64 * k) = q at hq ⊢
  refine Nat.div_lt_of_lt_mul ?_
  have h1 := Nat.mod_lt b hq
  have h2 := Nat.mod_lt W hq
  have h3 : X * (b % q) ≤ (W64 - 1) * (q - 1) := Nat.mul_le_mul (by omega) (by omega)
  have h4 : (W64 - 1) * (q - 1) + (W64 - 1) = (W64 - 1) * q := by
    obtain ⟨c, rfl⟩ : ∃ c, q = c + 1 := ⟨q - 1, by omega⟩
    rw [Nat.add_sub_cancel, Nat.mul_succ]
  have h5 : q * W64 = (W64 - 1) * q + q := by
    have : W64 = (W64 - 1) + 1 := by decide
    rw [this, Nat.mul_succ, Nat.mul_comm q]; rfl
  have h6 : 0 < W64 := by decide
  omega
theorem cr_next (X b W k : Nat) : (X * (b / 2 ^ (64 * k) % W64) + W / 2 ^ (64 * k) % W64 + cr X b W k) / W64 = cr X b W (k + 1) := by
  have h0 := cr_sum X b W k
  have h1 := cr_sum X b W (k + 1)
  rw [W64_pow, ← Nat.div_div_eq_div_mul, ← Nat.div_div_eq_div_mul, ← Nat.div_div_eq_div_mul] at h1
  rw [h0] at h1
  generalize b / 2 ^ (64 * k) = B at *
  have hB : X * B = X * (B % W64) + X * (B / W64) * W64 := by
    have : B = B % W64 + W64 * (B / W64) := (Nat.mod_add_div B W64).symm
    have e : X * B = X * (B % W64 + W64 * (B / W64)) := by rw [← this]
    rw [e, Nat.mul_add, Nat.mul_assoc, Nat.mul_comm W64]
  rw [hB] at h1
  generalize X * (B % W64) = a at *
  generalize X * (B / W64) = a2 at *
  generalize W / 2 ^ (64 * k) = V at *
  generalize cr X b W k = c at *
  generalize cr X b W (k + 1) = d at *
  unfold W64 at *
  omega
theorem cr_digit (X b W k : Nat) : (X * (b / 2 ^ (64 * k) % W64) + W / 2 ^ (64 * k) % W64 + cr X b W k) % W64 = (X * b + W) / 2 ^ (64 * k) % W64 := by
  have h0 := cr_sum X b W k
  rw [h0]
  generalize b / 2 ^ (64 * k) = B at *
  have hB : X * B = X * (B % W64) + X * (B / W64) * W64 := by
    have : B = B % W64 + W64 * (B / W64) := (Nat.mod_add_div B W64).symm
    have e : X * B = X * (B % W64 + W64 * (B / W64)) := by rw [← this]
    rw [e, Nat.mul_add, Nat.mul_assoc, Nat.mul_comm W64]
  rw [hB]
  generalize X * (B % W64) = a at *
  generalize X * (B / W64) = a2 at *
  generalize W / 2 ^ (64 * k) = V at *
  generalize cr X b W k = c at *
  unfold W64 at *
  omega
theorem cr_zero (X b W : Nat) : cr X b W 0 = 0 := by unfold cr; simp [Nat.mod_one]
theorem cr_four (X b W : Nat) (hb : b < M256) (hW : W < M256) : cr X b W 4 = (X * b + W) / M256 := by
  have e : (2 : Nat) ^ (64 * 4) = M256 := by decide
  unfold cr
  rw [e, Nat.mod_eq_of_lt hb, Nat.mod_eq_of_lt hW]
def cr64 (X b W k : Nat) : BitVec 64 := BitVec.ofNat 64 (cr X b W k)
theorem cr64_nat (X b W k : Nat) (hX : X < W64) : (cr64 X b W k).toNat = cr X b W k := by
  unfold cr64; rw [BitVec.toNat_ofNat]; exact Nat.mod_eq_of_lt (cr_lt X b W k hX)
end Go.Proofs.Ytmmkmbinmmfblaa
