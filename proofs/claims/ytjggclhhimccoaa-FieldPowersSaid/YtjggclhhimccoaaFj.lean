/- The document's answer to chapter 3: fold, the arithmetic: 2^256 is 38 modulo p. -/
import Derived.Test.YtjggclhhimccoaaFg
namespace Go.Proofs.Ytjggclhhimccoaa
open Go.RowKit
/-- A number of 512 bits by its digits, as words. -/
def D64 (c i : Nat) : BitVec 64 := BitVec.ofNat 64 (c / 2 ^ (32 * i) % 4294967296)
def foldV (c : Nat) : Nat := c % M256 + 38 * (c / M256)
theorem fold_mod (c : Nat) : foldV c % pP = c % pP := by
  have h := Nat.mod_add_div c M256
  have e : c = foldV c + 2 * pP * (c / M256) := by
    unfold foldV
    have : M256 = 38 + 2 * pP := by unfold M256 pP; rfl
    generalize c / M256 = q at h ⊢
    generalize c % M256 = r at h ⊢
    rw [this] at h
    rw [← h, Nat.add_mul]; omega
  have e2 : c % pP = (foldV c + pP * (2 * (c / M256))) % pP := by
    rw [show pP * (2 * (c / M256)) = 2 * pP * (c / M256) by rw [Nat.mul_left_comm, Nat.mul_assoc]]
    exact congrArg (· % pP) e
  rw [e2, Nat.add_mul_mod_self_left]
/-- The carry behind k digits of A + 38 B. -/
def fc (A B k : Nat) : Nat := (A % 2 ^ (32 * k) + 38 * (B % 2 ^ (32 * k))) / 2 ^ (32 * k)
theorem fc_le (A B k : Nat) : fc A B k ≤ 38 := by
  unfold fc
  have hq : 0 < 2 ^ (32 * k) := Nat.pow_pos (by decide)
  generalize 2 ^ (32 * k) = q at hq ⊢
  have h1 := Nat.mod_lt A hq
  have h2 := Nat.mod_lt B hq
  have : (A % q + 38 * (B % q)) / q < 39 := Nat.div_lt_of_lt_mul (by omega)
  omega
theorem fsum_div (A B q : Nat) (hq : 0 < q) : (A + 38 * B) / q = A / q + 38 * (B / q) + (A % q + 38 * (B % q)) / q := by
  have h1 := Nat.mod_add_div A q
  have h2 := Nat.mod_add_div B q
  have e : A + 38 * B = (A % q + 38 * (B % q)) + (A / q + 38 * (B / q)) * q := by
    rw [Nat.add_mul, Nat.mul_assoc, Nat.mul_comm (A / q), Nat.mul_comm (B / q)]; omega
  have e3 := congrArg (· / q) e
  simp only [Nat.add_mul_div_right _ _ hq] at e3
  omega
theorem f_digit (A B k : Nat) : (A / 2 ^ (32 * k) % 4294967296 + 38 * (B / 2 ^ (32 * k) % 4294967296) + fc A B k) % 4294967296 = (A + 38 * B) / 2 ^ (32 * k) % 4294967296 := by
  rw [fsum_div A B _ (Nat.pow_pos (by decide))]
  unfold fc
  generalize (A % 2 ^ (32 * k) + 38 * (B % 2 ^ (32 * k))) / 2 ^ (32 * k) = c
  omega
theorem f_carry (A B k : Nat) : (A / 2 ^ (32 * k) % 4294967296 + 38 * (B / 2 ^ (32 * k) % 4294967296) + fc A B k) / 4294967296 = fc A B (k + 1) := by
  have hq : 0 < 2 ^ (32 * k) := Nat.pow_pos (by decide)
  unfold fc
  rw [mod_split, mod_split, Nat.mul_succ 32 k, Nat.pow_add, ← Nat.div_div_eq_div_mul]
  generalize 2 ^ (32 * k) = q at hq ⊢
  have e : A % q + q * (A / q % 4294967296) + 38 * (B % q + q * (B / q % 4294967296)) = (A % q + 38 * (B % q)) + (A / q % 4294967296 + 38 * (B / q % 4294967296)) * q := by
    rw [Nat.add_mul, Nat.mul_assoc, Nat.mul_comm (A / q % 4294967296), Nat.mul_comm (B / q % 4294967296)]; omega
  rw [e, Nat.add_mul_div_right _ _ hq]
  show _ = ((A % q + 38 * (B % q)) / q + _) / 4294967296
  congr 1
  omega
end Go.Proofs.Ytjggclhhimccoaa
