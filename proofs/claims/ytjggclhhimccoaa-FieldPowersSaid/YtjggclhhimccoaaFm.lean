/- The document's answer to chapter 3: Mul, the arithmetic. -/
import Derived.Test.YtjggclhhimccoaaFk
namespace Go.Proofs.Ytjggclhhimccoaa
open Go.RowKit
/-- The carry at place i + k, when to Q, with X times y at place i, k digits of y are in. -/
def mc (Q X y i k : Nat) : Nat := (Q % 2 ^ (32 * (i + k)) + X * (y % 2 ^ (32 * k)) * 2 ^ (32 * i)) / 2 ^ (32 * (i + k))
theorem m_split (a p q : Nat) : a % (p * q) = a % p + p * (a / p % q) := Nat.mod_mul
theorem m_sum (i k : Nat) : ∃ r q p b : Nat, r = 2 ^ (32 * (i + k)) ∧ q = 2 ^ (32 * k) ∧ p = 2 ^ (32 * i) ∧ r = p * q ∧ 0 < r ∧ 0 < q ∧ 0 < p ∧ b = 4294967296 ∧ 2 ^ (32 * (i + k + 1)) = r * b ∧ 2 ^ (32 * (k + 1)) = q * b := by
  refine ⟨_, _, _, _, rfl, rfl, rfl, ?_, Nat.pow_pos (by decide), Nat.pow_pos (by decide), Nat.pow_pos (by decide), rfl, ?_, ?_⟩
  · rw [← Nat.pow_add, ← Nat.mul_add]
  · rw [Nat.mul_succ, Nat.pow_add]
  · rw [Nat.mul_succ, Nat.pow_add]
theorem mc_next (Q X y i k : Nat) : (Q / 2 ^ (32 * (i + k)) % 4294967296 + X * (y / 2 ^ (32 * k) % 4294967296) + mc Q X y i k) / 4294967296 = mc Q X y i (k + 1) := by
  obtain ⟨r, q, p, b, hr, hq, hp, hrpq, hr0, hq0, hp0, hb, h1, h2⟩ := m_sum i k
  unfold mc
  rw [show i + (k + 1) = i + k + 1 by omega, h1, h2, ← hr, ← hq, ← hp, ← hb, m_split Q r b, m_split y q b, ← Nat.div_div_eq_div_mul]
  have e : Q % r + r * (Q / r % b) + X * (y % q + q * (y / q % b)) * p = (Q % r + X * (y % q) * p) + (Q / r % b + X * (y / q % b)) * r := by
    rw [hrpq, Nat.mul_add, Nat.add_mul, Nat.add_mul]
    have e2 : X * (q * (y / q % b)) * p = X * (y / q % b) * (p * q) := by
      rw [Nat.mul_left_comm X q, Nat.mul_comm q, Nat.mul_assoc, Nat.mul_comm q p]
    have e3 : p * q * (Q / (p * q) % b) = Q / (p * q) % b * (p * q) := Nat.mul_comm _ _
    omega
  rw [e, Nat.add_mul_div_right _ _ hr0]
  generalize (Q % r + X * (y % q) * p) / r = c
  generalize Q / r % b + X * (y / q % b) = d
  rw [Nat.add_comm]
theorem mc_digit (Q X y i k : Nat) : (Q / 2 ^ (32 * (i + k)) % 4294967296 + X * (y / 2 ^ (32 * k) % 4294967296) + mc Q X y i k) % 4294967296 = (Q + X * y * 2 ^ (32 * i)) / 2 ^ (32 * (i + k)) % 4294967296 := by
  obtain ⟨r, q, p, b, hr, hq, hp, hrpq, hr0, hq0, hp0, hb, h1, h2⟩ := m_sum i k
  unfold mc
  rw [← hr, ← hq, ← hp, ← hb]
  have e : Q + X * y * p = (Q % r + X * (y % q) * p) + (Q / r + X * (y / q)) * r := by
    have h3 := Nat.mod_add_div Q r
    have h4 := Nat.mod_add_div y q
    have e2 : X * y * p = X * (y % q) * p + X * (y / q) * r := by
      rw [hrpq]
      have : y = y % q + q * (y / q) := h4.symm
      have e5 : X * y * p = X * (y % q + q * (y / q)) * p := by rw [← this]
      rw [e5, Nat.mul_add, Nat.add_mul]
      have : X * (q * (y / q)) * p = X * (y / q) * (p * q) := by
        rw [Nat.mul_left_comm X q, Nat.mul_comm q, Nat.mul_assoc, Nat.mul_comm q p]
      omega
    rw [Nat.add_mul, Nat.mul_comm (Q / r)]
    omega
  rw [e, Nat.add_mul_div_right _ _ hr0]
  generalize (Q % r + X * (y % q) * p) / r = c
  have e6 : X * (y / q) % b = X * (y / q % b) % b := by rw [Nat.mul_mod, Nat.mul_mod X (y / q % b), Nat.mod_mod]
  generalize X * (y / q) = u at e6 ⊢
  generalize X * (y / q % b) = v at e6 ⊢
  subst hb
  omega
end Go.Proofs.Ytjggclhhimccoaa
