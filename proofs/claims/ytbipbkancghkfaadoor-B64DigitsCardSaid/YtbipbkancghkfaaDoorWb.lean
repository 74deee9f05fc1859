/- Bits in a row, grouped anew. -/
import Derived.Test.YtbipbkancghkfaaDoorTxt
namespace Go.Proofs.YtbipbkancghkfaaDoor
open Go.RowKit
/-- The number that n bits from a on make. -/
def num (g : Nat → Nat) (a : Nat) : Nat → Nat
  | 0 => 0
  | n + 1 => 2 * num g a n + g (a + n) % 2
theorem num_lt (g : Nat → Nat) (a : Nat) : ∀ n, num g a n < 2 ^ n
  | 0 => Nat.one_pos
  | n + 1 => by
    have := num_lt g a n
    unfold num
    rw [Nat.pow_succ]
    omega
theorem num_add (g : Nat → Nat) (a n : Nat) : ∀ m, num g a (n + m) = num g a n * 2 ^ m + num g (a + n) m
  | 0 => by simp [num]
  | m + 1 => by
    rw [← Nat.add_assoc]
    show 2 * num g a (n + m) + g (a + (n + m)) % 2 = _
    rw [num_add g a n m]
    show _ = num g a n * 2 ^ (m + 1) + (2 * num g (a + n) m + g (a + n + m) % 2)
    rw [Nat.pow_succ, Nat.add_assoc a n m, Nat.mul_add, ← Nat.mul_assoc, Nat.mul_comm 2 (num g a n), Nat.mul_assoc (num g a n) 2, Nat.mul_comm 2 (2 ^ m)]
    omega
theorem num_div (g : Nat → Nat) (a n m : Nat) : num g a (n + m) / 2 ^ m = num g a n := by
  rw [num_add, Nat.add_comm, Nat.add_mul_div_right _ _ (Nat.two_pow_pos m), Nat.div_eq_of_lt (num_lt g _ m), Nat.zero_add]
theorem num_mod (g : Nat → Nat) (a n m : Nat) : num g a (n + m) % 2 ^ m = num g (a + n) m := by
  rw [num_add, Nat.add_comm, Nat.add_mul_mod_self_right, Nat.mod_eq_of_lt (num_lt g _ m)]
theorem num_none (g : Nat → Nat) (a : Nat) : ∀ n, (∀ p, a ≤ p → p < a + n → g p % 2 = 0) → num g a n = 0
  | 0, _ => rfl
  | n + 1, h => by
    unfold num
    rw [num_none g a n fun p h1 h2 => h p h1 (by omega), h (a + n) (by omega) (by omega)]
theorem num_none' (g : Nat → Nat) (a : Nat) : ∀ n, num g a n = 0 → ∀ p, a ≤ p → p < a + n → g p % 2 = 0
  | 0, _, p, h1, h2 => by omega
  | n + 1, h, p, h1, h2 => by
    unfold num at h
    by_cases hp : p = a + n
    · rw [hp]; omega
    · exact num_none' g a n (by omega) p h1 (by omega)
theorem num_same {g h : Nat → Nat} {a b : Nat} : ∀ {n}, (∀ j, j < n → g (a + j) % 2 = h (b + j) % 2) → num g a n = num h b n
  | 0, _ => rfl
  | n + 1, e => by
    unfold num
    rw [num_same (n := n) fun j hj => e j (by omega), e n (by omega)]
theorem num_same' {g h : Nat → Nat} {a b : Nat} : ∀ {n}, num g a n = num h b n → ∀ j, j < n → g (a + j) % 2 = h (b + j) % 2
  | 0, _, j, hj => by omega
  | n + 1, e, j, hj => by
    unfold num at e
    by_cases hp : j = n
    · rw [hp]; omega
    · exact num_same' (n := n) (by omega) j (by omega)
/-- Bit p of groups of fr bits, N of them; behind them 0. -/
def bitG (G : Nat → Nat) (fr N p : Nat) : Nat := if p / fr < N then G (p / fr) / 2 ^ (fr - 1 - p % fr) % 2 else 0
theorem num_part (G : Nat → Nat) (fr N m : Nat) (hm : m < N) (hG : G m < 2 ^ fr) : ∀ j, j ≤ fr → num (bitG G fr N) (m * fr) j = G m / 2 ^ (fr - j)
  | 0, _ => by rw [Nat.sub_zero, Nat.div_eq_of_lt hG]; rfl
  | j + 1, hj => by
    unfold num
    have hd : (m * fr + j) / fr = m := by rw [Nat.mul_comm, Nat.mul_add_div (by omega), Nat.div_eq_of_lt (by omega)]; omega
    have hr : (m * fr + j) % fr = j := by rw [Nat.mul_comm, Nat.mul_add_mod, Nat.mod_eq_of_lt (by omega)]
    rw [num_part G fr N m hm hG j (by omega)]
    unfold bitG
    rw [hd, hr, if_pos hm, show fr - j = fr - (j + 1) + 1 by omega, show fr - 1 - j = fr - (j + 1) by omega, Nat.pow_succ, ← Nat.div_div_eq_div_mul]
    omega
theorem num_group (G : Nat → Nat) (fr N m : Nat) (hm : m < N) (hG : G m < 2 ^ fr) : num (bitG G fr N) (m * fr) fr = G m := by
  rw [num_part G fr N m hm hG fr (Nat.le_refl _), Nat.sub_self, Nat.pow_zero, Nat.div_one]
theorem bitG_out (G : Nat → Nat) (fr N p : Nat) (hf : 0 < fr) (h : N * fr ≤ p) : bitG G fr N p = 0 := by
  unfold bitG
  rw [if_neg]
  intro hlt
  have := (Nat.div_lt_iff_lt_mul hf).1 hlt
  omega
/-- A group more. -/
theorem num_more (G : Nat → Nat) (fr N m a c : Nat) (hm : m < N) (hG : G m < 2 ^ fr) (hc : a + c = m * fr) : num (bitG G fr N) a (c + fr) = num (bitG G fr N) a c * 2 ^ fr + G m := by
  rw [num_add, hc, num_group G fr N m hm hG]
/-- Filled up. -/
theorem num_fill (G : Nat → Nat) (fr N a c d : Nat) (hf : 0 < fr) (hc : N * fr ≤ a + c) : num (bitG G fr N) a (c + d) = num (bitG G fr N) a c * 2 ^ d := by
  rw [num_add, num_none (bitG G fr N) (a + c) d fun p h1 _ => by rw [bitG_out G fr N p hf (Nat.le_trans hc h1)], Nat.add_zero]
end Go.Proofs.YtbipbkancghkfaaDoor
