/- Layer 9 in numbers: a symbol read bit by bit. -/
import Derived.Test.YtmmkmbinmmfblaaHa
namespace Go.Proofs.Ytmmkmbinmmfblaa
open Go.RowKit
/-- Which of the first m symbols has the code c of d bits. -/
def fnd (l : Nat → Nat) (n d c : Nat) : Nat → Option Nat
  | 0 => none
  | m + 1 => match fnd l n d c m with
    | some k => some k
    | none => if l m = d ∧ codeN l n m = c then some m else none
theorem fnd_none {l : Nat → Nat} {n d c m : Nat} (h : ∀ i, i < m → ¬ (l i = d ∧ codeN l n i = c)) : fnd l n d c m = none := by
  induction m with
  | zero => rfl
  | succ m ih =>
    unfold fnd
    rw [ih fun i hi => h i (by omega)]
    exact if_neg (h m (by omega))
theorem fnd_some {l : Nat → Nat} {n d c m k : Nat} (hd : d ≠ 0) (hk : k < m) (h1 : l k = d) (h2 : codeN l n k = c) : fnd l n d c m = some k := by
  induction m with
  | zero => omega
  | succ m ih =>
    unfold fnd
    by_cases h : k < m
    · rw [ih h]
    · obtain rfl : k = m := by omega
      rw [fnd_none]
      · exact if_pos ⟨h1, h2⟩
      · rintro i hi ⟨h3, h4⟩
        have := code_same l n i k (by omega) (by omega) (by omega)
        omega
theorem fnd_is {l : Nat → Nat} {n d c m k : Nat} (h : fnd l n d c m = some k) : k < m ∧ l k = d ∧ codeN l n k = c := by
  induction m with
  | zero => cases h
  | succ m ih =>
    unfold fnd at h
    cases e : fnd l n d c m with
    | some j => rw [e] at h; cases h; have := ih e; exact ⟨by omega, this.2⟩
    | none =>
      rw [e] at h
      by_cases h3 : l m = d ∧ codeN l n m = c
      · simp only [if_pos h3] at h; cases h; exact ⟨by omega, h3⟩
      · simp only [if_neg h3] at h; cases h
theorem fnd_not {l : Nat → Nat} {n d c m : Nat} (h : fnd l n d c m = none) : ∀ i, i < m → ¬ (l i = d ∧ codeN l n i = c) := by
  induction m with
  | zero => intro i hi; omega
  | succ m ih =>
    unfold fnd at h
    cases e : fnd l n d c m with
    | some j => rw [e] at h; cases h
    | none =>
      rw [e] at h
      by_cases h3 : l m = d ∧ codeN l n m = c
      · simp only [if_pos h3] at h; cases h
      · intro i hi
        rcases (show i < m ∨ i = m by omega) with h4 | rfl
        · exact ih e i h4
        · exact h3
/-- The number of k bits from at on, the first one the highest. -/
def rv (B : Nat → Nat) (at_ : Nat) : Nat → Nat
  | 0 => 0
  | k + 1 => 2 * rv B at_ k + B (at_ + k)
/-- What Next answers from the length d + 1 on, f lengths more. -/
def nextV (l : Nat → Nat) (n : Nat) (B : Nat → Nat) (T at_ : Nat) : Nat → Nat → Nat × Nat × Nat
  | _, 0 => (0, 0, 2)
  | d, f + 1 => if T ≤ at_ + d then (0, 0, 3) else match fnd l n (d + 1) (rv B at_ (d + 1)) n with
    | some k => (k, at_ + d + 1, 0)
    | none => nextV l n B T at_ (d + 1) f
theorem rv_code {c d : Nat} {B : Nat → Nat} {at_ : Nat} (hc : c < 2 ^ d) (hB : ∀ j, j < d → B (at_ + j) = c / 2 ^ (d - 1 - j) % 2) (s : Nat) (hs : s ≤ d) : rv B at_ s = c / 2 ^ (d - s) := by
  induction s with
  | zero => rw [Nat.sub_zero, Nat.div_eq_of_lt hc]; rfl
  | succ s ih =>
    show 2 * rv B at_ s + B (at_ + s) = _
    rw [ih (by omega), hB s (by omega), show d - s = d - (s + 1) + 1 by omega, show d - 1 - s = d - (s + 1) by omega, Nat.pow_succ, ← Nat.div_div_eq_div_mul]
    omega
/-- A symbol is read from its code. -/
theorem next_code (l : Nat → Nat) (n k : Nat) (B : Nat → Nat) (T at_ : Nat) (hl : ∀ j, j < n → l j ≤ 15) (hk : kr l n ≤ 2 ^ 15) (hkn : k < n) (h0 : l k ≠ 0)
    (hB : ∀ j, j < l k → B (at_ + j) = codeN l n k / 2 ^ (l k - 1 - j) % 2) (hT : at_ + l k ≤ T) (d f : Nat) (hd : d < l k) (hf : l k ≤ d + f) : nextV l n B T at_ d f = (k, at_ + l k, 0) := by
  have hc := code_lt l n k hl hk hkn h0
  induction f generalizing d with
  | zero => omega
  | succ f ih =>
    unfold nextV
    rw [if_neg (by omega), rv_code hc hB (d + 1) (by omega)]
    by_cases h : d + 1 = l k
    · rw [h, Nat.sub_self, Nat.pow_zero, Nat.div_one, fnd_some (k := k) h0 hkn rfl rfl]
      simp only [Prod.mk.injEq, and_true, true_and]
      omega
    · rw [fnd_none]
      · exact ih (d + 1) (by omega) (by omega)
      · rintro i hi ⟨h1, h2⟩
        have := code_prefix l n i k hi (by omega) (by omega) (hl k hkn) (by rw [h1]; exact h2.symm)
        subst this
        omega
end Go.Proofs.Ytmmkmbinmmfblaa
