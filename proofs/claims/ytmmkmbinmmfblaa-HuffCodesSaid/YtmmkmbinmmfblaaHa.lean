/- Layer 9 in numbers: codes of lengths; none is the beginning of another one. -/
import Derived.Test.YtmmkmbinmmfblaaWords
namespace Go.Proofs.Ytmmkmbinmmfblaa
open Go.RowKit
/-- How many of the first n are d. -/
def cnt (l : Nat → Nat) (d : Nat) : Nat → Nat
  | 0 => 0
  | n + 1 => cnt l d n + if l n = d then 1 else 0
/-- The sum of 2 ^ (15 - length). -/
def kr (l : Nat → Nat) : Nat → Nat
  | 0 => 0
  | n + 1 => kr l n + if l n = 0 then 0 else 2 ^ (15 - l n)
/-- The first code of the length d + 1. -/
def cst (l : Nat → Nat) (n : Nat) : Nat → Nat
  | 0 => 0
  | d + 1 => 2 * (cst l n d + cnt l (d + 1) n)
/-- The code of the symbol i. -/
def codeN (l : Nat → Nat) (n i : Nat) : Nat := if l i = 0 then 0 else cst l n (l i - 1) + cnt l (l i) i
theorem cnt_mono (l : Nat → Nat) (d : Nat) {i j : Nat} (h : i ≤ j) : cnt l d i ≤ cnt l d j := by
  induction h with
  | refl => exact Nat.le_refl _
  | step _ ih => exact Nat.le_trans ih (Nat.le_add_right _ _)
theorem cnt_lt (l : Nat → Nat) {d i j : Nat} (hi : l i = d) (h : i < j) : cnt l d i + 1 ≤ cnt l d j := by
  have h1 : cnt l d (i + 1) = cnt l d i + 1 := by show _ + _ = _; rw [if_pos hi]
  rw [← h1]; exact cnt_mono l d h
/-- Where the codes of the length d + 1 begin, in 2 ^ 15 parts. -/
def offS (l : Nat → Nat) (n : Nat) : Nat → Nat
  | 0 => 0
  | d + 1 => offS l n d + cnt l (d + 1) n * 2 ^ (15 - (d + 1))
theorem cst_off (l : Nat → Nat) (n d : Nat) (hd : d ≤ 14) : cst l n d * 2 ^ (15 - (d + 1)) = offS l n d := by
  induction d with
  | zero => simp [cst, offS]
  | succ d ih =>
    have ih2 := ih (by omega)
    show 2 * (cst l n d + cnt l (d + 1) n) * 2 ^ (15 - (d + 1 + 1)) = offS l n d + cnt l (d + 1) n * 2 ^ (15 - (d + 1))
    have e : 2 ^ (15 - (d + 1)) = 2 * 2 ^ (15 - (d + 1 + 1)) := by
      rw [show 15 - (d + 1) = 15 - (d + 1 + 1) + 1 by omega, Nat.pow_succ, Nat.mul_comm]
    rw [← ih2, e, ← Nat.add_mul, Nat.mul_assoc, Nat.mul_left_comm]
theorem offS_mono (l : Nat → Nat) (n : Nat) {d e : Nat} (h : d ≤ e) : offS l n d ≤ offS l n e := by
  induction h with
  | refl => exact Nat.le_refl _
  | step _ ih => exact Nat.le_trans ih (Nat.le_add_right _ _)
theorem offS_none (l : Nat → Nat) (d : Nat) : offS l 0 d = 0 := by
  induction d with
  | zero => rfl
  | succ d ih => show offS l 0 d + 0 * _ = 0; rw [ih, Nat.zero_mul]
theorem offS_next (l : Nat → Nat) (n d : Nat) : offS l (n + 1) d = offS l n d + if 1 ≤ l n ∧ l n ≤ d then 2 ^ (15 - l n) else 0 := by
  induction d with
  | zero => rw [if_neg (by omega)]; rfl
  | succ d ih =>
    show offS l (n + 1) d + (cnt l (d + 1) n + if l n = d + 1 then 1 else 0) * 2 ^ (15 - (d + 1)) = offS l n d + cnt l (d + 1) n * 2 ^ (15 - (d + 1)) + _
    rw [ih]
    by_cases h : l n = d + 1
    · rw [if_neg (by omega), if_pos h, if_pos (by omega), h, Nat.add_mul, Nat.one_mul]; omega
    · rw [if_neg h, Nat.add_zero]
      by_cases h2 : 1 ≤ l n ∧ l n ≤ d
      · rw [if_pos h2, if_pos (by omega)]; omega
      · rw [if_neg h2, if_neg (by omega)]; omega
/-- All codes together. -/
theorem offS_all (l : Nat → Nat) (n : Nat) (h : ∀ i, i < n → l i ≤ 15) : offS l n 15 = kr l n := by
  induction n with
  | zero => exact offS_none l 15
  | succ n ih =>
    rw [offS_next, ih fun i hi => h i (by omega)]
    have hn := h n (by omega)
    show _ = kr l n + _
    by_cases h0 : l n = 0
    · rw [if_neg (by omega), if_pos h0]
    · rw [if_pos (by omega), if_neg h0]
/-- Where the code of i begins, in 2 ^ 15 parts. -/
theorem code_lo (l : Nat → Nat) (n i : Nat) (h0 : l i ≠ 0) (h1 : l i ≤ 15) : codeN l n i * 2 ^ (15 - l i) = offS l n (l i - 1) + cnt l (l i) i * 2 ^ (15 - l i) := by
  unfold codeN
  rw [if_neg h0, Nat.add_mul]
  have e := cst_off l n (l i - 1) (by omega)
  rw [show l i - 1 + 1 = l i by omega] at e
  rw [e]
theorem code_hi (l : Nat → Nat) (n i j : Nat) (h0 : l i ≠ 0) (h1 : l i ≤ 15) (hij : i < j) : (codeN l n i + 1) * 2 ^ (15 - l i) ≤ offS l n (l i - 1) + cnt l (l i) j * 2 ^ (15 - l i) := by
  rw [Nat.add_mul, Nat.one_mul, code_lo l n i h0 h1, Nat.add_assoc]
  refine Nat.add_le_add_left ?_ _
  have := Nat.mul_le_mul_right (2 ^ (15 - l i)) (cnt_lt l rfl hij)
  rwa [Nat.add_mul, Nat.one_mul] at this
theorem code_end (l : Nat → Nat) (n i : Nat) (h0 : l i ≠ 0) (h1 : l i ≤ 15) (hi : i < n) : (codeN l n i + 1) * 2 ^ (15 - l i) ≤ offS l n (l i) := by
  have h := code_hi l n i n h0 h1 hi
  have e : offS l n (l i) = offS l n (l i - 1) + cnt l (l i) n * 2 ^ (15 - l i) := by
    obtain ⟨d, hd⟩ : ∃ d, l i = d + 1 := ⟨l i - 1, by omega⟩
    rw [hd]; rfl
  rw [e]; exact h
/-- A code has just so many bits. -/
theorem code_lt (l : Nat → Nat) (n i : Nat) (h : ∀ j, j < n → l j ≤ 15) (hk : kr l n ≤ 2 ^ 15) (hi : i < n) (h0 : l i ≠ 0) : codeN l n i < 2 ^ l i := by
  have h1 := h i hi
  have h2 := Nat.le_trans (code_end l n i h0 h1 hi) (Nat.le_trans (offS_mono l n h1) (offS_all l n h ▸ hk))
  have h3 : (2 : Nat) ^ 15 = 2 ^ l i * 2 ^ (15 - l i) := by rw [← Nat.pow_add]; congr 1; omega
  rw [h3] at h2
  exact Nat.lt_of_mul_lt_mul_right (Nat.lt_of_lt_of_le (Nat.mul_lt_mul_of_pos_right (Nat.lt_succ_self _) (Nat.pow_pos (by decide))) h2)
/-- Codes of one length are not the same. -/
theorem code_same (l : Nat → Nat) (n i k : Nat) (h0 : l i ≠ 0) (hl : l i = l k) (hc : codeN l n i = codeN l n k) : i = k := by
  unfold codeN at hc
  rw [if_neg h0, if_neg (by omega), hl] at hc
  rcases Nat.lt_trichotomy i k with h | h | h
  · have := cnt_lt l hl h; omega
  · exact h
  · have := cnt_lt l (rfl : l k = l k) h; omega
/-- No code is the beginning of another one. -/
theorem code_prefix (l : Nat → Nat) (n i k : Nat) (hi : i < n) (h0 : l i ≠ 0) (hl : l i ≤ l k) (hk : l k ≤ 15) (hc : codeN l n k / 2 ^ (l k - l i) = codeN l n i) : i = k := by
  rcases Nat.lt_or_ge (l i) (l k) with hlt | hge
  · exfalso
    have h1 := code_end l n i h0 (by omega) hi
    have h2 : offS l n (l i) ≤ offS l n (l k - 1) := offS_mono l n (by omega)
    have h3 := code_lo l n k (by omega) hk
    have h4 : codeN l n k < (codeN l n i + 1) * 2 ^ (l k - l i) := by
      rw [← hc]
      have := Nat.lt_succ_self (codeN l n k / 2 ^ (l k - l i))
      exact (Nat.div_lt_iff_lt_mul (Nat.pow_pos (by decide))).1 this
    have h5 : codeN l n k * 2 ^ (15 - l k) < (codeN l n i + 1) * 2 ^ (l k - l i) * 2 ^ (15 - l k) := Nat.mul_lt_mul_of_pos_right h4 (Nat.pow_pos (by decide))
    rw [Nat.mul_assoc, ← Nat.pow_add, show l k - l i + (15 - l k) = 15 - l i by omega] at h5
    omega
  · have e : l i = l k := by omega
    rw [e, Nat.sub_self, Nat.pow_zero, Nat.div_one] at hc
    exact code_same l n i k h0 e hc.symm
end Go.Proofs.Ytmmkmbinmmfblaa
