/- Layer 9 in numbers: words of codes, a 1 ahead of each; the symbols that are known by them. -/
import Derived.Test.YtmmkmbinmmfblaaMB
import Derived.Test.YtmmkmbinmmfblaaMC
namespace Go.Proofs.Ytmmkmbinmmfblaa
open Go.RowKit
/-- The word of a code: a 1 ahead. -/
def keyW (l : Nat → Nat) (n i : Nat) : Nat := 2 ^ l i + codeN l n i
/-- The symbol of a word, among the first. -/
def gkW (l : Nat → Nat) (n : Nat) : Nat → Nat → Option Nat
  | 0, _ => none
  | k + 1, x => if l k ≠ 0 ∧ keyW l n k = x then some k else gkW l n k x
def nzW (l : Nat → Nat) : Nat → Nat
  | 0 => 0
  | k + 1 => nzW l k + if l k = 0 then 0 else 1
theorem gk_is {l : Nat → Nat} {n k x i : Nat} (h : gkW l n k x = some i) : i < k ∧ l i ≠ 0 ∧ keyW l n i = x := by
  induction k with
  | zero => cases h
  | succ k ih =>
    unfold gkW at h
    by_cases h1 : l k ≠ 0 ∧ keyW l n k = x
    · rw [if_pos h1] at h; cases h; exact ⟨Nat.lt_succ_self _, h1⟩
    · rw [if_neg h1] at h
      have := ih h
      exact ⟨by omega, this.2⟩
theorem gk_not {l : Nat → Nat} {n k x : Nat} (h : gkW l n k x = none) : ∀ i, i < k → ¬ (l i ≠ 0 ∧ keyW l n i = x) := by
  induction k with
  | zero => intro i hi; omega
  | succ k ih =>
    unfold gkW at h
    by_cases h1 : l k ≠ 0 ∧ keyW l n k = x
    · rw [if_pos h1] at h; cases h
    · rw [if_neg h1] at h
      intro i hi
      rcases (show i < k ∨ i = k by omega) with h2 | rfl
      · exact ih h i h2
      · exact h1
theorem pow_same {a b x y : Nat} (hx : x < 2 ^ a) (hy : y < 2 ^ b) (h : 2 ^ a + x = 2 ^ b + y) : a = b ∧ x = y := by
  have key : ∀ {a b x y : Nat}, x < 2 ^ a → a < b → 2 ^ a + x ≠ 2 ^ b + y := fun {a b x y} hx hab h => by
    have h1 : 2 ^ (a + 1) ≤ 2 ^ b := Nat.pow_le_pow_right (by decide) hab
    rw [Nat.pow_succ] at h1
    omega
  rcases Nat.lt_trichotomy a b with h1 | rfl | h1
  · exact absurd h (key hx h1)
  · exact ⟨rfl, by omega⟩
  · exact absurd h.symm (key hy h1)
theorem key_same {l : Nat → Nat} {n i k : Nat} (h : ∀ j, j < n → l j ≤ 15) (hk : kr l n ≤ 2 ^ 15) (hi : i < n) (hj : k < n) (h0 : l i ≠ 0) (h1 : l k ≠ 0) (e : keyW l n i = keyW l n k) : i = k := by
  obtain ⟨e1, e2⟩ := pow_same (code_lt l n i h hk hi h0) (code_lt l n k h hk hj h1) e
  exact code_same l n i k h0 e1 e2
theorem gk_fnd {l : Nat → Nat} {n d c : Nat} (h : ∀ j, j < n → l j ≤ 15) (hk : kr l n ≤ 2 ^ 15) (hd : d ≠ 0) (hc : c < 2 ^ d) : gkW l n n (2 ^ d + c) = fnd l n d c n := by
  cases e : fnd l n d c n with
  | none =>
    cases e2 : gkW l n n (2 ^ d + c) with
    | none => rfl
    | some i =>
      obtain ⟨h1, h2, h3⟩ := gk_is e2
      obtain ⟨h4, h5⟩ := pow_same (code_lt l n i h hk h1 h2) hc h3
      exact absurd ⟨h4, h5⟩ (fnd_not e i h1)
  | some k =>
    obtain ⟨h1, h2, h3⟩ := fnd_is e
    cases e2 : gkW l n n (2 ^ d + c) with
    | none => exact absurd ⟨by omega, by unfold keyW; rw [h2, h3]⟩ (gk_not e2 k h1)
    | some i =>
      obtain ⟨h4, h5, h6⟩ := gk_is e2
      congr 1
      exact key_same h hk h4 h1 h5 (by omega) (by rw [h6]; unfold keyW; rw [h2, h3])
theorem gk_new {l : Nat → Nat} {n k : Nat} (h : ∀ j, j < n → l j ≤ 15) (hk : kr l n ≤ 2 ^ 15) (hi : k < n) (h0 : l k ≠ 0) : gkW l n k (keyW l n k) = none := by
  cases e : gkW l n k (keyW l n k) with
  | none => rfl
  | some i =>
    obtain ⟨h1, h2, h3⟩ := gk_is e
    have := key_same h hk (by omega) hi h2 h0 h3
    omega
theorem nz_kr {l : Nat → Nat} {n : Nat} : nzW l n = 0 ↔ kr l n = 0 := by
  induction n with
  | zero => exact ⟨fun _ => rfl, fun _ => rfl⟩
  | succ n ih =>
    show nzW l n + _ = 0 ↔ kr l n + _ = 0
    by_cases h : l n = 0
    · rw [if_pos h, if_pos h]; exact ih
    · rw [if_neg h, if_neg h]
      have : 0 < 2 ^ (15 - l n) := Nat.pow_pos (by decide)
      omega
theorem nz_none {l : Nat → Nat} {n : Nat} (h : nzW l n = 0) : ∀ i, i < n → l i = 0 := by
  induction n with
  | zero => intro i hi; omega
  | succ n ih =>
    have h2 : nzW l n + (if l n = 0 then 0 else 1) = 0 := h
    intro i hi
    by_cases h3 : l n = 0
    · rcases (show i < n ∨ i = n by omega) with h4 | rfl
      · rw [if_pos h3] at h2; exact ih h2 i h4
      · exact h3
    · rw [if_neg h3] at h2; omega
theorem sgl_noneW {l : Nat → Nat} {n : Nat} (h : ∀ i, i < n → l i = 0) : sgl l n = 0 := by
  induction n with
  | zero => rfl
  | succ n ih => show sgl l n + l n = 0; rw [ih fun i hi => h i (by omega), h n (by omega)]
theorem sgl_zeroW {l : Nat → Nat} {n : Nat} (h : sgl l n = 0) : nzW l n = 0 := by
  induction n with
  | zero => rfl
  | succ n ih =>
    have h2 : sgl l n + l n = 0 := h
    show nzW l n + _ = 0
    rw [ih (by omega), if_pos (by omega)]
theorem sgl_oneW {l : Nat → Nat} {n : Nat} : sgl l n = 1 ↔ nzW l n = 1 ∧ ∃ i, i < n ∧ l i = 1 := by
  induction n with
  | zero =>
    constructor
    · intro h; cases h
    · rintro ⟨h, _⟩; cases h
  | succ n ih =>
    show sgl l n + l n = 1 ↔ nzW l n + _ = 1 ∧ _
    by_cases h : l n = 0
    · rw [if_pos h, h, Nat.add_zero, Nat.add_zero, ih]
      constructor
      · rintro ⟨h1, i, h2, h3⟩; exact ⟨h1, i, by omega, h3⟩
      · rintro ⟨h1, i, h2, h3⟩
        refine ⟨h1, i, ?_, h3⟩
        rcases (show i < n ∨ i = n by omega) with h4 | rfl
        · exact h4
        · omega
    · rw [if_neg h]
      constructor
      · intro h1
        have h2 : nzW l n = 0 := sgl_zeroW (by omega)
        exact ⟨by omega, n, by omega, by omega⟩
      · rintro ⟨h1, i, h2, h3⟩
        have h4 : nzW l n = 0 := by omega
        have h5 := sgl_noneW (nz_none h4)
        rcases (show i < n ∨ i = n by omega) with h6 | rfl
        · have := nz_none h4 i h6; omega
        · omega
/-- Is one symbol alone there, with one bit? -/
theorem single_key {l : Nat → Nat} {n : Nat} (h : ∀ j, j < n → l j ≤ 15) (hk : kr l n ≤ 2 ^ 15) : sgl l n = 1 ↔ nzW l n = 1 ∧ (gkW l n n 2).isSome = true := by
  rw [sgl_oneW]
  refine and_congr_right fun h1 => ?_
  have e : gkW l n n 2 = fnd l n 1 0 n := gk_fnd (d := 1) (c := 0) h hk (by decide) (by decide)
  rw [e]
  constructor
  · rintro ⟨i, h2, h3⟩
    have h4 : codeN l n i = 0 := by
      have hs := sgl_oneW.2 ⟨h1, i, h2, h3⟩
      unfold codeN
      rw [if_neg (by omega), h3]
      have hc : cnt l 1 i = 0 := by
        cases hz : cnt l 1 i with
        | zero => rfl
        | succ c =>
          exfalso
          have : ∀ m, m ≤ i → cnt l 1 m ≤ sgl l m := fun m => by
            induction m with
            | zero => intro _; exact Nat.le_refl _
            | succ m ih =>
              intro hm
              have := ih (by omega)
              show cnt l 1 m + _ ≤ sgl l m + l m
              split <;> omega
          have h5 := this i (Nat.le_refl _)
          have h6 : sgl l (i + 1) = sgl l i + l i := rfl
          have h7 : ∀ m, i + 1 ≤ m → sgl l (i + 1) ≤ sgl l m := fun m hm => by
            induction hm with
            | refl => exact Nat.le_refl _
            | step _ ih => exact Nat.le_trans ih (Nat.le_add_right _ _)
          have := h7 n (by omega)
          omega
      rw [hc]; rfl
    rw [fnd_some (by decide) h2 h3 h4]; rfl
  · intro h2
    cases e3 : fnd l n 1 0 n with
    | none => rw [e3] at h2; cases h2
    | some k =>
      obtain ⟨h4, h5, _⟩ := fnd_is e3
      exact ⟨k, h4, h5⟩
end Go.Proofs.Ytmmkmbinmmfblaa
