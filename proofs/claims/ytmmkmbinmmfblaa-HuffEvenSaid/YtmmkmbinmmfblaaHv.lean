/- Layer 9 in numbers: counts that are all alike have lengths that are alike but for one. -/
import Derived.Test.YtmmkmbinmmfblaaMB
namespace Go.Proofs.Ytmmkmbinmmfblaa
open Go.RowKit
theorem lenV_alike (f : Nat) : ∀ {c : Nat → Nat} {n most : Nat} {l : Nat → Nat}, lenV f c n most = some l → (∀ i j, i < n → j < n → c i = c j) → ∃ e, l = lenO e n ∧ (∀ i, 0 < e i ↔ 0 < c i) ∧ ∀ i j, i < n → j < n → e i = e j := by
  induction f with
  | zero => intro c n most l h; cases h
  | succ f ih =>
    intro c n most l h ha
    unfold lenV at h
    by_cases hm : depM c n n ≤ most
    · rw [if_pos hm] at h; cases h; exact ⟨c, rfl, fun _ => Iff.rfl, ha⟩
    · rw [if_neg hm] at h
      obtain ⟨e, h1, h2, h3⟩ := ih h (fun i j hi hj => by unfold halve; rw [ha i j hi hj])
      refine ⟨e, h1, fun i => (h2 i).trans ?_, h3⟩
      unfold halve; omega
theorem nds_full {c : Nat → Nat} {n : Nat} (h : ∀ i, i < n → 0 < c i) : (nds c n).length = n := by
  induction n with
  | zero => rfl
  | succ n ih =>
    unfold nds
    rw [List.length_append, ih fun i hi => h i (by omega), if_pos (h n (by omega))]; rfl
/-- 2 to 256 symbols, all as often. -/
theorem lens_even {f n k : Nat} {c : Nat → Nat} {most : Nat} {l : Nat → Nat} (hl : lenV f c n most = some l) (ha : ∀ i j, i < n → j < n → c i = c j) (hp : ∀ i, i < n → 0 < c i) (h2 : 2 ≤ n)
    (hk : 2 ^ k ≤ n) (hk2 : n < 2 ^ (k + 1)) (i : Nat) (hi : i < n) : l i = k ∨ (l i = k + 1 ∧ 2 ^ k ≠ n) := by
  obtain ⟨e, rfl, h3, h4⟩ := lenV_alike f hl ha
  have hpe : ∀ i, i < n → 0 < e i := fun i hi => (h3 i).2 (hp i hi)
  obtain ⟨j, hj, hd⟩ := dep_alike (c := e) (n := n) (i := i) (fun i j hi hj _ _ => h4 i j hi hj) hi (hpe i hi)
  have hlen := nds_full hpe
  have hO : lenO e n i = dep e n i := by
    unfold lenO
    rw [if_neg (by have := hpe i hi; omega), if_neg (by omega)]
  rw [hO, hd, hlen]
  rw [hlen] at hj
  have hpk : 2 ^ (k + 1) = 2 * 2 ^ k := by rw [Nat.pow_succ, Nat.mul_comm]
  generalize hx : 2 * n - 1 - j = x
  have hx1 : n ≤ x := by omega
  have hx2 : x < 2 * n := by omega
  have a1 := (Nat.le_log2 (n := x) (by omega) (k := k)).2 (by omega)
  have a2 := (Nat.log2_lt (n := x) (by omega) (k := k + 2)).2 (by rw [Nat.pow_succ]; omega)
  rcases Nat.lt_or_ge x (2 ^ (k + 1)) with h | h
  · have := (Nat.log2_lt (n := x) (by omega) (k := k + 1)).2 h
    left; omega
  · right
    have := (Nat.le_log2 (n := x) (by omega) (k := k + 1)).2 h
    exact ⟨by omega, fun hn => by omega⟩
end Go.Proofs.Ytmmkmbinmmfblaa
