/- Chapter 11 in numbers, no walk: the document's own search finds what the developers' finds. -/
import Derived.Test.YtjdfdiejlmeeoaaNC
import Derived.Test.YtjdfdiejlmeeoaaMA
namespace Go.Proofs.Ytjdfdiejlmeeoaa
open Go.RowKit
/-- All places ahead, from the nearest on: so many are left, so many were met. -/
def seekG (b : Nat → Nat) (to i : Nat) : Nat → Nat → Nat × Nat → Nat × Nat
  | 0, _, best => best
  | k + 1, met, best => if i ≤ k + 32768 ∧ met < 16 ∧ i + 3 ≤ to then
      (if th b k = th b i then seekG b to i k (met + 1) (if best.1 < sameN b k i (min (to - i) 258) then (sameN b k i (min (to - i) 258), i - k) else best) else seekG b to i k met best)
    else best
/-- What has the most is not bettered. -/
theorem seek_most {b : Nat → Nat} {to i : Nat} : ∀ {k met : Nat} {best : Nat × Nat}, min (to - i) 258 ≤ best.1 → seekG b to i k met best = best
  | 0, _, _, _ => rfl
  | k + 1, met, best, h => by
    have hs := sameN_le b k i (min (to - i) 258)
    have h2 : ¬ best.1 < sameN b k i (min (to - i) 258) := by omega
    unfold seekG
    rw [if_neg h2]
    split
    · split
      · exact seek_most h
      · exact seek_most h
    · rfl
theorem srch_none {b : Nat → Nat} {lo most i : Nat} (f : Nat) (best : Nat × Nat) : srch b lo most i f none best = best := by cases f <;> rfl
theorem srch_far {b : Nat → Nat} {lo most i p : Nat} (f : Nat) (best : Nat × Nat) (h : i - p > 32768) : srch b lo most i f (some p) best = best := by
  cases f with
  | zero => rfl
  | succ f => unfold srch; rw [if_pos h]
theorem srch_end {b : Nat → Nat} {lo most i : Nat} (p : Option Nat) (best : Nat × Nat) : srch b lo most i 0 p best = best := by cases p <;> rfl
theorem seek_srch {b : Nat → Nat} {lo to i : Nat} (hlo : lo ≤ i - 32768) (hm : i + 3 ≤ to) : ∀ {k met : Nat} {best : Nat × Nat}, k ≤ i → best.1 < min (to - i) 258 →
    seekG b to i k met best = srch b lo (min (to - i) 258) i (16 - met) (prv b lo (th b i) k) best
  | 0, met, best, _, _ => by show best = srch b lo _ i (16 - met) none best; rw [srch_none]
  | k + 1, met, best, hk, hb => by
    by_cases h1 : i ≤ k + 32768
    · by_cases h2 : met < 16
      · obtain ⟨f, hf⟩ : ∃ f, 16 - met = f + 1 := ⟨15 - met, by omega⟩
        have hl : lo ≤ k := by omega
        unfold seekG
        rw [if_pos ⟨h1, h2, hm⟩]
        by_cases h3 : th b k = th b i
        · have e : prv b lo (th b i) (k + 1) = some k := by unfold prv; rw [if_pos ⟨hl, h3⟩]
          rw [if_pos h3, e, hf]
          unfold srch
          rw [if_neg (show ¬ (i - k > 32768) by omega)]
          have hs := sameN_le b k i (min (to - i) 258)
          by_cases h4 : sameN b k i (min (to - i) 258) = min (to - i) 258
          · rw [if_pos h4, h4, if_pos hb]
            exact seek_most (Nat.le_refl _)
          · rw [if_neg h4, h3]
            have hb2 : (if best.1 < sameN b k i (min (to - i) 258) then (sameN b k i (min (to - i) 258), i - k) else best).1 < min (to - i) 258 := by
              split
              · show sameN b k i (min (to - i) 258) < _; omega
              · exact hb
            rw [seek_srch hlo hm (by omega) hb2, show 16 - (met + 1) = f by omega]
        · have e : prv b lo (th b i) (k + 1) = prv b lo (th b i) k := by
            show (if lo ≤ k ∧ th b k = th b i then some k else prv b lo (th b i) k) = _
            rw [if_neg (fun h => h3 h.2)]
          rw [if_neg h3, e]
          exact seek_srch hlo hm (by omega) hb
      · rw [show 16 - met = 0 by omega, srch_end]
        unfold seekG
        rw [if_neg (fun h => h2 h.2.1)]
    · have e : seekG b to i (k + 1) met best = best := by unfold seekG; rw [if_neg (fun h => h1 h.1)]
      rw [e]
      cases hp : prv b lo (th b i) (k + 1) with
      | none => rw [srch_none]
      | some p =>
        have := prv_is hp
        rw [srch_far _ _ (by omega)]
/-- The two searches find the same. -/
theorem seek_best {b : Nat → Nat} {lo to i : Nat} (hlo : lo ≤ i - 32768) : seekG b to i i 0 (1, 0) = bestS b lo to i := by
  unfold bestS
  by_cases h : i + 3 ≤ to
  · rw [if_neg (by omega)]
    exact seek_srch hlo h (Nat.le_refl _) (by show 1 < _; omega)
  · rw [if_pos (by omega)]
    cases i with
    | zero => rfl
    | succ i => unfold seekG; rw [if_neg (fun hh => h hh.2.2)]
/-- What stands below a place alone matters. -/
theorem sameG_congr {b c : Nat → Nat} {x y to : Nat} (h : ∀ j, j < to → b j = c j) (hxy : x ≤ y) : ∀ m k, y + k + m ≤ to → sameG b x y k m = sameG c x y k m
  | 0, _, _ => rfl
  | m + 1, k, hk => by
    unfold sameG
    rw [h (x + k) (by omega), h (y + k) (by omega), sameG_congr h hxy m (k + 1) (by omega)]
theorem sameN_congr {b c : Nat → Nat} {x y to m : Nat} (h : ∀ j, j < to → b j = c j) (hxy : x ≤ y) (hm : y + m ≤ to) : sameN b x y m = sameN c x y m := sameG_congr h hxy m 0 (by omega)
/-- Three bytes of a text, cut out, are the same where their number is. -/
theorem cut_th {s S : ByteArray} {to k i : Nat} (hS : S = s.extract 0 to) (hts : to ≤ s.size) (hk : k + 3 ≤ to) (hi : i + 3 ≤ to) : s.extract k (k + 3) = s.extract i (i + 3) ↔ th (byteS S) k = th (byteS S) i := by
  have hb : ∀ j, j < to → byteS S j = byteS s j := fun j hj => by rw [hS, byteS_ext s 0 to j hts (by omega), Nat.zero_add]
  have hx : ∀ a, a + 3 ≤ to → ∀ j, j < 3 → byteS (s.extract a (a + 3)) j = byteS S (a + j) := fun a ha j hj => by rw [byteS_ext s a (a + 3) j (by omega) (by omega), hb _ (by omega)]
  rw [th_eq (byteS_lt S)]
  constructor
  · intro e
    have h0 := hx k hk 0 (by decide); have h1 := hx k hk 1 (by decide); have h2 := hx k hk 2 (by decide)
    rw [e] at h0 h1 h2
    rw [hx i hi 0 (by decide)] at h0
    rw [hx i hi 1 (by decide)] at h1
    rw [hx i hi 2 (by decide)] at h2
    exact ⟨h0.symm, h1.symm, h2.symm⟩
  · rintro ⟨h0, h1, h2⟩
    refine text_same (by rw [ByteArray.size_extract, ByteArray.size_extract]; omega) fun j hj => ?_
    rw [ByteArray.size_extract] at hj
    rw [hx k hk j (by omega), hx i hi j (by omega)]
    have : j = 0 ∨ j = 1 ∨ j = 2 := by omega
    rcases this with rfl | rfl | rfl
    · exact h0
    · exact h1
    · exact h2
end Go.Proofs.Ytjdfdiejlmeeoaa
