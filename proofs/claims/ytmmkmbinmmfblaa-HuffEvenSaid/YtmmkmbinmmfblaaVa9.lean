/- Layer 9: the contracts of the developers' Codes, New, Next. -/
import Derived.Test.YtmmkmbinmmfblaaJh
import Derived.Test.YtmmkmbinmmfblaaHt
namespace Go.Proofs.Ytmmkmbinmmfblaa
open Go.RowKit
theorem lenV_15 {f : Nat → Int} {n : Nat} {most : Int} {l : Nat → Nat} (h : lensV f n most = some l) : ∀ i, i < n → l i ≤ 15 := fun i hi => by
  unfold lensV at h
  by_cases hc : okC f n = true ∧ n ≤ 300 ∧ ((9 ≤ most ∧ most ≤ 15) ∨ (most = 7 ∧ n ≤ 19))
  · rw [if_pos hc] at h
    obtain ⟨e, h1, h2, _⟩ := lenV_is 42 h
    rw [h1]
    have := lenO_le hi h2 (by omega)
    omega
  · rw [if_neg hc] at h; cases h
end Go.Proofs.Ytmmkmbinmmfblaa
