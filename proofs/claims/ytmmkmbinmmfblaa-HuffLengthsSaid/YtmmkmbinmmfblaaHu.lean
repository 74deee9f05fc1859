/- The reference's Lengths of chapter 9, in two statements. -/
import Derived.Test.YtmmkmbinmmfblaaHt
namespace Go.Proofs.Ytmmkmbinmmfblaa
open Go.RowKit
theorem lenV_15r {f : Nat → Int} {n : Nat} {most : Int} {l : Nat → Nat} (h : lensV f n most = some l) : ∀ i, i < n → l i ≤ 15 := fun i hi => by
  unfold lensV at h
  by_cases hc : okC f n = true ∧ n ≤ 300 ∧ ((9 ≤ most ∧ most ≤ 15) ∨ (most = 7 ∧ n ≤ 19))
  · rw [if_pos hc] at h
    obtain ⟨e, h1, h2, _⟩ := lenV_is 42 h
    rw [h1]
    have := lenO_le hi h2 (by omega)
    omega
  · rw [if_neg hc] at h; cases h
theorem rLens_not (p : Option Addr) (n cap : Nat) (f : Nat → Int) (most : Int) (w : World) (h : IS p n cap f w) (hn : n ≤ 300) (hl : lensV f n most = none) :
    Calls Try.prog 12 #[.slice p n cap, .int .i64 most] w fun e w' => e = .returned (.tuple #[.slice none 0 0, .bool false]) ∧ Below w.heap.size w w' := by
  by_cases hM : okM most n
  · have hc : okC f n = false := by
      cases e : okC f n with
      | false => rfl
      | true =>
        obtain ⟨l, h1⟩ := lens_some e hn hM
        unfold lensV at hl
        rw [if_pos ⟨e, hn, hM⟩, h1] at hl
        cases hl
    exact rLengths9_bad p n cap f most w h hM hn hc
  · exact (rLengths9_limit p n cap most w (fun hh => hM hh.2) (by omega)).mono fun e w' ⟨h1, h2⟩ => ⟨h1, by rw [h2]; exact Below.refl _ _⟩
theorem rLens (p : Option Addr) (n cap : Nat) (f : Nat → Int) (most : Int) (w : World) (h : IS p n cap f w) (hn : n ≤ 300) (l : Nat → Nat) (hl : lensV f n most = some l) :
    Calls Try.prog 12 #[.slice p n cap, .int .i64 most] w fun e w' => ∃ p2 c2, e = .returned (.tuple #[.slice p2 n c2, .bool true]) ∧ IS p2 n c2 (fun i => (l i : Int)) w' ∧ Below w.heap.size w w' := by
  have h15 := lenV_15r hl
  unfold lensV at hl
  by_cases hc : okC f n = true ∧ n ≤ 300 ∧ ((9 ≤ most ∧ most ≤ 15) ∨ (most = 7 ∧ n ≤ 19))
  · rw [if_pos hc] at hl
    exact (rLengths9_ok p n cap f most w h hc.2.2 hn hc.1 l hl).mono fun e w' ⟨g, h1, h2, _, h4⟩ => ⟨_, _, h1, IS.row h2 (fun i hi => by omega) (fun i hi => by have := h15 i hi; omega), h4⟩
  · rw [if_neg hc] at hl; cases hl
end Go.Proofs.Ytmmkmbinmmfblaa
