/- The reference's answers of chapter 9, each in one statement; numbers of the laws. -/
import Derived.Test.YtmmkmbinmmfblaaHs
import Derived.Test.YtmmkmbinmmfblaaMC
namespace Go.Proofs.Ytmmkmbinmmfblaa
open Go.RowKit
/-- How many codes Codes answers. -/
def codesM (f : Nat → Int) (n : Nat) : Nat := if codesE f n = 0 then n else 0
theorem codesE_n {f : Nat → Int} {n : Nat} (h : codesE f n = 0) : n ≤ 300 := (codesE_zero h).1.2
theorem IS.nil0 (f : Nat → Int) (w : World) : IS none 0 0 f w := ⟨fun _ => ⟨rfl, rfl⟩, (fun a e => by cases e), (fun a e => by cases e), (fun i hi => by omega), (fun i hi => by omega)⟩
theorem rcodes9_any (p : Option Addr) (n cap : Nat) (f : Nat → Int) (w : World) (h : IS p n cap f w) (hn : n ≤ 17592186044416) :
    Calls Try.prog 15 #[.slice p n cap] w fun e w' => ∃ p2 c2, e = .returned (.tuple #[.slice p2 (codesM f n) c2, .int .i64 (codesE f n : Int)]) ∧ IS p2 (codesM f n) c2 (fun i => (codeN (toL f) n i : Int)) w' ∧ Below w.heap.size w w' := by
  by_cases he : codesE f n = 0
  · obtain ⟨⟨hok, hn3⟩, hk⟩ := codesE_zero he
    have e : codesM f n = n := by unfold codesM; rw [if_pos he]
    rw [e, he]
    exact (rcodes9_ok p n cap f w h hn3 hok hk).mono fun e w' ⟨h1, h2, h3⟩ => ⟨_, _, h1, h2, h3⟩
  · have e : codesM f n = 0 := by unfold codesM; rw [if_neg he]
    rw [e]
    exact (rcodes9_not p n cap f w h hn he).mono fun e w' ⟨h1, h2⟩ => ⟨none, 0, h1, IS.nil0 _ _, by rw [h2]; exact Below.refl _ _⟩
/-- Codes of lists that are a code. -/
theorem rnew9_any (p : Option Addr) (n cap : Nat) (f : Nat → Int) (w : World) (h : IS p n cap f w) (hn : n ≤ 17592186044416) :
    Calls Try.prog 17 #[.slice p n cap] w fun e w' => ∃ p1 c1 p2 c2 m, e = .returned (.tuple #[.agg #[.slice p1 m c1, .slice p2 m c2], .int .i64 (newE f n : Int)]) ∧ Below w.heap.size w w' ∧
      (newE f n = 0 → m = n ∧ n ≤ 300 ∧ okB f n = true ∧ IS p1 n c1 f w' ∧ IS p2 n c2 (fun i => (codeN (toL f) n i : Int)) w') := by
  by_cases he : codesE f n = 0
  · obtain ⟨⟨hok, hn3⟩, hk⟩ := codesE_zero he
    have good : ∀ {e : Ending} {w' : World}, (∃ p1 c1 p2 c2, e = .returned (.tuple #[.agg #[.slice p1 n c1, .slice p2 n c2], .int .i64 0]) ∧ IS p1 n c1 f w' ∧ IS p2 n c2 (fun i => (codeN (toL f) n i : Int)) w' ∧ Below w.heap.size w w') → newE f n = 0 →
        ∃ p1 c1 p2 c2 m, e = .returned (.tuple #[.agg #[.slice p1 m c1, .slice p2 m c2], .int .i64 (newE f n : Int)]) ∧ Below w.heap.size w w' ∧
          (newE f n = 0 → m = n ∧ n ≤ 300 ∧ okB f n = true ∧ IS p1 n c1 f w' ∧ IS p2 n c2 (fun i => (codeN (toL f) n i : Int)) w') := fun ⟨p1, c1, p2, c2, h1, h2, h3, h4⟩ h0 =>
      ⟨p1, c1, p2, c2, n, by rw [h0]; exact h1, h4, fun _ => ⟨rfl, hn3, hok, h2, h3⟩⟩
    by_cases h1 : kr (toL f) n = 32768
    · have h0 : newE f n = 0 := by unfold newE; rw [if_pos he, if_pos (.inl h1)]
      exact (rnew9_whole p n cap f w h he h1).mono fun e w' hq => good hq h0
    · by_cases h2 : kr (toL f) n = 0
      · have h0 : newE f n = 0 := by unfold newE; rw [if_pos he, if_pos (.inr (.inl h2))]
        exact (rnew9_none p n cap f w h he h2).mono fun e w' hq => good hq h0
      · by_cases h3 : sgl (toL f) n = 1
        · have h0 : newE f n = 0 := by unfold newE; rw [if_pos he, if_pos (.inr (.inr h3))]
          exact (rnew9_single p n cap f w h he h1 h2 h3).mono fun e w' hq => good hq h0
        · have h0 : newE f n = 2 := by unfold newE; rw [if_pos he, if_neg (by rintro (h | h | h); exact h1 h; exact h2 h; exact h3 h)]
          exact (rnew9_form p n cap f w h he h1 h2 h3).mono fun e w' ⟨hq, hb⟩ => ⟨none, 0, none, 0, 0, by rw [h0]; exact hq, hb, fun hh => by rw [h0] at hh; cases hh⟩
  · have h0 : newE f n = codesE f n := by unfold newE; rw [if_neg he]
    exact (rnew9_arg p n cap f w h hn he).mono fun e w' ⟨hq, hb⟩ => ⟨none, 0, none, 0, 0, by rw [h0]; exact hq, hb, fun hh => by rw [h0] at hh; exact absurd hh he⟩
/-- What Lengths answers: nothing, or lengths. -/
def lensV (f : Nat → Int) (n : Nat) (most : Int) : Option (Nat → Nat) := if okC f n = true ∧ n ≤ 300 ∧ ((9 ≤ most ∧ most ≤ 15) ∨ (most = 7 ∧ n ≤ 19)) then lenV 42 (toL f) n most.toNat else none
theorem lens_some {f : Nat → Int} {n : Nat} {most : Int} (hc : okC f n = true) (hn : n ≤ 300) (hM : okM most n) : ∃ l, lenV 42 (toL f) n most.toNat = some l := by
  refine lenV_some 42 (toL f) n most.toNat 40 (by omega) (fun i hi => ?_) ?_
  · have := okC_true.1 hc i hi
    unfold toL
    have e : (2 : Nat) ^ 40 = 1099511627776 := by decide
    omega
  · rcases hM with ⟨h1, h2⟩ | ⟨h1, h2⟩
    · have : 2 ^ 10 ≤ 2 ^ (most.toNat + 1) := Nat.pow_le_pow_right (by decide) (by omega)
      omega
    · subst h1
      show 2 * n < 2 ^ 8
      omega
set_option maxRecDepth 100000 in
/-- numbers, of two lists that are the same. -/
theorem numbers9_same (p : Option Addr) (n c : Nat) (f : Nat → Int) (q : Option Addr) (d : Nat) (g : Nat → Int) (w : World) (h : IS p n c f w) (h2 : IS q n d g w) (hn : n ≤ 17592186044416) (e : ∀ i, i < n → f i = g i) :
    Calls Try.prog 13 #[.slice p n c, .slice q n d] w fun e w' => e = .returned (.bool true) ∧ Below w.heap.size w w' := by
  go_enter Try.func13, Try.ntmps13
  go_wp2_with fail
  go_loopw [5] (fun i wr => ∃ k : Nat, k ≤ n ∧ i = .int .i64 (k : Int) ∧ Below w.heap.size w wr) (fun i _ => n - (intOf i).toNat)
  case atStart => exact ⟨0, by omega, rfl, Below.refl _ _⟩
  case round =>
    obtain ⟨k, hk, rfl, hb⟩ := hrel
    by_cases hlt : k < n
    · cases p with
      | none => have := (h.nil_ rfl).1; omega
      | some a =>
        cases q with
        | none => have := (h2.nil_ rfl).1; omega
        | some b =>
          have k0 := fun wx (hT : Below w.heap.size w wx) => (h.below hT).cell a rfl k hlt
          have k1 := fun wx (hT : Below w.heap.size w wx) => (h2.below hT).cell b rfl k hlt
          have he := e k hlt
          go_wp2_with fail
          refine wp_region_anyL (Two 1000 1001 fun _ _ wx => Below w.heap.size w wx) (by kernel_rfl) hb.drew ?_
          refine anyL_take (i := 0) (v := ?_) rfl (by kernel_rfl) (by kernel_rfl) (by kernel_rfl) (yl_other (by decide) (by decide) rfl (fun f1 f2 wx hT => ?_)) ?_; rotate_left
          · refine lands_value (w := wx) ?_ hT; go_simp <;> rfl
          simp only [pu]
          refine anyL_take (i := 1) (v := ?_) rfl (by kernel_rfl) (by kernel_rfl) (by kernel_rfl) (yl_other (by decide) (by decide) rfl (fun f1 f2 wx hT => ?_)) ?_; rotate_left
          · refine lands_value (w := wx) ?_ hT; go_simp <;> rfl
          simp only [pu]
          refine anyL_take (i := 2) (v := ?_) rfl (by kernel_rfl) (by kernel_rfl) (by kernel_rfl) (yl_other (by decide) (by decide) rfl (fun f1 f2 wx hT => ?_)) ?_; rotate_left
          · refine lands_value (w := wx) ?_ hT; go_simp <;> rfl
          simp only [pu]
          refine anyL_take (i := 3) (v := .int .i64 (f k)) rfl (by kernel_rfl) (by kernel_rfl) (by kernel_rfl) (yl_other (by decide) (by decide) rfl (fun f1 f2 wx hT => ?_)) ?_
          · have k := k0 wx hT; refine lands_value (w := wx) ?_ hT; go_simp
          simp only [pu]
          refine anyL_take (i := 4) (v := ?_) rfl (by kernel_rfl) (by kernel_rfl) (by kernel_rfl) (yl_other (by decide) (by decide) rfl (fun f1 f2 wx hT => ?_)) ?_; rotate_left
          · refine lands_value (w := wx) ?_ hT; go_simp <;> rfl
          simp only [pu]
          refine anyL_take (i := 5) (v := ?_) rfl (by kernel_rfl) (by kernel_rfl) (by kernel_rfl) (yl_other (by decide) (by decide) rfl (fun f1 f2 wx hT => ?_)) ?_; rotate_left
          · refine lands_value (w := wx) ?_ hT; go_simp <;> rfl
          simp only [pu]
          refine anyL_take (i := 6) (v := ?_) rfl (by kernel_rfl) (by kernel_rfl) (by kernel_rfl) (yl_other (by decide) (by decide) rfl (fun f1 f2 wx hT => ?_)) ?_; rotate_left
          · refine lands_value (w := wx) ?_ hT; go_simp <;> rfl
          simp only [pu]
          refine anyL_take (i := 7) (v := .int .i64 (f k)) rfl (by kernel_rfl) (by kernel_rfl) (by kernel_rfl) (yl_other (by decide) (by decide) rfl (fun f1 f2 wx hT => ?_)) ?_
          · have k := k1 wx hT; rw [← he] at k; refine lands_value (w := wx) ?_ hT; go_simp
          simp only [pu]
          refine anyL_take (i := 8) (v := .bool false) rfl (by kernel_rfl) (by kernel_rfl) (by kernel_rfl) (yl_other (by decide) (by decide) rfl (fun f1 f2 wx hT => ?_)) ?_
          · refine lands_value (w := wx) ?_ hT; go_simp; try rfl
          simp only [pu]
          refine anyL_done (by kernel_rfl) (fun w3 (hb3 : Below w.heap.size w w3) => ?_) _
          clear hb
          go_wp2_with fail
          go_roundw
          case rel => exact ⟨k + 1, by omega, by go_num, hb3⟩
          case measure => simp [intOf]; omega
    · obtain rfl : k = n := by omega
      go_wp2_with fail
      go_ret
      exact ⟨rfl, hb⟩
end Go.Proofs.Ytmmkmbinmmfblaa
