/- Layer 9: the chapter's examples. -/
import Derived.Test.YtmmkmbinmmfblaaVa9
namespace Go.Proofs.Ytmmkmbinmmfblaa
open Go.RowKit
/-- 2, 1, 3, 3. -/
def exF (i : Nat) : Int := if i = 0 then 2 else if i = 1 then 1 else if i = 2 then 3 else if i = 3 then 3 else 0
def exC (i : Nat) : Int := if i = 0 then 2 else if i = 1 then 0 else if i = 2 then 6 else if i = 3 then 7 else 0
theorem ex_e : codesE exF 4 = 0 := by decide +kernel
theorem ex_m : codesM exF 4 = 4 := by decide +kernel
theorem ex_n : newE exF 4 = 0 := by decide +kernel
theorem ex_c : ∀ i, i < 4 → ((codeN (toL exF) 4 i : Nat) : Int) = exC i := by decide +kernel
def exS : ByteArray := ⟨#[7]⟩
theorem ex_r : nextV (toL exF) 4 (bitH ⟨#[7]⟩) (8 * (⟨#[7]⟩ : ByteArray).size) 0 0 15 = (3, 3, 0) := by decide +kernel
theorem IS.four {w : World} {t : TypeId} {a b c d : Int} {f : Nat → Int} (ha : f 0 = a) (hb : f 1 = b) (hc : f 2 = c) (hd : f 3 = d) (lo : ∀ i, i < 4 → -9223372036854775808 ≤ f i) (hi : ∀ i, i < 4 → f i < 9223372036854775808) {w0 : World} (e : w = w0.alloc (.cells #[.int .i64 a, .int .i64 b, .int .i64 c, .int .i64 d] t)) :
    IS (some ⟨w0.heap.size, 0, none⟩) 4 4 f w := by
  subst e
  refine IS.row (t := t) ((Blk.new w0 t _).cast_ ?_) lo hi
  subst ha hb hc hd
  rfl
theorem ex_lo : ∀ i, i < 4 → -9223372036854775808 ≤ exF i := by decide
theorem ex_hi : ∀ i, i < 4 → exF i < 9223372036854775808 := by decide
theorem ex_lo2 : ∀ i, i < 4 → -9223372036854775808 ≤ exC i := by decide
theorem ex_hi2 : ∀ i, i < 4 → exC i < 9223372036854775808 := by decide
theorem IS.cast {p : Option Addr} {n cap : Nat} {f g : Nat → Int} {w : World} (h : IS p n cap f w) (e : ∀ i, i < n → f i = g i) : IS p n cap g w :=
  ⟨h.nil_, fun a ha i hi => by rw [← e i hi]; exact h.cell a ha i hi, h.lt, fun i hi => by rw [← e i hi]; exact h.lo i hi, fun i hi => by rw [← e i hi]; exact h.hi i hi⟩
theorem ex_codes (w : World) :
    Calls Try.prog 14 #[.slice (some ⟨w.heap.size, 0, none⟩) 4 4] (w.alloc (.cells #[.int .i64 2, .int .i64 1, .int .i64 3, .int .i64 3] 3)) fun e w' => ∃ p2 c2, e = .returned (.tuple #[.slice p2 4 c2, .int .i64 0]) ∧ IS p2 4 c2 exC w' ∧ Below w.heap.size w w' := by
  have C := codes_huff (some ⟨w.heap.size, 0, none⟩) 4 4 exF _ (IS.four (t := 3) (w0 := w) rfl rfl rfl rfl ex_lo ex_hi rfl) (by decide)
  rw [ex_e, ex_m] at C
  exact C.mono fun e w' ⟨p2, c2, h1, h2, h3⟩ => ⟨p2, c2, h1, h2.cast ex_c, ((Below.refl _ w).alloc (Nat.le_refl _) _).trans (h3.mono (by simp))⟩
theorem ex_new (w : World) :
    Calls Try.prog 16 #[.slice (some ⟨w.heap.size, 0, none⟩) 4 4] (w.alloc (.cells #[.int .i64 2, .int .i64 1, .int .i64 3, .int .i64 3] 3)) fun e w' => ∃ v, e = .returned (.tuple #[v, .int .i64 0]) ∧ CodeV v exF 4 w' ∧ Below w.heap.size w w' := by
  have C := new_huff (some ⟨w.heap.size, 0, none⟩) 4 4 exF _ (IS.four (t := 3) (w0 := w) rfl rfl rfl rfl ex_lo ex_hi rfl) (by decide) ex_n
  exact C.mono fun e w' ⟨v, h1, h2, h3⟩ => ⟨v, h1, h2, ((Below.refl _ w).alloc (Nat.le_refl _) _).trans (h3.mono (by simp))⟩
set_option maxRecDepth 100000 in
set_option maxHeartbeats 1000000 in
theorem examples9_any (w : World) :
    Calls Try.prog 10 #[] w fun e w' => e = .returned (.bool true) ∧ Below w.heap.size w w' := by
  have C1 := Lib.hid ex_codes
  have C2 := Lib.hid ex_new
  have C3 := Lib.hid (fun v w h => next_huff v exF 4 ⟨#[7]⟩ 0 w h (by decide) (by decide) _ ex_r)
  go_enter Try.func10, Try.ntmps10
  go_wp2_with fail
  refine (C1.out _).mono ?_
  rintro e w1 ⟨p2, c2, rfl, i1, b1⟩
  have I1 := Lib.hid i1
  clear i1
  go_wp2_with fail
  refine (C2.out _).mono ?_
  rintro e w2 ⟨v, rfl, k2, b2⟩
  obtain ⟨a, rfl⟩ := k2.some
  have c2' := b1.trans (b2.mono b1.size)
  have I2 := Lib.hid (I1.out.below b2)
  have K2 := Lib.hid k2
  clear b1 b2 k2 I1
  go_wp2_with fail
  refine (C3.out _ _ K2.out).mono ?_
  rintro e w3 ⟨rfl, b3⟩
  have c3 := c2'.trans (b3.mono c2'.size)
  have I3 := Lib.hid (I2.out.below b3)
  clear b3 c2' I2 K2
  go_wp2_with fail
  refine (numbers9_same p2 4 c2 exC (some ⟨w3.heap.size, 0, none⟩) 4 exC _ (I3.out.below ((Below.refl _ w3).alloc (Nat.le_refl _) _)) (IS.four (t := 3) (w0 := w3) rfl rfl rfl rfl ex_lo2 ex_hi2 rfl) (by decide) (fun _ _ => rfl)).mono ?_
  rintro e w4 ⟨rfl, b4⟩
  have c4 := c3.trans ((((Below.refl _ w3).alloc (Nat.le_refl _) _).trans (b4.mono (by simp))).mono c3.size)
  clear b4 c3 I3
  go_wp2_with fail
  go_ret
  exact ⟨rfl, c4⟩
end Go.Proofs.Ytmmkmbinmmfblaa
