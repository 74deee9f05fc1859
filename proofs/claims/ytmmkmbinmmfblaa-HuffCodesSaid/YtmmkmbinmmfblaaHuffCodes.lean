/- HuffCodes: the walk. -/
import Derived.Test.YtmmkmbinmmfblaaVb9
namespace Go.Proofs.Ytmmkmbinmmfblaa
open Go.RowKit
set_option maxRecDepth 100000 in
set_option maxHeartbeats 1000000 in
theorem huffCodes_any (p : Option Addr) (n cap : Nat) (f : Nat → Int) (w : World) (h : IS p n cap f w) (hn : n ≤ 17592186044416) :
    Calls Try.prog 4 #[.slice p n cap] w fun e w' => e = .returned (.bool true) ∧ Below w.heap.size w w' := by
  have hM : codesM f n ≤ 17592186044416 := by unfold codesM; split <;> omega
  have C1 := Lib.hid (fun w h => codes_huff p n cap f w h hn)
  have C2 := Lib.hid (fun w h => rcodes9_any p n cap f w h hn)
  generalize codesE f n = E at *
  generalize codesM f n = M at *
  go_enter Try.func4, Try.ntmps4
  go_wp2_with fail
  refine (examples9_any _).mono ?_
  rintro e w1 ⟨rfl, b1⟩
  have I1 := Lib.hid (h.below b1)
  go_wp2_with fail
  refine (C1.out _ I1.out).mono ?_
  rintro e w2 ⟨p2, c2, rfl, i2, b2⟩
  have I2 := Lib.hid (I1.out.below b2)
  have J2 := Lib.hid i2
  have d2 := b1.trans (b2.mono b1.size)
  clear b1 b2 i2
  go_wp2_with fail
  refine (C2.out _ I2.out).mono ?_
  rintro e w3 ⟨p3, c3, rfl, i3, b3⟩
  have J3 := Lib.hid (J2.out.below b3)
  have K3 := Lib.hid i3
  have d3 := d2.trans (b3.mono d2.size)
  clear d2 b3 i3
  go_wp2_with fail
  refine (numbers9_same p2 M c2 _ p3 c3 _ _ J3.out K3.out hM (fun _ _ => rfl)).mono ?_
  rintro e w4 ⟨rfl, b4⟩
  have d4 := d3.trans (b4.mono d3.size)
  clear d3 b4
  go_wp2_with fail
  go_ret
  exact ⟨rfl, d4⟩
end Go.Proofs.Ytmmkmbinmmfblaa
