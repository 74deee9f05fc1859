/- InflateSymbols: the law's walk. -/
import Derived.Test.YtiphnnaanjjaoaaMZ
import Derived.Test.YtiphnnaanjjaoaaMX
namespace Go.Proofs.Ytiphnnaanjjaoaa
open Go.RowKit
set_option maxRecDepth 100000 in
set_option maxHeartbeats 4000000 in
theorem inflateSymbols_any (x : Int) (w : World) (hT : TB w) : Calls Try.prog 4 #[.int .i64 x] w fun e w' => e = .returned (.bool true) ∧ Below w.heap.size w w' := by
  have C := ex10_any w hT
  have L1 := dlength_any x
  have L2 := rlength_any x
  have L3 := ddist_any x
  have L4 := rdist_any x
  generalize lengthV x = a at *
  generalize distV x = b at *
  obtain ⟨a1, a2, a3⟩ := a
  obtain ⟨b1, b2, b3⟩ := b
  clear hT
  go_enter Try.func4, Try.ntmps4
  go_wp2_with fail
  refine C.mono ?_
  rintro e w1 ⟨rfl, b1'⟩
  have HB := Lib.hid b1'
  clear C b1'
  go_wp2_with fail
  refine (L1 w1).mono ?_
  rintro e w2 ⟨rfl, rfl⟩
  go_wp2_with fail
  refine (L2 w2).mono ?_
  rintro e w3 ⟨rfl, rfl⟩
  go_wp2_with fail
  refine (L3 w3).mono ?_
  rintro e w4 ⟨rfl, rfl⟩
  go_wp2_with fail
  refine (L4 w4).mono ?_
  rintro e w5 ⟨rfl, rfl⟩
  clear L1 L2 L3 L4
  cases a3
  all_goals
    cases b3
    all_goals
      go_wp2_with fail
      go_ret
      exact ⟨rfl, HB.out⟩
end Go.Proofs.Ytiphnnaanjjaoaa
