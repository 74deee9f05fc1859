/- InflateOpens: the law's walk. -/
import Derived.Test.YtiphnnaanjjaoaaMV
import Derived.Test.YtiphnnaanjjaoaaMZ
namespace Go.Proofs.Ytiphnnaanjjaoaa
open Go.RowKit
set_option maxRecDepth 100000 in
set_option maxHeartbeats 8000000 in
theorem inflateOpens_any (s : ByteArray) (most : Int) (hs : s.size ≤ 140737488351232) (w : World) (hT : TB w) : Calls Try.prog 3 #[.string s, .int .i64 most] w fun e w' => e = .returned (.bool true) ∧ Below w.heap.size w w' := by
  have C := ex10_any w hT
  have HO : Hid (∀ (K : Int) wx, TB wx → ∃ (A : ByteArray) (n e0 : Nat), Calls Try.prog 10 #[.string s, .int .i64 K] wx (fun e w' => e = .returned (.tuple #[.string A, .int .i64 (n : Int), .int .i64 (e0 : Int)]) ∧ Below wx.heap.size wx w') ∧
      ∀ wy, Calls Try.prog 11 #[.string s, .int .i64 K] wy (fun e w' => e = .returned (.tuple #[.string A, .int .i64 (n : Int), .int .i64 (e0 : Int)]) ∧ Below wy.heap.size wy w')) := Lib.hid fun K wx h => ⟨_, _, _, dopen_any s K wx h (by omega), fun wy => ropen10_any s K wy (by omega)⟩
  have hor : ¬ most > 3000 ∨ (most > 3000 ∧ most ≤ 1048576) ∨ (most > 3000 ∧ ¬ most ≤ 1048576) := by omega
  have HTB := Lib.hid hT
  clear hT hs
  rcases hor with h1 | ⟨h1, h2⟩ | ⟨h1, h2⟩
  all_goals
    go_enter Try.func3, Try.ntmps3
    go_wp2_with fail
    refine C.mono ?_
    rintro e w1 ⟨rfl, b1⟩
    have HB := Lib.hid b1
    clear C b1
    go_wp2_with fail
    obtain ⟨A, n, e0, O1, O2⟩ := HO.out _ w1 (HTB.out.below HB.out)
    have HO2 := Lib.hid O2
    clear O2
    refine O1.mono ?_
    rintro e w2 ⟨rfl, b2⟩
    have HB2 := Lib.hid (HB.out.trans (b2.mono HB.out.size))
    clear O1 b2
    go_wp2_with fail
    refine (HO2.out w2).mono ?_
    rintro e w3 ⟨rfl, b3⟩
    have HB3 := Lib.hid (HB2.out.trans (b3.mono HB2.out.size))
    have hself : (A.data.toList == A.data.toList) = true := by simp
    clear b3
    go_wp2_with fail
    go_ret
    exact ⟨rfl, HB3.out⟩
end Go.Proofs.Ytiphnnaanjjaoaa
