/- Mul64 and cube. -/
import Derived.Test.YtmpklbjbdnocoaaRows
import Derived.Test.YtmpklbjbdnocoaaWords
namespace Go.Proofs.Ytmpklbjbdnocoaa
open Go.RowKit
def m32 : BitVec 64 := litw 64 4294967295
def mulT (x y : BitVec 64) : BitVec 64 :=
  addw (mulw (shrw x 32) (andw y m32)) (shrw (mulw (andw x m32) (andw y m32)) 32)
def mulHi (x y : BitVec 64) : BitVec 64 :=
  addw (addw (mulw (shrw x 32) (shrw y 32)) (shrw (mulT x y) 32)) (shrw (addw (andw (mulT x y) m32) (mulw (andw x m32) (shrw y 32))) 32)
set_option maxHeartbeats 400000 in
theorem mul64_any (x y : BitVec 64) (w : World) :
    Calls Try.prog 30 #[.int .u64 (iw x), .int .u64 (iw y)] w fun e w' => e = .returned (.tuple #[.int .u64 (iw (mulHi x y)), .int .u64 (iw (mulw x y))]) ∧ w = w' := by
  have hm : ∀ x : BitVec 64, bits .and .u64 (iw x) 4294967295 = iw (andw x m32) := fun x => and64_lit x _
  go_enter Try.func30, Try.ntmps30
  go_wp2
  go_ret2
  exact ⟨rfl, rfl⟩
def cubeS (x : BitVec 64) : BitVec 64 := addw (mulw (mulHi x x) x) (mulHi (mulw x x) x)
set_option maxHeartbeats 400000 in
theorem cube_any (x : BitVec 64) (w : World) :
    Calls Try.prog 31 #[.int .u64 (iw x)] w fun e w' => e = .returned (.int .u64 (iw (cubeS x))) ∧ w = w' := by
  go_enter Try.func31, Try.ntmps31
  go_wp2_with (go_at_call 30; refine (mul64_any _ _ _).mono ?_; rintro e w' ⟨rfl, rfl⟩)
  go_ret
  exact ⟨rfl, rfl⟩
end Go.Proofs.Ytmpklbjbdnocoaa
