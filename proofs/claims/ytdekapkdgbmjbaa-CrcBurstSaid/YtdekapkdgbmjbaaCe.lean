/- Layer 8: the chapter's examples. -/
import Derived.Test.YtdekapkdgbmjbaaVa8
namespace Go.Proofs.Ytdekapkdgbmjbaa
open Go.RowKit
def digs : ByteArray := ⟨#[49, 50, 51, 52, 53, 54, 55, 56, 57]⟩
theorem digs_sum : moreT 0#32 ⟨#[49, 50, 51, 52, 53, 54, 55, 56, 57]⟩ = litw 32 3421780262 := by decide +kernel
theorem digs_one : moreT 0#32 ⟨#[49, 50, 51, 52]⟩ = litw 32 2615402659 := by decide +kernel
theorem digs_two : moreT (litw 32 2615402659) ⟨#[53, 54, 55, 56, 57]⟩ = litw 32 3421780262 := by decide +kernel
theorem eq_self8 (x : BitVec 32) : (iw x == iw x) = true := by simp
set_option maxRecDepth 100000 in
set_option maxHeartbeats 1000000 in
theorem examples8_any (w : World) :
    Calls Try.prog 8 #[] w fun e w' => e = .returned (.bool true) ∧ Below w.heap.size w w' := by
  have C1 := sum_crc ⟨#[49, 50, 51, 52, 53, 54, 55, 56, 57]⟩ (by decide) _ digs_sum
  have C2 := sum_crc ⟨#[49, 50, 51, 52]⟩ (by decide) _ digs_one
  have C3 := more_crc (litw 32 2615402659) ⟨#[53, 54, 55, 56, 57]⟩ (by decide) _ digs_two
  have e1 : iw (litw 32 3421780262) = 3421780262 := by unfold iw litw; rfl
  rw [e1] at C1 C3
  have C1 := Lib.hid C1
  have C2 := Lib.hid C2
  have C3 := Lib.hid C3
  generalize litw 32 2615402659 = x at *
  clear e1
  go_enter Try.func8, Try.ntmps8
  go_wp2_with fail
  refine (C1.out _).mono ?_
  rintro e w1 ⟨rfl, b1⟩
  go_wp2_with fail
  refine (C2.out _).mono ?_
  rintro e w2 ⟨rfl, b2⟩
  go_wp2_with fail
  refine (C3.out _).mono ?_
  rintro e w3 ⟨rfl, b3⟩
  go_wp2_with fail
  go_ret
  exact ⟨rfl, (b1.trans (b2.mono b1.size)).trans (b3.mono (Nat.le_trans b1.size b2.size))⟩
end Go.Proofs.Ytdekapkdgbmjbaa
