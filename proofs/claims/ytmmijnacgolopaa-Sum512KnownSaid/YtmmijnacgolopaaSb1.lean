/- The leaves of sum512: turned, turns. -/
import Derived.Test.YtmmijnacgolopaaRows
import Derived.Test.YtmmijnacgolopaaWords
namespace Go.Proofs.Ytmmijnacgolopaa
open Go.RowKit

/-- x turned right by k, as the program reckons it. -/
def rotr (x : BitVec 64) (k : Nat) : BitVec 64 := orw (shlw x (64 - k)) (shrw x k)

set_option maxHeartbeats 400000 in
theorem rotateLeft64_any (x : BitVec 64) (k : Nat) (w : World) (h0 : 1 ≤ k) (h1 : k ≤ 63) :
    Calls Try.prog 34 #[.int .u64 (iw x), .int .i64 (-(k : Int))] w fun e w' => e = .returned (.int .u64 (iw (rotr x k))) ∧ w = w' := by
  have hs : bits .and .u64 (IntKind.u64.wrap (-(k : Int))) 63 = ((64 - k : Nat) : Int) := by
    have : IntKind.u64.wrap (-(k : Int)) = ((18446744073709551616 - k : Nat) : Int) := by rw [IntKind.wrap_u64]; omega
    rw [this, show (63 : Int) = ((63 : Nat) : Int) from rfl, u64_and_nat _ _ (by omega) (by omega), nat_mask6]
    omega
  have hq : IntKind.u64.wrap (64 - ((64 - k : Nat) : Int)) = ((k : Nat) : Int) := by rw [IntKind.wrap_u64]; omega
  go_enter Try.func34, Try.ntmps34
  go_wp2
  go_ret
  exact ⟨rfl, rfl⟩

set_option maxHeartbeats 400000 in
theorem turned_any (x : BitVec 64) (k : Nat) (w : World) (h0 : 1 ≤ k) (h1 : k ≤ 63) :
    Calls Try.prog 31 #[.int .u64 (iw x), .int .i64 (k : Int)] w fun e w' => e = .returned (.int .u64 (iw (rotr x k))) ∧ w = w' := by
  go_enter Try.func31, Try.ntmps31
  go_wp2_with (go_at_call 34; refine (rotateLeft64_any _ _ _ h0 h1).mono ?_; rintro e w' ⟨rfl, rfl⟩)
  go_ret
  exact ⟨rfl, rfl⟩

def rot3 (x : BitVec 64) (i j k : Nat) : BitVec 64 := xorw (xorw (rotr x i) (rotr x j)) (rotr x k)
set_option maxHeartbeats 400000 in
theorem turns_any (x : BitVec 64) (i j k : Nat) (w : World) (h0 : 1 ≤ i ∧ i ≤ 63) (h1 : 1 ≤ j ∧ j ≤ 63) (h2 : 1 ≤ k ∧ k ≤ 63) :
    Calls Try.prog 28 #[.int .u64 (iw x), .int .i64 (i : Int), .int .i64 (j : Int), .int .i64 (k : Int)] w fun e w' => e = .returned (.int .u64 (iw (rot3 x i j k))) ∧ w = w' := by
  go_enter Try.func28, Try.ntmps28
  go_wp2_with (go_at_call 31; refine (turned_any _ _ _ (by omega) (by omega)).mono ?_; rintro e w' ⟨rfl, rfl⟩)
  go_ret
  exact ⟨rfl, rfl⟩

theorem turned_int (x : BitVec 64) (k : Int) (w : World) (h0 : 1 ≤ k) (h1 : k ≤ 63) :
    Calls Try.prog 31 #[.int .u64 (iw x), .int .i64 k] w fun e w' => e = .returned (.int .u64 (iw (rotr x k.toNat))) ∧ w = w' := by
  obtain ⟨n, rfl⟩ := Int.eq_ofNat_of_zero_le (show 0 ≤ k by omega)
  exact turned_any x n w (by omega) (by omega)
theorem turns_int (x : BitVec 64) (i j k : Int) (w : World) (h0 : 1 ≤ i ∧ i ≤ 63) (h1 : 1 ≤ j ∧ j ≤ 63) (h2 : 1 ≤ k ∧ k ≤ 63) :
    Calls Try.prog 28 #[.int .u64 (iw x), .int .i64 i, .int .i64 j, .int .i64 k] w fun e w' => e = .returned (.int .u64 (iw (rot3 x i.toNat j.toNat k.toNat))) ∧ w = w' := by
  obtain ⟨a, rfl⟩ := Int.eq_ofNat_of_zero_le (show 0 ≤ i by omega)
  obtain ⟨b, rfl⟩ := Int.eq_ofNat_of_zero_le (show 0 ≤ j by omega)
  obtain ⟨c, rfl⟩ := Int.eq_ofNat_of_zero_le (show 0 ≤ k by omega)
  exact turns_any x a b c w (by omega) (by omega) (by omega)
theorem turns_q (x : BitVec 64) (i j k : Nat) (w : World) (h0 : 1 ≤ i ∧ i ≤ 63) (h1 : 1 ≤ j ∧ j ≤ 63) (h2 : 1 ≤ k ∧ k ≤ 63) :
    Calls Try.prog 28 #[.int .u64 (iw x), .int .i64 (i : Int), .int .i64 (j : Int), .int .i64 (k : Int)] w fun e w' => e = .returned (.int .u64 (iw (rot3 x i j k))) ∧ w' = w :=
  (turns_any x i j k w h0 h1 h2).mono fun _ _ ⟨he, hw⟩ => ⟨he, hw.symm⟩
end Go.Proofs.Ytmmijnacgolopaa
