/- Sum512Known: the walk. -/
import Derived.Test.YtmmijnacgolopaaSha512Bytes
import Derived.Laws.OwnMore
namespace Go.Proofs.Ytmmijnacgolopaa
open Go.RowKit
def noHex : List UInt8 := [99, 102, 56, 51, 101, 49, 51, 53, 55, 101, 101, 102, 98, 56, 98, 100, 102, 49, 53, 52, 50, 56, 53, 48, 100, 54, 54, 100, 56, 48, 48, 55, 100, 54, 50, 48, 101, 52, 48, 53, 48, 98, 53, 55, 49, 53, 100, 99, 56, 51, 102, 52, 97, 57, 50, 49, 100, 51, 54, 99, 101, 57, 99, 101, 52, 55, 100, 48, 100, 49, 51, 99, 53, 100, 56, 53, 102, 50, 98, 48, 102, 102, 56, 51, 49, 56, 100, 50, 56, 55, 55, 101, 101, 99, 50, 102, 54, 51, 98, 57, 51, 49, 98, 100, 52, 55, 52, 49, 55, 97, 56, 49, 97, 53, 51, 56, 51, 50, 55, 97, 102, 57, 50, 55, 100, 97, 51, 101]
theorem made_zero (m : Nat) : (madeCells (Value.int .u8 0).cells (m * 1)).toList = (List.replicate m (litw 8 0)).map b8v := by
  rw [Nat.mul_one, List.map_replicate, ← b0]
  exact toList_madeCells_one _ m
theorem no_sum : asBytes (hexL (H0.write []).out) = noHex := by decide +kernel
set_option maxRecDepth 100000 in
set_option maxHeartbeats 1000000 in
theorem known_any (n : Int) (w : World) (n0 : 0 ≤ n) (n1 : n ≤ 255) :
    Calls Try.prog 6 #[.int .u8 n] w fun e w' => e = .returned (.bool true) ∧ Below w.heap.size w w' := by
  have habc := Lib.hid no_sum
  obtain ⟨m, rfl⟩ := Int.eq_ofNat_of_zero_le n0
  obtain ⟨i0, hi, hz0, hz1, hz2⟩ := info_parts u8_info
  go_enter Try.func6, Try.ntmps6
  go_wp2_with (first
    | (go_at_call 8; refine (examples_any _).mono ?_; rintro e w1 ⟨rfl, b1⟩)
    | (at_make; refine wpList_make_full _ rfl (.tmp 9) (.tmp 9) 33 rfl w.heap.size 5 i0 (.int .u8 0) 1 Try.underlying33 hi hz0 hz1 .i64 .i64 (m : Int) (m : Int) m rfl rfl rfl rfl (by rw [hz2]; omega) (by unfold maxLen; omega) b1.size ?_; intro w2 hown hg2; have b2 : Below w.heap.size w w2 := b1.grown hg2 b1.size (by simp); rw [made_zero] at hown; have hcv : (convert 33 9 (.slice (some ⟨w1.heap.size, 0, none⟩) m m)).run Try.prog w2 = .ok (.string ⟨(asBytes (List.replicate m (litw 8 0))).toArray⟩) w2 := run_string_of_own w2 _ _ 5 _ Try.underlying33 Try.underlying5 Try.underlying9 _ _ _ hown; clear hown hg2 b1)
    | fail)
  have hs : (⟨(asBytes (List.replicate m (litw 8 0))).toArray⟩ : ByteArray).size ≤ 255 := by
    show (asBytes (List.replicate m (litw 8 0))).toArray.size ≤ 255
    simp [asBytes]; omega
  generalize (⟨(asBytes (List.replicate m (litw 8 0))).toArray⟩ : ByteArray) = t at hs ⊢
  clear hcv
  refine (one_any ⟨#[]⟩ w2 (by decide)).mono ?_
  rintro e w4 ⟨rfl, b4⟩
  have b4' := b2.trans (b4.mono b2.size)
  clear b2 b4
  go_wp2_with fail
  refine (hex_any _ w4 (by rw [out_size]; decide)).mono ?_
  rintro e w5 ⟨rfl, b5⟩
  have b5' := b4'.trans (b5.mono b4'.size)
  clear b4' b5
  rw [show asBytes (hexL (⟨(H0.write (⟨#[]⟩ : ByteArray).data.toList).out.toArray⟩ : ByteArray).data.toList) = _ from habc.out]
  go_wp2_with fail
  refine (one_any t w5 (by omega)).mono ?_
  rintro e w6 ⟨rfl, b6⟩
  have b6' := b5'.trans (b6.mono b5'.size)
  have hl := out_size (H0.write t.data.toList)
  clear b5' b6
  go_wp2_with fail
  refine (one_any t w6 (by omega)).mono ?_
  rintro e w7 ⟨rfl, b7⟩
  have b7' := b6'.trans (b7.mono b6'.size)
  clear b6' b7
  go_wp2_with fail
  refine (one_any t w7 (by omega)).mono ?_
  rintro e w8 ⟨rfl, b8⟩
  have b8' := b7'.trans (b8.mono b7'.size)
  clear b7' b8
  go_wp2_with fail
  go_ret
  exact ⟨rfl, b8'⟩
end Go.Proofs.Ytmmijnacgolopaa
