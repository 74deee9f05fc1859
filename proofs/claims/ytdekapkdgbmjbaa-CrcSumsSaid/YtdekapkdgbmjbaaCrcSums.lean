/- CrcSums: the walk. -/
import Derived.Test.YtdekapkdgbmjbaaCe
namespace Go.Proofs.Ytdekapkdgbmjbaa
open Go.RowKit
set_option maxRecDepth 100000 in
set_option maxHeartbeats 1000000 in
theorem crcSums_any (s : ByteArray) (a b : BitVec 32) (size : Int) (hs : s.size ≤ 140737488351232) (w : World) :
    Calls Try.prog 3 #[.string s, .int .u32 (iw a), .int .u32 (iw b), .int .i64 size] w fun e w' => e = .returned (.bool true) ∧ Below w.heap.size w w' := by
  obtain ⟨t, ht⟩ : ∃ t, s.extract 0 (min s.size 2000) = t := ⟨_, rfl⟩
  obtain ⟨z, hz⟩ : ∃ z, min size 3000 = z := ⟨_, rfl⟩
  have hts : t.size ≤ 140737488351232 := by rw [← ht, ByteArray.size_extract]; omega
  have HT := Lib.hid ht
  have HZ := Lib.hid hz
  have C1 := Lib.hid (sum_crc t hts _ rfl)
  have C2 := Lib.hid (fun w => rsum8_any t w hts)
  have C3 := Lib.hid (more_crc a t hts _ rfl)
  have C4 := Lib.hid (fun w => rmore8_any a t w hts)
  have C5 := Lib.hid (join_crc a b z _ rfl)
  have C6 := Lib.hid (fun w => rjoin8_any a b z w)
  generalize moreT 0#32 t = x1 at *
  generalize moreT a t = x2 at *
  generalize joinT a b (sizeJ z) = x3 at *
  clear hs hts ht hz
  go_enter Try.func3, Try.ntmps3
  go_wp2_with fail
  refine (examples8_any _).mono ?_
  rintro e w1 ⟨rfl, b1⟩
  go_wp2_with (first | (refine wpList_valK (.int .i64 ((min s.size 2000 : Nat) : Int)) rfl (lands_min (.tmp 15) s.size 2000 rfl rfl rfl) ?_; rintro _ rfl) | (refine wpList_valK (.int .i64 (min size 3000)) rfl (lands_minI (.tmp 18) size 3000 rfl rfl rfl) ?_; rintro _ rfl))
  rw [HT.out, HZ.out]
  refine (C1.out _).mono ?_
  rintro e w2 ⟨rfl, b2⟩
  have c2 := b1.trans (b2.mono b1.size)
  clear b1 b2
  go_wp2_with fail
  refine (C2.out _).mono ?_
  rintro e w3 ⟨rfl, rfl⟩
  go_wp2_with fail
  refine (C3.out _).mono ?_
  rintro e w4 ⟨rfl, b4⟩
  have c4 := c2.trans (b4.mono c2.size)
  clear c2 b4
  go_wp2_with fail
  refine (C4.out _).mono ?_
  rintro e w5 ⟨rfl, rfl⟩
  go_wp2_with fail
  refine (C5.out _).mono ?_
  rintro e w6 ⟨rfl, b6⟩
  have c6 := c4.trans (b6.mono c4.size)
  clear c4 b6
  go_wp2_with fail
  refine (C6.out _).mono ?_
  rintro e w7 ⟨rfl, b7⟩
  have c7 := c6.trans (b7.mono c6.size)
  clear c6 b7
  go_wp2_with fail
  go_ret
  exact ⟨rfl, c7⟩
theorem crcSums_int (s : ByteArray) (x y size : Int) (w : World) (hs : s.size ≤ 140737488351232) (x0 : 0 ≤ x) (x1 : x < 4294967296) (y0 : 0 ≤ y) (y1 : y < 4294967296) :
    Calls Try.prog 3 #[.string s, .int .u32 x, .int .u32 y, .int .i64 size] w fun e w' => e = .returned (.bool true) ∧ Below w.heap.size w w' := by
  obtain ⟨a, rfl⟩ := iw_of32 x0 x1
  obtain ⟨b, rfl⟩ := iw_of32 y0 y1
  exact crcSums_any s a b size hs w
end Go.Proofs.Ytdekapkdgbmjbaa
