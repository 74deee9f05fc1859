/- CrcJoins: the walk. -/
import Derived.Test.YtdekapkdgbmjbaaCe
namespace Go.Proofs.Ytdekapkdgbmjbaa
open Go.RowKit
theorem sizeJ_of (n : Nat) (h : n ≤ 1000000) : sizeJ (n : Int) = n := by unfold sizeJ; omega
set_option maxRecDepth 100000 in
set_option maxHeartbeats 1000000 in
theorem crcJoins_any (s t : ByteArray) (w : World) :
    Calls Try.prog 4 #[.string s, .string t] w fun e w' => e = .returned (.bool true) ∧ Below w.heap.size w w' := by
  obtain ⟨u, hu⟩ : ∃ u, s.extract 0 (min s.size 1000) = u := ⟨_, rfl⟩
  obtain ⟨v, hv⟩ : ∃ v, t.extract 0 (min t.size 1000) = v := ⟨_, rfl⟩
  have hus : u.size ≤ 1000 := by rw [← hu, ByteArray.size_extract]; omega
  have hvs : v.size ≤ 1000 := by rw [← hv, ByteArray.size_extract]; omega
  have HU := Lib.hid hu
  have HV := Lib.hid hv
  have hz := size_app u v
  have C1 := Lib.hid (sum_crc (u ++ v) (by omega) _ rfl)
  have C2 := Lib.hid (sum_crc u (by omega) _ rfl)
  have C3 := more_crc (moreT 0#32 u) v (by omega) _ (more_app 0#32 u v).symm
  have C4 := Lib.hid (sum_crc v (by omega) _ rfl)
  have C5 := join_crc (moreT 0#32 u) (moreT 0#32 v) v.size (moreT 0#32 (u ++ v)) (by rw [sizeJ_of _ (by omega), more_app, ← more_join])
  have C6 := join_crc (moreT 0#32 u) 0#32 0 (moreT 0#32 u) (join_none _)
  have C7 := sum_crc ⟨#[]⟩ (by decide) 0#32 (more_none _)
  rw [show iw (0#32) = 0 by unfold iw; rfl] at C6 C7
  have C3 := Lib.hid C3
  have C5 := Lib.hid C5
  have C6 := Lib.hid C6
  have C7 := Lib.hid C7
  generalize moreT 0#32 u = x1 at *
  generalize moreT 0#32 v = x2 at *
  generalize moreT 0#32 (u ++ v) = x3 at *
  clear hu hv
  go_enter Try.func4, Try.ntmps4
  go_wp2_with fail
  refine (examples8_any _).mono ?_
  rintro e w1 ⟨rfl, b1⟩
  go_wp2_with (first | (refine wpList_valK (.int .i64 ((min s.size 1000 : Nat) : Int)) rfl (lands_min (.tmp 12) s.size 1000 rfl rfl rfl) ?_; rintro _ rfl) | (refine wpList_valK (.int .i64 ((min t.size 1000 : Nat) : Int)) rfl (lands_min (.tmp 17) t.size 1000 rfl rfl rfl) ?_; rintro _ rfl))
  rw [HU.out, HV.out]
  refine (C1.out _).mono ?_
  rintro e w2 ⟨rfl, b2⟩
  have c2 := b1.trans (b2.mono b1.size)
  clear b1 b2
  go_wp2_with fail
  refine (C2.out _).mono ?_
  rintro e w3 ⟨rfl, b3⟩
  have c3 := c2.trans (b3.mono c2.size)
  clear c2 b3
  go_wp2_with fail
  refine (C3.out _).mono ?_
  rintro e w4 ⟨rfl, b4⟩
  have c4 := c3.trans (b4.mono c3.size)
  clear c3 b4
  go_wp2_with fail
  refine (C2.out _).mono ?_
  rintro e w5 ⟨rfl, b5⟩
  have c5 := c4.trans (b5.mono c4.size)
  clear c4 b5
  go_wp2_with fail
  refine (C4.out _).mono ?_
  rintro e w6 ⟨rfl, b6⟩
  have c6 := c5.trans (b6.mono c5.size)
  clear c5 b6
  go_wp2_with fail
  refine (C5.out _).mono ?_
  rintro e w7 ⟨rfl, b7⟩
  have c7 := c6.trans (b7.mono c6.size)
  clear c6 b7
  go_wp2_with fail
  refine (C2.out _).mono ?_
  rintro e w8 ⟨rfl, b8⟩
  have c8 := c7.trans (b8.mono c7.size)
  clear c7 b8
  go_wp2_with fail
  refine (C6.out _).mono ?_
  rintro e w9 ⟨rfl, b9⟩
  have c9 := c8.trans (b9.mono c8.size)
  clear c8 b9
  go_wp2_with fail
  refine (C2.out _).mono ?_
  rintro e w10 ⟨rfl, b10⟩
  have c10 := c9.trans (b10.mono c9.size)
  clear c9 b10
  go_wp2_with fail
  refine (C7.out _).mono ?_
  rintro e w11 ⟨rfl, b11⟩
  have c11 := c10.trans (b11.mono c10.size)
  clear c10 b11
  go_wp2_with fail
  go_ret
  exact ⟨rfl, c11⟩
end Go.Proofs.Ytdekapkdgbmjbaa
