/- SignSigns: the walk. (written by mkTl.py) -/
import Derived.Test.YtggalphgnloneaaGreatTf
import Derived.Test.YtggalphgnloneaaGreatTr
namespace Go.Proofs.YtggalphgnloneaaGreat
open Go.RowKit
set_option maxRecDepth 100000 in
set_option maxHeartbeats 1000000 in
theorem signs_smy (s t : ByteArray) (ht : t.size ≤ 300) (w : World) :
    Calls Tryz.prog 3 #[.string s, .string t, .bool false] w fun e w' => e = .returned (.bool true) ∧ Below w.heap.size w w' := by
  have hu3 : t.size ≤ 1000 := by omega
  have hx : t.extract 0 t.size = t := by simp
  have hm : (min (t.size : Int) 300).toNat = t.size := by omega
  have h := seedV_size s
  have CD := Lib.hid (fun w => seed_is s (seedV s) rfl w)
  generalize seedV s = z at *
  have CP := Lib.hid (fun w => public_t z w h (publicV z) rfl)
  have RP := Lib.hid (rpublic_t z h (publicV z) rfl)
  have CS := Lib.hid (fun w => sign_t z t w h hu3 (signV z t) rfl)
  have RS := Lib.hid (rsign_t z t h hu3 (signV z t) rfl)
  have T1 := text_selfS (publicV z)
  have T2 := text_selfS (signV z t)
  generalize signV z t = a at *
  generalize publicV z = p at *
  go_enter Tryz.func3, Tryz.ntmps3
  go_wp2_with fail
  refine (examples6_any _).mono ?_
  rintro e w1 ⟨rfl, b1⟩
  go_wp2_with fail
  refine (CD.out _).mono ?_
  rintro e w2 ⟨rfl, b2⟩
  have c2 := b1.trans (b2.mono b1.size)
  clear b1 b2
  go_wp2_with fail
  refine (CP.out _).mono ?_
  rintro e w3 ⟨rfl, b3⟩
  have c3 := c2.trans (b3.mono c2.size)
  clear c2 b3
  go_wp2_with fail
  refine (RP.out _).mono ?_
  rintro e w4 ⟨rfl, b4⟩
  have c4 := c3.trans (b4.mono c3.size)
  clear c3 b4
  go_wp2_with fail
  refine (CS.out _).mono ?_
  rintro e w5 ⟨rfl, b5⟩
  have c5 := c4.trans (b5.mono c4.size)
  clear c4 b5
  go_wp2_with fail
  refine (RS.out _).mono ?_
  rintro e w6 ⟨rfl, b6⟩
  have c6 := c5.trans (b6.mono c5.size)
  clear c5 b6
  go_wp2_with fail
  go_ret
  exact ⟨rfl, c6⟩
set_option maxRecDepth 100000 in
set_option maxHeartbeats 1000000 in
theorem signs_soy (s t : ByteArray) (ht : t.size ≤ 300) (h : s.size = 32) (w : World) :
    Calls Tryz.prog 3 #[.string s, .string t, .bool true] w fun e w' => e = .returned (.bool true) ∧ Below w.heap.size w w' := by
  have hu3 : t.size ≤ 1000 := by omega
  have hx : t.extract 0 t.size = t := by simp
  have hm : (min (t.size : Int) 300).toNat = t.size := by omega
  have CP := Lib.hid (fun w => public_t s w h (publicV s) rfl)
  have RP := Lib.hid (rpublic_t s h (publicV s) rfl)
  have CS := Lib.hid (fun w => sign_t s t w h hu3 (signV s t) rfl)
  have RS := Lib.hid (rsign_t s t h hu3 (signV s t) rfl)
  have T1 := text_selfS (publicV s)
  have T2 := text_selfS (signV s t)
  generalize signV s t = a at *
  generalize publicV s = p at *
  go_enter Tryz.func3, Tryz.ntmps3
  go_wp2_with fail
  refine (examples6_any _).mono ?_
  rintro e w1 ⟨rfl, b1⟩
  go_wp2_with fail
  refine (CP.out _).mono ?_
  rintro e w2 ⟨rfl, b2⟩
  have c2 := b1.trans (b2.mono b1.size)
  clear b1 b2
  go_wp2_with fail
  refine (RP.out _).mono ?_
  rintro e w3 ⟨rfl, b3⟩
  have c3 := c2.trans (b3.mono c2.size)
  clear c2 b3
  go_wp2_with fail
  refine (CS.out _).mono ?_
  rintro e w4 ⟨rfl, b4⟩
  have c4 := c3.trans (b4.mono c3.size)
  clear c3 b4
  go_wp2_with fail
  refine (RS.out _).mono ?_
  rintro e w5 ⟨rfl, b5⟩
  have c5 := c4.trans (b5.mono c4.size)
  clear c4 b5
  go_wp2_with fail
  go_ret
  exact ⟨rfl, c5⟩
set_option maxRecDepth 100000 in
set_option maxHeartbeats 1000000 in
theorem signs_son (s t : ByteArray) (ht : t.size ≤ 300) (h : ¬ s.size = 32) (w : World) :
    Calls Tryz.prog 3 #[.string s, .string t, .bool true] w fun e w' => e = .returned (.bool true) ∧ Below w.heap.size w w' := by
  have hu3 : t.size ≤ 1000 := by omega
  have hx : t.extract 0 t.size = t := by simp
  have hm : (min (t.size : Int) 300).toNat = t.size := by omega
  have CP := Lib.hid (fun w => public_f s w h)
  have RP := Lib.hid (rpublic_f s h)
  have CS := Lib.hid (fun w => sign_f s t w h)
  have RS := Lib.hid (rsign_f s t h)
  go_enter Tryz.func3, Tryz.ntmps3
  go_wp2_with fail
  refine (examples6_any _).mono ?_
  rintro e w1 ⟨rfl, b1⟩
  go_wp2_with fail
  refine (CP.out _).mono ?_
  rintro e w2 ⟨rfl, b2⟩
  have c2 := b1.trans (b2.mono b1.size)
  clear b1 b2
  go_wp2_with fail
  refine (RP.out _).mono ?_
  rintro e w3 ⟨rfl, b3⟩
  have c3 := c2.trans (b3.mono c2.size)
  clear c2 b3
  go_wp2_with fail
  refine (CS.out _).mono ?_
  rintro e w4 ⟨rfl, b4⟩
  have c4 := c3.trans (b4.mono c3.size)
  clear c3 b4
  go_wp2_with fail
  refine (RS.out _).mono ?_
  rintro e w5 ⟨rfl, b5⟩
  have c5 := c4.trans (b5.mono c4.size)
  clear c4 b5
  go_wp2_with fail
  go_ret
  exact ⟨rfl, c5⟩
set_option maxRecDepth 100000 in
set_option maxHeartbeats 1000000 in
theorem signs_lmy (s t : ByteArray) (ht : 300 < t.size) (w : World) :
    Calls Tryz.prog 3 #[.string s, .string t, .bool false] w fun e w' => e = .returned (.bool true) ∧ Below w.heap.size w w' := by
  obtain ⟨u, hu⟩ : ∃ u, t.extract 0 300 = u := ⟨_, rfl⟩
  have hu3 : u.size ≤ 1000 := by rw [← hu, ByteArray.size_extract]; omega
  have hm : (min (t.size : Int) 300).toNat = 300 := by omega
  have h := seedV_size s
  have CD := Lib.hid (fun w => seed_is s (seedV s) rfl w)
  generalize seedV s = z at *
  have CP := Lib.hid (fun w => public_t z w h (publicV z) rfl)
  have RP := Lib.hid (rpublic_t z h (publicV z) rfl)
  have CS := Lib.hid (fun w => sign_t z u w h hu3 (signV z u) rfl)
  have RS := Lib.hid (rsign_t z u h hu3 (signV z u) rfl)
  have T1 := text_selfS (publicV z)
  have T2 := text_selfS (signV z u)
  generalize signV z u = a at *
  generalize publicV z = p at *
  go_enter Tryz.func3, Tryz.ntmps3
  go_wp2_with fail
  refine (examples6_any _).mono ?_
  rintro e w1 ⟨rfl, b1⟩
  go_wp2_with fail
  refine (CD.out _).mono ?_
  rintro e w2 ⟨rfl, b2⟩
  have c2 := b1.trans (b2.mono b1.size)
  clear b1 b2
  go_wp2_with fail
  refine (CP.out _).mono ?_
  rintro e w3 ⟨rfl, b3⟩
  have c3 := c2.trans (b3.mono c2.size)
  clear c2 b3
  go_wp2_with fail
  refine (RP.out _).mono ?_
  rintro e w4 ⟨rfl, b4⟩
  have c4 := c3.trans (b4.mono c3.size)
  clear c3 b4
  go_wp2_with fail
  refine (CS.out _).mono ?_
  rintro e w5 ⟨rfl, b5⟩
  have c5 := c4.trans (b5.mono c4.size)
  clear c4 b5
  go_wp2_with fail
  refine (RS.out _).mono ?_
  rintro e w6 ⟨rfl, b6⟩
  have c6 := c5.trans (b6.mono c5.size)
  clear c5 b6
  go_wp2_with fail
  go_ret
  exact ⟨rfl, c6⟩
set_option maxRecDepth 100000 in
set_option maxHeartbeats 1000000 in
theorem signs_loy (s t : ByteArray) (ht : 300 < t.size) (h : s.size = 32) (w : World) :
    Calls Tryz.prog 3 #[.string s, .string t, .bool true] w fun e w' => e = .returned (.bool true) ∧ Below w.heap.size w w' := by
  obtain ⟨u, hu⟩ : ∃ u, t.extract 0 300 = u := ⟨_, rfl⟩
  have hu3 : u.size ≤ 1000 := by rw [← hu, ByteArray.size_extract]; omega
  have hm : (min (t.size : Int) 300).toNat = 300 := by omega
  have CP := Lib.hid (fun w => public_t s w h (publicV s) rfl)
  have RP := Lib.hid (rpublic_t s h (publicV s) rfl)
  have CS := Lib.hid (fun w => sign_t s u w h hu3 (signV s u) rfl)
  have RS := Lib.hid (rsign_t s u h hu3 (signV s u) rfl)
  have T1 := text_selfS (publicV s)
  have T2 := text_selfS (signV s u)
  generalize signV s u = a at *
  generalize publicV s = p at *
  go_enter Tryz.func3, Tryz.ntmps3
  go_wp2_with fail
  refine (examples6_any _).mono ?_
  rintro e w1 ⟨rfl, b1⟩
  go_wp2_with fail
  refine (CP.out _).mono ?_
  rintro e w2 ⟨rfl, b2⟩
  have c2 := b1.trans (b2.mono b1.size)
  clear b1 b2
  go_wp2_with fail
  refine (RP.out _).mono ?_
  rintro e w3 ⟨rfl, b3⟩
  have c3 := c2.trans (b3.mono c2.size)
  clear c2 b3
  go_wp2_with fail
  refine (CS.out _).mono ?_
  rintro e w4 ⟨rfl, b4⟩
  have c4 := c3.trans (b4.mono c3.size)
  clear c3 b4
  go_wp2_with fail
  refine (RS.out _).mono ?_
  rintro e w5 ⟨rfl, b5⟩
  have c5 := c4.trans (b5.mono c4.size)
  clear c4 b5
  go_wp2_with fail
  go_ret
  exact ⟨rfl, c5⟩
set_option maxRecDepth 100000 in
set_option maxHeartbeats 1000000 in
theorem signs_lon (s t : ByteArray) (ht : 300 < t.size) (h : ¬ s.size = 32) (w : World) :
    Calls Tryz.prog 3 #[.string s, .string t, .bool true] w fun e w' => e = .returned (.bool true) ∧ Below w.heap.size w w' := by
  obtain ⟨u, hu⟩ : ∃ u, t.extract 0 300 = u := ⟨_, rfl⟩
  have hu3 : u.size ≤ 1000 := by rw [← hu, ByteArray.size_extract]; omega
  have hm : (min (t.size : Int) 300).toNat = 300 := by omega
  have CP := Lib.hid (fun w => public_f s w h)
  have RP := Lib.hid (rpublic_f s h)
  have CS := Lib.hid (fun w => sign_f s u w h)
  have RS := Lib.hid (rsign_f s u h)
  go_enter Tryz.func3, Tryz.ntmps3
  go_wp2_with fail
  refine (examples6_any _).mono ?_
  rintro e w1 ⟨rfl, b1⟩
  go_wp2_with fail
  refine (CP.out _).mono ?_
  rintro e w2 ⟨rfl, b2⟩
  have c2 := b1.trans (b2.mono b1.size)
  clear b1 b2
  go_wp2_with fail
  refine (RP.out _).mono ?_
  rintro e w3 ⟨rfl, b3⟩
  have c3 := c2.trans (b3.mono c2.size)
  clear c2 b3
  go_wp2_with fail
  refine (CS.out _).mono ?_
  rintro e w4 ⟨rfl, b4⟩
  have c4 := c3.trans (b4.mono c3.size)
  clear c3 b4
  go_wp2_with fail
  refine (RS.out _).mono ?_
  rintro e w5 ⟨rfl, b5⟩
  have c5 := c4.trans (b5.mono c4.size)
  clear c4 b5
  go_wp2_with fail
  go_ret
  exact ⟨rfl, c5⟩
theorem signs_any (s t : ByteArray) (own : Bool) (w : World) :
    Calls Tryz.prog 3 #[.string s, .string t, .bool own] w fun e w' => e = .returned (.bool true) ∧ Below w.heap.size w w' := by
  rcases Nat.lt_or_ge 300 t.size with ht | ht <;> cases own
  · exact signs_lmy s t ht w
  · by_cases h : s.size = 32
    · exact signs_loy s t ht h w
    · exact signs_lon s t ht h w
  · exact signs_smy s t ht w
  · by_cases h : s.size = 32
    · exact signs_soy s t ht h w
    · exact signs_son s t ht h w
end Go.Proofs.YtggalphgnloneaaGreat
