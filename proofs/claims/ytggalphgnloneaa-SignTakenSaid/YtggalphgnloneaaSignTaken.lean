/- SignTaken: the walk. (written by mkTl.py) -/
import Derived.Test.YtggalphgnloneaaTf
namespace Go.Proofs.Ytggalphgnloneaa
open Go.RowKit
set_option maxRecDepth 100000 in
set_option maxHeartbeats 1000000 in
theorem taken_sm (s t : ByteArray) (c : Int) (m : ByteArray) (q : Nat) (hq : c.tmod 64 = (q : Int)) (hq6 : q < 64) (ht : t.size ≤ 300) (hm : ¬ m.toList = []) (hm0 : 0 < m.size) (hm2 : m.size ≤ 140737488351232) (w : World) :
    Calls Try.prog 3 #[.string s, .string t, .int .u8 c, .string m] w fun e w' => e = .returned (.bool true) ∧ Below w.heap.size w w' := by
  have hz := seedV_size s
  have CD := Lib.hid (fun w => seed_is s (seedV s) rfl w)
  generalize seedV s = z at *
  have hu3 : t.size ≤ 1000 := by omega
  have hps := publicV_size z
  have has := signV_size z t
  have CP := Lib.hid (fun w => public_t z w hz (publicV z) rfl)
  have CS := Lib.hid (fun w => sign_t z t w hz hu3 (signV z t) rfl)
  have CV := Lib.hid (verify_is (publicV z) t (signV z t) true hu3 (signed z t))
  have CW := Lib.hid (verify_is (publicV z) t ((signV z t).extract 0 q) false hu3 (verV_size (by rw [ByteArray.size_extract]; omega)))
  have CM := Lib.hid (verify_is (publicV z) t (signV z t ++ m) false hu3 (verV_size (by rw [size_append]; omega)))
  have CK := Lib.hid (verify_is ((publicV z).extract 0 31) t (signV z t) false hu3 (verV_short (by rw [ByteArray.size_extract]; omega)))
  have T1 := text_selfS (signV z t)
  generalize signV z t = a at *
  generalize publicV z = p at *
  go_enter Try.func3, Try.ntmps3
  go_wp2_with fail
  refine (examples6_any _).mono ?_
  rintro e w1 ⟨rfl, b1⟩
  go_wp2_with fail
  refine (CD.out _).mono ?_
  rintro e w2 ⟨rfl, b2⟩
  have c2 := b1.trans (b2.mono b1.size)
  clear b1 b2
  go_wp2_with fail
  refine (CP.out _).mono ?_
  rintro e w3 ⟨rfl, b3⟩
  have c3 := c2.trans (b3.mono c2.size)
  clear c2 b3
  go_wp2_with fail
  refine (CS.out _).mono ?_
  rintro e w4 ⟨rfl, b4⟩
  have c4 := c3.trans (b4.mono c3.size)
  clear c3 b4
  go_wp2_with fail
  refine (CS.out _).mono ?_
  rintro e w5 ⟨rfl, b5⟩
  have c5 := c4.trans (b5.mono c4.size)
  clear c4 b5
  go_wp2_with fail
  refine (CV.out _).mono ?_
  rintro e w6 ⟨rfl, b6⟩
  have c6 := c5.trans (b6.mono c5.size)
  clear c5 b6
  go_wp2_with fail
  refine (CW.out _).mono ?_
  rintro e w7 ⟨rfl, b7⟩
  have c7 := c6.trans (b7.mono c6.size)
  clear c6 b7
  go_wp2_with fail
  refine (CM.out _).mono ?_
  rintro e w8 ⟨rfl, b8⟩
  have c8 := c7.trans (b8.mono c7.size)
  clear c7 b8
  go_wp2_with fail
  refine (CK.out _).mono ?_
  rintro e w9 ⟨rfl, b9⟩
  have c9 := c8.trans (b9.mono c8.size)
  clear c8 b9
  go_wp2_with fail
  go_ret
  exact ⟨rfl, c9⟩
set_option maxRecDepth 100000 in
set_option maxHeartbeats 1000000 in
theorem taken_se (s t : ByteArray) (c : Int) (q : Nat) (hq : c.tmod 64 = (q : Int)) (hq6 : q < 64) (ht : t.size ≤ 300) (w : World) :
    Calls Try.prog 3 #[.string s, .string t, .int .u8 c, .string ⟨#[]⟩] w fun e w' => e = .returned (.bool true) ∧ Below w.heap.size w w' := by
  have hz := seedV_size s
  have CD := Lib.hid (fun w => seed_is s (seedV s) rfl w)
  generalize seedV s = z at *
  have hu3 : t.size ≤ 1000 := by omega
  have hps := publicV_size z
  have has := signV_size z t
  have CP := Lib.hid (fun w => public_t z w hz (publicV z) rfl)
  have CS := Lib.hid (fun w => sign_t z t w hz hu3 (signV z t) rfl)
  have CV := Lib.hid (verify_is (publicV z) t (signV z t) true hu3 (signed z t))
  have CW := Lib.hid (verify_is (publicV z) t ((signV z t).extract 0 q) false hu3 (verV_size (by rw [ByteArray.size_extract]; omega)))
  have CK := Lib.hid (verify_is ((publicV z).extract 0 31) t (signV z t) false hu3 (verV_short (by rw [ByteArray.size_extract]; omega)))
  have T1 := text_selfS (signV z t)
  generalize signV z t = a at *
  generalize publicV z = p at *
  go_enter Try.func3, Try.ntmps3
  go_wp2_with fail
  refine (examples6_any _).mono ?_
  rintro e w1 ⟨rfl, b1⟩
  go_wp2_with fail
  refine (CD.out _).mono ?_
  rintro e w2 ⟨rfl, b2⟩
  have c2 := b1.trans (b2.mono b1.size)
  clear b1 b2
  go_wp2_with fail
  refine (CP.out _).mono ?_
  rintro e w3 ⟨rfl, b3⟩
  have c3 := c2.trans (b3.mono c2.size)
  clear c2 b3
  go_wp2_with fail
  refine (CS.out _).mono ?_
  rintro e w4 ⟨rfl, b4⟩
  have c4 := c3.trans (b4.mono c3.size)
  clear c3 b4
  go_wp2_with fail
  refine (CS.out _).mono ?_
  rintro e w5 ⟨rfl, b5⟩
  have c5 := c4.trans (b5.mono c4.size)
  clear c4 b5
  go_wp2_with fail
  refine (CV.out _).mono ?_
  rintro e w6 ⟨rfl, b6⟩
  have c6 := c5.trans (b6.mono c5.size)
  clear c5 b6
  go_wp2_with fail
  refine (CW.out _).mono ?_
  rintro e w7 ⟨rfl, b7⟩
  have c7 := c6.trans (b7.mono c6.size)
  clear c6 b7
  go_wp2_with fail
  refine (CK.out _).mono ?_
  rintro e w8 ⟨rfl, b8⟩
  have c8 := c7.trans (b8.mono c7.size)
  clear c7 b8
  go_wp2_with fail
  go_ret
  exact ⟨rfl, c8⟩
set_option maxRecDepth 100000 in
set_option maxHeartbeats 1000000 in
theorem taken_lm (s t : ByteArray) (c : Int) (m : ByteArray) (q : Nat) (hq : c.tmod 64 = (q : Int)) (hq6 : q < 64) (ht : 300 < t.size) (hm : ¬ m.toList = []) (hm0 : 0 < m.size) (hm2 : m.size ≤ 140737488351232) (w : World) :
    Calls Try.prog 3 #[.string s, .string t, .int .u8 c, .string m] w fun e w' => e = .returned (.bool true) ∧ Below w.heap.size w w' := by
  have hz := seedV_size s
  have CD := Lib.hid (fun w => seed_is s (seedV s) rfl w)
  generalize seedV s = z at *
  obtain ⟨u, hu⟩ : ∃ u, t.extract 0 300 = u := ⟨_, rfl⟩
  have hu3 : u.size ≤ 1000 := by rw [← hu, ByteArray.size_extract]; omega
  have hps := publicV_size z
  have has := signV_size z u
  have CP := Lib.hid (fun w => public_t z w hz (publicV z) rfl)
  have CS := Lib.hid (fun w => sign_t z u w hz hu3 (signV z u) rfl)
  have CV := Lib.hid (verify_is (publicV z) u (signV z u) true hu3 (signed z u))
  have CW := Lib.hid (verify_is (publicV z) u ((signV z u).extract 0 q) false hu3 (verV_size (by rw [ByteArray.size_extract]; omega)))
  have CM := Lib.hid (verify_is (publicV z) u (signV z u ++ m) false hu3 (verV_size (by rw [size_append]; omega)))
  have CK := Lib.hid (verify_is ((publicV z).extract 0 31) u (signV z u) false hu3 (verV_short (by rw [ByteArray.size_extract]; omega)))
  have T1 := text_selfS (signV z u)
  generalize signV z u = a at *
  generalize publicV z = p at *
  go_enter Try.func3, Try.ntmps3
  go_wp2_with fail
  refine (examples6_any _).mono ?_
  rintro e w1 ⟨rfl, b1⟩
  go_wp2_with fail
  refine (CD.out _).mono ?_
  rintro e w2 ⟨rfl, b2⟩
  have c2 := b1.trans (b2.mono b1.size)
  clear b1 b2
  go_wp2_with fail
  refine (CP.out _).mono ?_
  rintro e w3 ⟨rfl, b3⟩
  have c3 := c2.trans (b3.mono c2.size)
  clear c2 b3
  go_wp2_with fail
  refine (CS.out _).mono ?_
  rintro e w4 ⟨rfl, b4⟩
  have c4 := c3.trans (b4.mono c3.size)
  clear c3 b4
  go_wp2_with fail
  refine (CS.out _).mono ?_
  rintro e w5 ⟨rfl, b5⟩
  have c5 := c4.trans (b5.mono c4.size)
  clear c4 b5
  go_wp2_with fail
  refine (CV.out _).mono ?_
  rintro e w6 ⟨rfl, b6⟩
  have c6 := c5.trans (b6.mono c5.size)
  clear c5 b6
  go_wp2_with fail
  refine (CW.out _).mono ?_
  rintro e w7 ⟨rfl, b7⟩
  have c7 := c6.trans (b7.mono c6.size)
  clear c6 b7
  go_wp2_with fail
  refine (CM.out _).mono ?_
  rintro e w8 ⟨rfl, b8⟩
  have c8 := c7.trans (b8.mono c7.size)
  clear c7 b8
  go_wp2_with fail
  refine (CK.out _).mono ?_
  rintro e w9 ⟨rfl, b9⟩
  have c9 := c8.trans (b9.mono c8.size)
  clear c8 b9
  go_wp2_with fail
  go_ret
  exact ⟨rfl, c9⟩
set_option maxRecDepth 100000 in
set_option maxHeartbeats 1000000 in
theorem taken_le (s t : ByteArray) (c : Int) (q : Nat) (hq : c.tmod 64 = (q : Int)) (hq6 : q < 64) (ht : 300 < t.size) (w : World) :
    Calls Try.prog 3 #[.string s, .string t, .int .u8 c, .string ⟨#[]⟩] w fun e w' => e = .returned (.bool true) ∧ Below w.heap.size w w' := by
  have hz := seedV_size s
  have CD := Lib.hid (fun w => seed_is s (seedV s) rfl w)
  generalize seedV s = z at *
  obtain ⟨u, hu⟩ : ∃ u, t.extract 0 300 = u := ⟨_, rfl⟩
  have hu3 : u.size ≤ 1000 := by rw [← hu, ByteArray.size_extract]; omega
  have hps := publicV_size z
  have has := signV_size z u
  have CP := Lib.hid (fun w => public_t z w hz (publicV z) rfl)
  have CS := Lib.hid (fun w => sign_t z u w hz hu3 (signV z u) rfl)
  have CV := Lib.hid (verify_is (publicV z) u (signV z u) true hu3 (signed z u))
  have CW := Lib.hid (verify_is (publicV z) u ((signV z u).extract 0 q) false hu3 (verV_size (by rw [ByteArray.size_extract]; omega)))
  have CK := Lib.hid (verify_is ((publicV z).extract 0 31) u (signV z u) false hu3 (verV_short (by rw [ByteArray.size_extract]; omega)))
  have T1 := text_selfS (signV z u)
  generalize signV z u = a at *
  generalize publicV z = p at *
  go_enter Try.func3, Try.ntmps3
  go_wp2_with fail
  refine (examples6_any _).mono ?_
  rintro e w1 ⟨rfl, b1⟩
  go_wp2_with fail
  refine (CD.out _).mono ?_
  rintro e w2 ⟨rfl, b2⟩
  have c2 := b1.trans (b2.mono b1.size)
  clear b1 b2
  go_wp2_with fail
  refine (CP.out _).mono ?_
  rintro e w3 ⟨rfl, b3⟩
  have c3 := c2.trans (b3.mono c2.size)
  clear c2 b3
  go_wp2_with fail
  refine (CS.out _).mono ?_
  rintro e w4 ⟨rfl, b4⟩
  have c4 := c3.trans (b4.mono c3.size)
  clear c3 b4
  go_wp2_with fail
  refine (CS.out _).mono ?_
  rintro e w5 ⟨rfl, b5⟩
  have c5 := c4.trans (b5.mono c4.size)
  clear c4 b5
  go_wp2_with fail
  refine (CV.out _).mono ?_
  rintro e w6 ⟨rfl, b6⟩
  have c6 := c5.trans (b6.mono c5.size)
  clear c5 b6
  go_wp2_with fail
  refine (CW.out _).mono ?_
  rintro e w7 ⟨rfl, b7⟩
  have c7 := c6.trans (b7.mono c6.size)
  clear c6 b7
  go_wp2_with fail
  refine (CK.out _).mono ?_
  rintro e w8 ⟨rfl, b8⟩
  have c8 := c7.trans (b8.mono c7.size)
  clear c7 b8
  go_wp2_with fail
  go_ret
  exact ⟨rfl, c8⟩
theorem some_list (s : ByteArray) (h : 0 < s.size) : ¬ s.toList = [] := fun e => by
  have : s.toList.length = s.size := by rw [ByteArray.toList_eq]; simp
  rw [e] at this
  simp at this
  omega
theorem none_text (s : ByteArray) (h : ¬ 0 < s.size) : s = ⟨#[]⟩ := by
  have : s = ByteArray.empty := by simpa using h
  exact this
theorem taken_any (s t : ByteArray) (c : Int) (m : ByteArray) (w : World) (h0 : 0 ≤ c) (hm2 : m.size ≤ 140737488351232) :
    Calls Try.prog 3 #[.string s, .string t, .int .u8 c, .string m] w fun e w' => e = .returned (.bool true) ∧ Below w.heap.size w w' := by
  obtain ⟨n, rfl⟩ := Int.eq_ofNat_of_zero_le h0
  have hq : (n : Int).tmod 64 = ((n % 64 : Nat) : Int) := by rw [Int.tmod_eq_emod_of_nonneg h0]; omega
  have hq6 : n % 64 < 64 := Nat.mod_lt _ (by decide)
  rcases Nat.lt_or_ge 300 t.size with ht | ht <;> by_cases hm : 0 < m.size
  · exact taken_lm s t n m _ hq hq6 ht (some_list m hm) hm hm2 w
  · obtain rfl := none_text m hm; exact taken_le s t n _ hq hq6 ht w
  · exact taken_sm s t n m _ hq hq6 ht (some_list m hm) hm hm2 w
  · obtain rfl := none_text m hm; exact taken_se s t n _ hq hq6 ht w
end Go.Proofs.Ytggalphgnloneaa
