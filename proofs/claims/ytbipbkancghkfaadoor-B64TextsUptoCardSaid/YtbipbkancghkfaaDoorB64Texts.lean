/- B64Texts: the walk. -/
import Derived.Test.YtbipbkancghkfaaDoorVb
import Derived.Test.YtbipbkancghkfaaDoorUc
import Derived.Test.YtbipbkancghkfaaDoorUd
import Derived.Test.YtbipbkancghkfaaDoorUi
namespace Go.Proofs.YtbipbkancghkfaaDoor
open Go.RowKit
set_option maxRecDepth 100000 in
set_option maxHeartbeats 1000000 in
theorem texts7_any (s : ByteArray) (hs : s.size ≤ 1048576) (w : World) :
    Calls Tryd.prog 3 #[.string s] w fun e w' => e = .returned (.bool true) ∧ Below w.heap.size w w' := by
  obtain ⟨r, b, hr⟩ : ∃ r b, dec64 s = (r, b) := ⟨_, _, rfl⟩
  obtain ⟨q, c, hq⟩ : ∃ q c, unhexV s = (q, c) := ⟨_, _, rfl⟩
  have hs2 : s.size ≤ 100000000000 := Nat.le_trans hs (by decide)
  have C1 := Lib.hid (dec_b64 s r b (by omega) hr)
  have C2 := Lib.hid (fun w => rdec7_any s r b w hs2 hr)
  have C3 := Lib.hid (unhex_b64 s q c (by omega) hq)
  have C4 := Lib.hid (fun w => runhex7_any s q c w hs2 hq)
  have C5 := Lib.hid (enc_b64 s _ (by omega) rfl)
  have C6 := Lib.hid (fun w => renc7_any s w hs2)
  have C7 := Lib.hid (hex_b64 s _ (by omega) rfl)
  have C8 := Lib.hid (fun w => rhex7_any s w hs2)
  have T1 := text_self7 r
  have T2 := text_self7 q
  have T3 := text_self7 (e64 s)
  have T4 := text_self7 (hexT s)
  generalize e64 s = x at *
  generalize hexT s = y at *
  clear hr hq hs hs2
  go_enter Tryd.func3, Tryd.ntmps3
  go_wp2_with fail
  refine (examples7_any _).mono ?_
  rintro e w1 ⟨rfl, b1⟩
  go_wp2_with fail
  refine (C1.out _).mono ?_
  rintro e w2 ⟨rfl, b2⟩
  have c2 := b1.trans (b2.mono b1.size)
  clear b1 b2
  go_wp2_with fail
  refine (C2.out _).mono ?_
  rintro e w3 ⟨rfl, b3⟩
  have c3 := c2.trans (b3.mono c2.size)
  clear c2 b3
  go_wp2_with fail
  refine (C3.out _).mono ?_
  rintro e w4 ⟨rfl, b4⟩
  have c4 := c3.trans (b4.mono c3.size)
  clear c3 b4
  go_wp2_with fail
  refine (C4.out _).mono ?_
  rintro e w5 ⟨rfl, b5⟩
  have c5 := c4.trans (b5.mono c4.size)
  clear c4 b5
  go_wp2_with fail
  refine (C5.out _).mono ?_
  rintro e w6 ⟨rfl, b6⟩
  have c6 := c5.trans (b6.mono c5.size)
  clear c5 b6
  go_wp2_with fail
  refine (C6.out _).mono ?_
  rintro e w7 ⟨rfl, b7⟩
  have c7 := c6.trans (b7.mono c6.size)
  clear c6 b7
  go_wp2_with fail
  refine (C7.out _).mono ?_
  rintro e w8 ⟨rfl, b8⟩
  have c8 := c7.trans (b8.mono c7.size)
  clear c7 b8
  go_wp2_with fail
  refine (C8.out _).mono ?_
  rintro e w9 ⟨rfl, b9⟩
  have c9 := c8.trans (b9.mono c8.size)
  clear c8 b9
  go_wp2_with fail
  go_ret
  exact ⟨rfl, c9⟩
end Go.Proofs.YtbipbkancghkfaaDoor
