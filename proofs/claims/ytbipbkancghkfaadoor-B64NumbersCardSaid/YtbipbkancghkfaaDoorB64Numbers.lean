/- B64Numbers: the walk. -/
import Derived.Test.YtbipbkancghkfaaDoorVb
namespace Go.Proofs.YtbipbkancghkfaaDoor
open Go.RowKit
set_option maxRecDepth 100000 in
set_option maxHeartbeats 1000000 in
theorem numbers7_n (n : Int) (h : n < 0) (s : ByteArray) (hs : s.size ≤ 1000000000000000) (w : World) :
    Calls Tryd.prog 4 #[.int .i64 n, .string s] w fun e w' => e = .returned (.bool true) ∧ Below w.heap.size w w' := by
  obtain ⟨r, b, hr⟩ : ∃ r b, takeV s = (r, b) := ⟨_, _, rfl⟩
  have C3 := Lib.hid (take_b64 s r b hs hr)
  have C4 := Lib.hid (fun w => rtake7_any s r b w hs hr)
  clear hr hs
  have C1 := Lib.hid (neg_b64 n h)
  have C2 := Lib.hid (fun w => rnum7_neg n w h)
  clear h
  go_enter Tryd.func4, Tryd.ntmps4
  go_wp2_with fail
  refine (examples7_any _).mono ?_
  rintro e w1 ⟨rfl, b1⟩
  go_wp2_with fail
  refine (C1.out _).mono ?_
  rintro e w2 ⟨rfl, b2⟩
  have c2 := b1.trans (b2.mono b1.size)
  clear b1 b2
  go_wp2_with fail
  refine (C2.out _).mono ?_
  rintro e w3 ⟨rfl, b3⟩
  have c3 := c2.trans (b3.mono c2.size)
  clear c2 b3
  go_wp2_with fail
  refine (C3.out _).mono ?_
  rintro e w4 ⟨rfl, b4⟩
  have c4 := c3.trans (b4.mono c3.size)
  clear c3 b4
  go_wp2_with fail
  refine (C4.out _).mono ?_
  rintro e w5 ⟨rfl, b5⟩
  have c5 := c4.trans (b5.mono c4.size)
  clear c4 b5
  go_wp2_with fail
  go_ret
  exact ⟨rfl, c5⟩
set_option maxRecDepth 100000 in
set_option maxHeartbeats 1000000 in
theorem numbers7_p (n : Nat) (h : n < 9223372036854775808) (s : ByteArray) (hs : s.size ≤ 1000000000000000) (w : World) :
    Calls Tryd.prog 4 #[.int .i64 (n : Int), .string s] w fun e w' => e = .returned (.bool true) ∧ Below w.heap.size w w' := by
  obtain ⟨r, b, hr⟩ : ∃ r b, takeV s = (r, b) := ⟨_, _, rfl⟩
  have C3 := Lib.hid (take_b64 s r b hs hr)
  have C4 := Lib.hid (fun w => rtake7_any s r b w hs hr)
  clear hr hs
  have C1 := Lib.hid (num_b64 n _ h rfl)
  have C2 := Lib.hid (fun w => rnum7_pos n w h)
  have T1 := text_self7 (decT n)
  generalize decT n = x at *
  clear h
  go_enter Tryd.func4, Tryd.ntmps4
  go_wp2_with fail
  refine (examples7_any _).mono ?_
  rintro e w1 ⟨rfl, b1⟩
  go_wp2_with fail
  refine (C1.out _).mono ?_
  rintro e w2 ⟨rfl, b2⟩
  have c2 := b1.trans (b2.mono b1.size)
  clear b1 b2
  go_wp2_with fail
  refine (C2.out _).mono ?_
  rintro e w3 ⟨rfl, b3⟩
  have c3 := c2.trans (b3.mono c2.size)
  clear c2 b3
  go_wp2_with fail
  refine (C3.out _).mono ?_
  rintro e w4 ⟨rfl, b4⟩
  have c4 := c3.trans (b4.mono c3.size)
  clear c3 b4
  go_wp2_with fail
  refine (C4.out _).mono ?_
  rintro e w5 ⟨rfl, b5⟩
  have c5 := c4.trans (b5.mono c4.size)
  clear c4 b5
  go_wp2_with fail
  go_ret
  exact ⟨rfl, c5⟩
theorem numbers7_any (n : Int) (s : ByteArray) (w : World) (wf : (Lit.int .i64 n).wf = true) (hs : s.size ≤ 140737488351232) :
    Calls Tryd.prog 4 #[.int .i64 n, .string s] w fun e w' => e = .returned (.bool true) ∧ Below w.heap.size w w' := by
  have hb : -9223372036854775808 ≤ n ∧ n < 9223372036854775808 := by
    have := wf
    simp [Lit.wf, IntKind.min, IntKind.max, IntKind.bits, IntKind.signed] at this
    omega
  by_cases h : n < 0
  · exact numbers7_n n h s (by omega) w
  · obtain ⟨N, rfl⟩ : ∃ N : Nat, n = N := ⟨n.toNat, by omega⟩
    exact numbers7_p N (by omega) s (by omega) w
end Go.Proofs.YtbipbkancghkfaaDoor
