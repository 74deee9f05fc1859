/- ScalarBits: the walk. -/
import Derived.Test.YtnfcgpoafmmioaaScalarReckons
namespace Go.Proofs.Ytnfcgpoafmmioaa
open Go.RowKit
set_option maxRecDepth 100000 in
set_option maxHeartbeats 2000000 in
theorem bits_any (s : ByteArray) (i : Int) (hi : i < 9223372036854775808) (w : World) :
    Calls Try.prog 4 #[.string s, .int .i64 i] w fun e w' => e = .returned (.bool true) ∧ Below w.heap.size w w' := by
  have CX := Lib.hid (fun w => examples_any w)
  have C1 := Lib.hid (fun w => qclamp_any s w)
  have C2 := Lib.hid (fun w => rclamp_any s w)
  have C3 := Lib.hid (fun w => qbit_int s i w hi)
  have C4 := Lib.hid (fun w => rbit_int s i w hi)
  generalize (clampV s).1 = r at C1 C2
  generalize (clampV s).2 = rb at C1 C2
  generalize bitI s i = x at C3 C4
  have hr := text_self r
  have hb : (rb == rb) = true := by cases rb <;> rfl
  have hx : ((x : Int) == x) = true := beq_self_eq_true _
  clear hi
  go_enter Try.func4, Try.ntmps4
  go_wp2_with fail
  refine (CX.out _).mono ?_
  rintro e w0 ⟨rfl, h0⟩
  go_wp2_with fail
  refine (C1.out _).mono ?_
  rintro e w1 ⟨rfl, h1⟩
  go_wp2_with fail
  refine (C2.out _).mono ?_
  rintro e w2 ⟨rfl, h2⟩
  have k1 := h0.trans (h1.mono h0.size)
  have k2 := k1.trans (h2.mono k1.size)
  clear h0 h1 h2 k1
  go_wp2_with fail
  refine (C3.out _).mono ?_
  rintro e w3 ⟨rfl, rfl⟩
  go_wp2_with fail
  refine (C4.out _).mono ?_
  rintro e w4 ⟨rfl, rfl⟩
  go_wp2_with fail
  go_ret
  exact ⟨rfl, k2⟩
end Go.Proofs.Ytnfcgpoafmmioaa
