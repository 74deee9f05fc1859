/- The examples of chapter 7. -/
import Derived.Test.YtbipbkancghkfaaDoorVa
namespace Go.Proofs.YtbipbkancghkfaaDoor
open Go.RowKit
def abT : ByteArray := ⟨#[97, 98]⟩
def ywT : ByteArray := ⟨#[89, 87, 73, 61]⟩
def n1T : ByteArray := ⟨#[49, 48, 51, 48]⟩
def h1T : ByteArray := ⟨#[10, 255]⟩
def h2T : ByteArray := ⟨#[48, 97, 102, 102]⟩
theorem ex_enc : e64 abT = ywT := by decide +kernel
theorem ex_dec : dec64 ywT = (abT, true) := dec64_of ex_enc
theorem ex_hex : hexT h1T = h2T := by decide +kernel
theorem ex_decN : decN 1030 = 4 := by
  rw [decN, if_neg (by decide), decN, if_neg (by decide), decN, if_neg (by decide), decN, if_pos (by decide)]
theorem ex_num : decT 1030 = n1T := by
  unfold decT
  rw [ex_decN]
  refine textN_is rfl fun j hj => ?_
  unfold decB
  rw [ex_decN]
  rcases (show j = 0 ∨ j = 1 ∨ j = 2 ∨ j = 3 by omega) with rfl | rfl | rfl | rfl <;> rfl
theorem text_self7 (r : ByteArray) : (r.toList == r.toList) = true := by simp
set_option maxRecDepth 100000 in
set_option maxHeartbeats 1000000 in
theorem examples7_any (w : World) :
    Calls Tryd.prog 9 #[] w fun e w' => e = .returned (.bool true) ∧ Below w.heap.size w w' := by
  have C1 := Lib.hid (dec_b64 ywT abT true (by decide) ex_dec)
  have C2 := Lib.hid (num_b64 1030 n1T (by decide) ex_num)
  have C3 := Lib.hid (enc_b64 abT ywT (by decide) ex_enc)
  have C4 := Lib.hid (hex_b64 h1T h2T (by decide) ex_hex)
  go_enter Tryd.func9, Tryd.ntmps9
  go_wp2_with fail
  refine (C1.out _).mono ?_
  rintro e w1 ⟨rfl, b1⟩
  go_wp2_with fail
  refine (C2.out _).mono ?_
  rintro e w2 ⟨rfl, b2⟩
  have c2 := b1.trans (b2.mono b1.size)
  clear b1 b2
  go_wp2_with fail
  refine (C3.out _).mono ?_
  rintro e w3 ⟨rfl, b3⟩
  have c3 := c2.trans (b3.mono c2.size)
  clear c2 b3
  have T1 := text_self7 ywT
  have T2 := text_self7 abT
  have T3 := text_self7 n1T
  have T4 := text_self7 h2T
  unfold ywT abT n1T h2T at *
  go_wp2_with fail
  refine (C4.out _).mono ?_
  rintro e w4 ⟨rfl, b4⟩
  have c4 := c3.trans (b4.mono c3.size)
  clear c3 b4
  go_wp2_with fail
  go_ret
  exact ⟨rfl, c4⟩
end Go.Proofs.YtbipbkancghkfaaDoor
