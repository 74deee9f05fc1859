/- Reduce, Right, MulAdd of the layer scalar. -/
import Derived.Test.YtnfcgpoafmmioaaLd
import Derived.Test.YtnfcgpoafmmioaaLf
import Derived.Test.YtnfcgpoafmmioaaLg
import Derived.Test.YtnfcgpoafmmioaaKi
namespace Go.Proofs.Ytnfcgpoafmmioaa
open Go.RowKit
theorem numV_ltv (s : ByteArray) (m a b : Nat) (h : 8 * m ≤ a + b) : numV s m < 2 ^ a * 2 ^ b := by
  rw [← Nat.pow_add]
  exact Nat.lt_of_lt_of_le (bv_lt _ (byteS_lt s) _) (Nat.pow_le_pow_right (by decide) (by omega))
theorem numV_lt64 (s : ByteArray) : numV s 64 < 2 ^ (64 * 4) * 2 ^ (64 * 4) := numV_ltv s 64 (64 * 4) (64 * 4) (by omega)
theorem numV_M (s : ByteArray) : numV s 32 < M256 := by
  have h := numV_lt s
  rwa [show 8 * 32 = 64 * 4 from rfl, M256_pow] at h
set_option maxRecDepth 100000 in
theorem qreduce_any (s : ByteArray) (w : World) :
    Calls Try.prog 10 #[.string s] w fun e w' => e = .returned (.string (redV s)) ∧ Below w.heap.size w w' := by
  have CR : Hid (∀ w, Calls Try.prog 24 #[.string s, .int .i64 64] w fun e w' => e = .returned (.agg (r64 8 (F4 (numV s 64)))) ∧ Below w.heap.size w w') := Lib.hid (fun w => qread_any s 64 (Nat.le_refl _) w)
  have CD := Lib.hid (fun w => qreduced_any (numV s 64) (numV_lt64 s) w)
  have CW := Lib.hid (fun w => qwritten_any (numV s 64 % qL) w)
  have HV : Hid (redV s = bytesV (numV s 64 % qL)) := Lib.hid rfl
  generalize numV s 64 = n at CR CD CW HV
  generalize n % qL = r at CD CW HV
  generalize bytesV r = t at CW HV
  go_enter Try.func10, Try.ntmps10
  go_wp2_with fail
  refine (CR.out _).mono ?_
  rintro e w1 ⟨rfl, h1⟩
  go_wp2_with fail
  refine (CD.out _).mono ?_
  rintro e w2 ⟨rfl, h2⟩
  go_wp2_with fail
  refine (CW.out _).mono ?_
  rintro e w3 ⟨rfl, h3⟩
  have h12 := h1.trans (h2.mono h1.size)
  have h13 := h12.trans (h3.mono h12.size)
  clear h1 h2 h3 h12
  go_wp2_with fail
  go_ret
  exact ⟨by rw [HV.out]; rfl, h13⟩
theorem qright_any (s : ByteArray) (w : World) :
    Calls Try.prog 12 #[.string s] w fun e w' => e = .returned (.bool (decide (redV s = s))) ∧ Below w.heap.size w w' := by
  have CR := Lib.hid (fun w => qreduce_any s w)
  generalize redV s = r at CR ⊢
  go_enter Try.func12, Try.ntmps12
  go_wp2_with fail
  refine (CR.out _).mono ?_
  rintro e w1 ⟨rfl, hq⟩
  go_wp2_with fail
  rw [text_eq]
  go_ret
  exact ⟨rfl, hq⟩
set_option maxRecDepth 100000 in
theorem qmuladd_any (a b c : ByteArray) (w : World) :
    Calls Try.prog 14 #[.string a, .string b, .string c] w fun e w' => e = .returned (.string (maV a b c)) ∧ Below w.heap.size w w' := by
  have CR : Hid (∀ s w, Calls Try.prog 24 #[.string s, .int .i64 32] w fun e w' => e = .returned (.agg (r64 8 (F4 (numV s 32)))) ∧ Below w.heap.size w w') := Lib.hid (fun s w => qread_any s 32 (by omega) w)
  have CT := Lib.hid (fun w => qtimes_any (numV a 32) (numV b 32) (numV c 32) (numV_M a) (numV_M b) (numV_M c) w)
  have CD := Lib.hid (fun w => qreduced_any (numV a 32 * numV b 32 + numV c 32) (by rw [M256_pow]; exact sum_lt (numV_M a) (numV_M b) (numV_M c)) w)
  have CW := Lib.hid (fun w => qwritten_any ((numV a 32 * numV b 32 + numV c 32) % qL) w)
  have HV : Hid (maV a b c = bytesV ((numV a 32 * numV b 32 + numV c 32) % qL)) := Lib.hid rfl
  have CA := Lib.hid (CR.out a)
  have CB := Lib.hid (CR.out b)
  have CC := Lib.hid (CR.out c)
  clear CR
  generalize numV a 32 = x at *
  generalize numV b 32 = y at *
  generalize numV c 32 = z at *
  generalize x * y + z = n at *
  generalize n % qL = r at *
  generalize bytesV r = t at *
  go_enter Try.func14, Try.ntmps14
  go_wp2_with fail
  refine (CA.out _).mono ?_
  rintro e w1 ⟨rfl, h1⟩
  go_wp2_with fail
  refine (CB.out _).mono ?_
  rintro e w2 ⟨rfl, h2⟩
  go_wp2_with fail
  refine (CC.out _).mono ?_
  rintro e w3 ⟨rfl, h3⟩
  have h12 := h1.trans (h2.mono h1.size)
  have h13 := h12.trans (h3.mono h12.size)
  clear h1 h2 h3 h12
  go_wp2_with fail
  refine (CT.out _).mono ?_
  rintro e w4 ⟨rfl, h4⟩
  go_wp2_with fail
  refine (CD.out _).mono ?_
  rintro e w5 ⟨rfl, h5⟩
  go_wp2_with fail
  refine (CW.out _).mono ?_
  rintro e w6 ⟨rfl, h6⟩
  have h14 := h13.trans (h4.mono h13.size)
  have h15 := h14.trans (h5.mono h14.size)
  have h16 := h15.trans (h6.mono h15.size)
  clear h13 h4 h5 h6 h14 h15
  go_wp2_with fail
  go_ret
  exact ⟨by rw [HV.out]; rfl, h16⟩
end Go.Proofs.Ytnfcgpoafmmioaa
