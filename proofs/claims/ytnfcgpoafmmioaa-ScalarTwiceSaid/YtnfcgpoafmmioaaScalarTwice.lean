/- ScalarTwice: the walk. -/
import Derived.Test.YtnfcgpoafmmioaaLm
namespace Go.Proofs.Ytnfcgpoafmmioaa
open Go.RowKit
set_option maxRecDepth 100000 in
set_option maxHeartbeats 4000000 in
theorem twice_any (a b c : ByteArray) (w : World) :
    Calls Try.prog 5 #[.string a, .string b, .string c] w fun e w' => e = .returned (.bool true) ∧ Below w.heap.size w w' := by
  have CX := Lib.hid (fun w => examples_any w)
  obtain ⟨na, hna⟩ : ∃ n, n = min a.size 32 := ⟨_, rfl⟩
  have HMa : Hid (na = min a.size 32) := Lib.hid hna
  have hla : (na : Int) ≤ a.size := by omega
  have hsa : (a.extract 0 na).size ≤ 32 := by rw [ByteArray.size_extract]; omega
  generalize hTa : a.extract 0 na = ta at hsa
  clear hna
  obtain ⟨nb, hnb⟩ : ∃ n, n = min b.size 32 := ⟨_, rfl⟩
  have HMb : Hid (nb = min b.size 32) := Lib.hid hnb
  have hlb : (nb : Int) ≤ b.size := by omega
  have hsb : (b.extract 0 nb).size ≤ 32 := by rw [ByteArray.size_extract]; omega
  generalize hTb : b.extract 0 nb = tb at hsb
  clear hnb
  obtain ⟨nc, hnc⟩ : ∃ n, n = min c.size 32 := ⟨_, rfl⟩
  have HMc : Hid (nc = min c.size 32) := Lib.hid hnc
  have hlc : (nc : Int) ≤ c.size := by omega
  have hsc : (c.extract 0 nc).size ≤ 32 := by rw [ByteArray.size_extract]; omega
  generalize hTc : c.extract 0 nc = tc at hsc
  clear hnc
  have C1 : Hid (∀ w, Calls Try.prog 10 #[.string ta] w fun e w' => e = .returned (.string (redV ta)) ∧ Below w.heap.size w w') := Lib.hid (fun w => by
    have h := qreduce_any ta w
    exact h)
  have C2 : Hid (∀ w, Calls Try.prog 14 #[.string ta, .string tb, .string tc] w fun e w' => e = .returned (.string (maV ta tb tc)) ∧ Below w.heap.size w w') := Lib.hid (fun w => by
    have h := qmuladd_any ta tb tc w
    exact h)
  have C3 : Hid (∀ w, Calls Try.prog 12 #[.string (redV ta)] w fun e w' => e = .returned (.bool true) ∧ Below w.heap.size w w') := Lib.hid (fun w => by
    have h := qright_any (redV ta) w
    rw [show redV (redV ta) = redV ta from by rw [redV_short ta hsa, redV_red], decide_eq_true rfl] at h
    exact h)
  have C4 : Hid (∀ w, Calls Try.prog 10 #[.string (redV ta)] w fun e w' => e = .returned (.string (redV ta)) ∧ Below w.heap.size w w') := Lib.hid (fun w => by
    have h := qreduce_any (redV ta) w
    rw [show redV (redV ta) = redV ta from by rw [redV_short ta hsa, redV_red]] at h
    exact h)
  have C5 : Hid (∀ w, Calls Try.prog 14 #[.string tb, .string ta, .string tc] w fun e w' => e = .returned (.string (maV ta tb tc)) ∧ Below w.heap.size w w') := Lib.hid (fun w => by
    have h := qmuladd_any tb ta tc w
    rw [maV_turn] at h
    exact h)
  have C6 : Hid (∀ w, Calls Try.prog 10 #[.string tb] w fun e w' => e = .returned (.string (redV tb)) ∧ Below w.heap.size w w') := Lib.hid (fun w => by
    have h := qreduce_any tb w
    exact h)
  have C7 : Hid (∀ w, Calls Try.prog 10 #[.string tc] w fun e w' => e = .returned (.string (redV tc)) ∧ Below w.heap.size w w') := Lib.hid (fun w => by
    have h := qreduce_any tc w
    exact h)
  have C8 : Hid (∀ w, Calls Try.prog 14 #[.string (redV ta), .string (redV tb), .string (redV tc)] w fun e w' => e = .returned (.string (maV ta tb tc)) ∧ Below w.heap.size w w') := Lib.hid (fun w => by
    have h := qmuladd_any (redV ta) (redV tb) (redV tc) w
    rw [maV_red ta tb tc hsa hsb hsc] at h
    exact h)
  have C9 : Hid (∀ w, Calls Try.prog 20 #[] w fun e w' => e = .returned (.string (bytesV qL)) ∧ Below w.heap.size w w') := Lib.hid (fun w => by
    have h := lorder_any w
    exact h)
  have C10 : Hid (∀ w, Calls Try.prog 14 #[.string ta, .string ⟨#[1]⟩, .string (bytesV qL)] w fun e w' => e = .returned (.string (redV ta)) ∧ Below w.heap.size w w') := Lib.hid (fun w => by
    have h := qmuladd_any ta ⟨#[1]⟩ (bytesV qL) w
    rw [maV_order ta hsa] at h
    exact h)
  have C11 : Hid (∀ w, Calls Try.prog 14 #[.string ta, .string ⟨#[]⟩, .string tc] w fun e w' => e = .returned (.string (redV tc)) ∧ Below w.heap.size w w') := Lib.hid (fun w => by
    have h := qmuladd_any ta ⟨#[]⟩ tc w
    rw [maV_none ta tc hsc] at h
    exact h)
  have hrs : (redV ta).size = 32 := bytesV_size _
  generalize bytesV qL = t at C9 C10
  generalize maV ta tb tc = x at C2 C5 C8
  generalize redV ta = r at C1 C3 C4 C8 C10 hrs
  generalize redV tb = rb at C6 C8
  generalize redV tc = rc at C7 C8 C11
  have hr := text_self r
  have hx := text_self x
  have hrc := text_self rc
  clear hsa hsb hsc
  go_enter Try.func5, Try.ntmps5
  go_wp2_with fail
  refine (CX.out _).mono ?_
  rintro e w0 ⟨rfl, h0⟩
  go_wp2_with (first | (refine wpList_valQ (R := fun w' => w' = _) (.int .i64 (na : Int)) rfl (by rw [HMa.out]; exact lands_min (.tmp 15) a.size 32 rfl rfl rfl) ?_; intro w' hw'; rw [hw']; clear hw') | (refine wpList_valQ (R := fun w' => w' = _) (.int .i64 (nb : Int)) rfl (by rw [HMb.out]; exact lands_min (.tmp 20) b.size 32 rfl rfl rfl) ?_; intro w' hw'; rw [hw']; clear hw') | (refine wpList_valQ (R := fun w' => w' = _) (.int .i64 (nc : Int)) rfl (by rw [HMc.out]; exact lands_min (.tmp 25) c.size 32 rfl rfl rfl) ?_; intro w' hw'; rw [hw']; clear hw'))
  refine (C1.out _).mono ?_
  rintro e w1 ⟨rfl, h1⟩
  go_wp2_with fail
  refine (C2.out _).mono ?_
  rintro e w2 ⟨rfl, h2⟩
  go_wp2_with fail
  refine (C3.out _).mono ?_
  rintro e w3 ⟨rfl, h3⟩
  go_wp2_with fail
  refine (C4.out _).mono ?_
  rintro e w4 ⟨rfl, h4⟩
  go_wp2_with fail
  refine (C5.out _).mono ?_
  rintro e w5 ⟨rfl, h5⟩
  go_wp2_with fail
  refine (C6.out _).mono ?_
  rintro e w6 ⟨rfl, h6⟩
  go_wp2_with fail
  refine (C7.out _).mono ?_
  rintro e w7 ⟨rfl, h7⟩
  go_wp2_with fail
  refine (C8.out _).mono ?_
  rintro e w8 ⟨rfl, h8⟩
  go_wp2_with fail
  refine (C9.out _).mono ?_
  rintro e w9 ⟨rfl, h9⟩
  go_wp2_with fail
  refine (C10.out _).mono ?_
  rintro e w10 ⟨rfl, h10⟩
  go_wp2_with fail
  refine (C11.out _).mono ?_
  rintro e w11 ⟨rfl, h11⟩
  go_wp2_with fail
  refine (C7.out _).mono ?_
  rintro e w12 ⟨rfl, h12⟩
  have k1 := h0.trans (h1.mono h0.size)
  have k2 := k1.trans (h2.mono k1.size)
  have k3 := k2.trans (h3.mono k2.size)
  have k4 := k3.trans (h4.mono k3.size)
  have k5 := k4.trans (h5.mono k4.size)
  have k6 := k5.trans (h6.mono k5.size)
  have k7 := k6.trans (h7.mono k6.size)
  have k8 := k7.trans (h8.mono k7.size)
  have k9 := k8.trans (h9.mono k8.size)
  have k10 := k9.trans (h10.mono k9.size)
  have k11 := k10.trans (h11.mono k10.size)
  have k12 := k11.trans (h12.mono k11.size)
  clear h0 h1 h2 h3 h4 h5 h6 h7 h8 h9 h10 h11 h12 k1 k2 k3 k4 k5 k6 k7 k8 k9 k10 k11
  go_wp2_with fail
  go_ret
  exact ⟨rfl, k12⟩
end Go.Proofs.Ytnfcgpoafmmioaa
