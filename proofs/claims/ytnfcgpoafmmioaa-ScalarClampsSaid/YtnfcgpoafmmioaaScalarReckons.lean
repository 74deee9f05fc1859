/- ScalarReckons: the walk. -/
import Derived.Test.YtnfcgpoafmmioaaLk
namespace Go.Proofs.Ytnfcgpoafmmioaa
open Go.RowKit
theorem right_same (s : ByteArray) : decide (s.size = 32 ∧ redV s = s) = decide (redV s = s) := by
  rw [decide_eq_decide]
  refine ⟨fun h => h.2, fun h => ⟨?_, h⟩⟩
  rw [← h]; exact bytesV_size _
theorem text_self (r : ByteArray) : (r.toList == r.toList) = true := by rw [text_eq]; exact decide_eq_true rfl
set_option maxRecDepth 100000 in
set_option maxHeartbeats 2000000 in
theorem reckons_any (a b c : ByteArray) (w : World) :
    Calls Try.prog 3 #[.string a, .string b, .string c] w fun e w' => e = .returned (.bool true) ∧ Below w.heap.size w w' := by
  have CX := Lib.hid (fun w => examples_any w)
  obtain ⟨na, hna⟩ : ∃ n, n = min a.size 80 := ⟨_, rfl⟩
  have HMa : Hid (na = min a.size 80) := Lib.hid hna
  have hla : (na : Int) ≤ a.size := by omega
  have hsa : (a.extract 0 na).size ≤ 80 := by rw [ByteArray.size_extract]; omega
  generalize hTa : a.extract 0 na = ta at hsa
  clear hna
  obtain ⟨nb, hnb⟩ : ∃ n, n = min b.size 80 := ⟨_, rfl⟩
  have HMb : Hid (nb = min b.size 80) := Lib.hid hnb
  have hlb : (nb : Int) ≤ b.size := by omega
  have hsb : (b.extract 0 nb).size ≤ 80 := by rw [ByteArray.size_extract]; omega
  generalize hTb : b.extract 0 nb = tb at hsb
  clear hnb
  obtain ⟨nc, hnc⟩ : ∃ n, n = min c.size 80 := ⟨_, rfl⟩
  have HMc : Hid (nc = min c.size 80) := Lib.hid hnc
  have hlc : (nc : Int) ≤ c.size := by omega
  have hsc : (c.extract 0 nc).size ≤ 80 := by rw [ByteArray.size_extract]; omega
  generalize hTc : c.extract 0 nc = tc at hsc
  clear hnc
  have C1 := Lib.hid (fun w => qreduce_any ta w)
  have C2 := Lib.hid (fun w => rreduce_any ta w)
  have C3 := Lib.hid (fun w => qright_any ta w)
  have C4 : Hid (∀ w, Calls Try.prog 13 #[.string ta] w fun e w' => e = .returned (.bool (decide (redV ta = ta))) ∧ Below w.heap.size w w') := Lib.hid (fun w => by
    have h := rright_any ta w
    rwa [right_same] at h)
  have C5 := Lib.hid (fun w => qmuladd_any ta tb tc w)
  have C6 := Lib.hid (fun w => rmuladd_any ta tb tc w)
  generalize decide (redV ta = ta) = rb at C3 C4
  generalize redV ta = r at C1 C2
  generalize maV ta tb tc = m at C5 C6
  have hr := text_self r
  have hm := text_self m
  have hb : (rb == rb) = true := by cases rb <;> rfl
  clear hsa hsb hsc
  go_enter Try.func3, Try.ntmps3
  go_wp2_with fail
  refine (CX.out _).mono ?_
  rintro e w0 ⟨rfl, h0⟩
  go_wp2_with (first | (refine wpList_valQ (R := fun w' => w' = _) (.int .i64 (na : Int)) rfl (by rw [HMa.out]; exact lands_min (.tmp 13) a.size 80 rfl rfl rfl) ?_; intro w' hw'; rw [hw']; clear hw') | (refine wpList_valQ (R := fun w' => w' = _) (.int .i64 (nb : Int)) rfl (by rw [HMb.out]; exact lands_min (.tmp 18) b.size 80 rfl rfl rfl) ?_; intro w' hw'; rw [hw']; clear hw') | (refine wpList_valQ (R := fun w' => w' = _) (.int .i64 (nc : Int)) rfl (by rw [HMc.out]; exact lands_min (.tmp 23) c.size 80 rfl rfl rfl) ?_; intro w' hw'; rw [hw']; clear hw'))
  refine (C1.out _).mono ?_
  rintro e w1 ⟨rfl, h1⟩
  go_wp2_with fail
  refine (C2.out _).mono ?_
  rintro e w2 ⟨rfl, h2⟩
  go_wp2_with fail
  refine (C3.out _).mono ?_
  rintro e w3 ⟨rfl, h3⟩
  go_wp2_with fail
  refine (C4.out _).mono ?_
  rintro e w4 ⟨rfl, h4⟩
  go_wp2_with fail
  refine (C5.out _).mono ?_
  rintro e w5 ⟨rfl, h5⟩
  go_wp2_with fail
  refine (C6.out _).mono ?_
  rintro e w6 ⟨rfl, h6⟩
  have k1 := h0.trans (h1.mono h0.size)
  have k2 := k1.trans (h2.mono k1.size)
  have k3 := k2.trans (h3.mono k2.size)
  have k4 := k3.trans (h4.mono k3.size)
  have k5 := k4.trans (h5.mono k4.size)
  have k6 := k5.trans (h6.mono k5.size)
  clear h0 h1 h2 h3 h4 h5 h6 k1 k2 k3 k4 k5
  go_wp2_with fail
  go_ret
  exact ⟨rfl, k6⟩
end Go.Proofs.Ytnfcgpoafmmioaa
