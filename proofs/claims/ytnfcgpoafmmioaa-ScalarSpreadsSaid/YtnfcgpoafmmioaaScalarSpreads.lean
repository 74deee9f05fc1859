/- ScalarSpreads: the walk. -/
import Derived.Test.YtnfcgpoafmmioaaLm
namespace Go.Proofs.Ytnfcgpoafmmioaa
open Go.RowKit
theorem byteS_append (s t : ByteArray) (j : Nat) : byteS (s ++ t) j = if j < s.size then byteS s j else byteS t (j - s.size) := by
  unfold byteS
  by_cases h : j < s.size
  · rw [if_pos h, dif_pos (by rw [ByteArray.size_append]; omega), dif_pos h, ByteArray.getElem_append_left h]
  · rw [if_neg h]
    by_cases h2 : j - s.size < t.size
    · rw [dif_pos (by rw [ByteArray.size_append]; omega), dif_pos h2, ByteArray.getElem_append_right (by omega)]
    · rw [dif_neg (by rw [ByteArray.size_append]; omega), dif_neg h2]
theorem two_zero (j : Nat) : byteS ⟨#[0, 0]⟩ j = 0 := by
  by_cases h : j < 2
  · have : ∀ i : Fin 2, byteS ⟨#[0, 0]⟩ i.val = 0 := by decide
    exact this ⟨j, h⟩
  · exact byteS_out _ _ h
theorem bv_more (f : Nat → Nat) (n : Nat) : ∀ d, (∀ j, n ≤ j → f j = 0) → bv f (n + d) = bv f n
  | 0, _ => rfl
  | d + 1, h => by
    show bv f (n + d) + f (n + d) * _ = _
    rw [h (n + d) (by omega), Nat.zero_mul, Nat.add_zero, bv_more f n d h]
theorem numV_zeros (s : ByteArray) (m : Nat) (h : s.size + 2 ≤ m) : numV (s ++ ⟨#[0, 0]⟩) m = numV s m := by
  unfold numV
  have hsz : (s ++ ⟨#[0, 0]⟩ : ByteArray).size = s.size + 2 := by rw [ByteArray.size_append]; rfl
  rw [hsz, show min (s.size + 2) m = s.size + 2 by omega, show min s.size m = s.size by omega, bv_more _ s.size 2 (fun j hj => by rw [byteS_append, if_neg (by omega), two_zero])]
  exact bv_congr _ (fun j hj => by rw [byteS_append, if_pos hj])
theorem redV_zeros (s : ByteArray) (h : s.size ≤ 30) : redV (s ++ ⟨#[0, 0]⟩) = redV s := by
  unfold redV; rw [numV_zeros s 64 (by omega)]
theorem maV_sum (a b : ByteArray) : maV a ⟨#[1]⟩ b = bytesV ((numV a 32 + numV b 32) % qL) := by
  unfold maV; rw [numV_one, Nat.mul_one]
theorem maV_sum_turn (a b : ByteArray) : maV b ⟨#[1]⟩ a = maV a ⟨#[1]⟩ b := by rw [maV_sum, maV_sum, Nat.add_comm]
theorem maV_spread (a b c : ByteArray) : maV a c (maV b c ⟨#[]⟩) = maV (maV a ⟨#[1]⟩ b) c ⟨#[]⟩ := by
  rw [maV_sum]
  unfold maV
  rw [numV_bytesV _ 32 (by omega) (mod_M _), numV_bytesV _ 32 (by omega) (mod_M _), numV_none]
  rw [Nat.add_zero, Nat.add_zero, Nat.add_mod_mod, ← Nat.add_mul]
  rw [Nat.mul_mod ((numV a 32 + numV b 32) % qL) (numV c 32), Nat.mod_mod, ← Nat.mul_mod]
set_option maxRecDepth 100000 in
set_option maxHeartbeats 4000000 in
theorem spreads_any (a b c : ByteArray) (w : World) :
    Calls Try.prog 6 #[.string a, .string b, .string c] w fun e w' => e = .returned (.bool true) ∧ Below w.heap.size w w' := by
  have CX := Lib.hid (fun w => examples_any w)
  obtain ⟨na, hna⟩ : ∃ n, n = min a.size 30 := ⟨_, rfl⟩
  have HMa : Hid (na = min a.size 30) := Lib.hid hna
  have hla : (na : Int) ≤ a.size := by omega
  have hsa : (a.extract 0 na).size ≤ 30 := by rw [ByteArray.size_extract]; omega
  generalize hTa : a.extract 0 na = ta at hsa
  clear hna
  obtain ⟨nb, hnb⟩ : ∃ n, n = min b.size 30 := ⟨_, rfl⟩
  have HMb : Hid (nb = min b.size 30) := Lib.hid hnb
  have hlb : (nb : Int) ≤ b.size := by omega
  have hsb : (b.extract 0 nb).size ≤ 30 := by rw [ByteArray.size_extract]; omega
  generalize hTb : b.extract 0 nb = tb at hsb
  clear hnb
  obtain ⟨nc, hnc⟩ : ∃ n, n = min c.size 30 := ⟨_, rfl⟩
  have HMc : Hid (nc = min c.size 30) := Lib.hid hnc
  have hlc : (nc : Int) ≤ c.size := by omega
  have hsc : (c.extract 0 nc).size ≤ 30 := by rw [ByteArray.size_extract]; omega
  generalize hTc : c.extract 0 nc = tc at hsc
  clear hnc
  have C1 : Hid (∀ w, Calls Try.prog 14 #[.string ta, .string ⟨#[1]⟩, .string tb] w fun e w' => e = .returned (.string (maV ta ⟨#[1]⟩ tb)) ∧ Below w.heap.size w w') := Lib.hid (fun w => by
    have h := qmuladd_any ta ⟨#[1]⟩ tb w
    exact h)
  have C2 : Hid (∀ w, Calls Try.prog 14 #[.string (maV ta ⟨#[1]⟩ tb), .string tc, .string ⟨#[]⟩] w fun e w' => e = .returned (.string (maV (maV ta ⟨#[1]⟩ tb) tc ⟨#[]⟩)) ∧ Below w.heap.size w w') := Lib.hid (fun w => by
    have h := qmuladd_any (maV ta ⟨#[1]⟩ tb) tc ⟨#[]⟩ w
    exact h)
  have C3 : Hid (∀ w, Calls Try.prog 14 #[.string tb, .string tc, .string ⟨#[]⟩] w fun e w' => e = .returned (.string (maV tb tc ⟨#[]⟩)) ∧ Below w.heap.size w w') := Lib.hid (fun w => by
    have h := qmuladd_any tb tc ⟨#[]⟩ w
    exact h)
  have C4 : Hid (∀ w, Calls Try.prog 14 #[.string ta, .string tc, .string (maV tb tc ⟨#[]⟩)] w fun e w' => e = .returned (.string (maV (maV ta ⟨#[1]⟩ tb) tc ⟨#[]⟩)) ∧ Below w.heap.size w w') := Lib.hid (fun w => by
    have h := qmuladd_any ta tc (maV tb tc ⟨#[]⟩) w
    rw [maV_spread] at h
    exact h)
  have C5 : Hid (∀ w, Calls Try.prog 10 #[.string (ta ++ ⟨#[0, 0]⟩)] w fun e w' => e = .returned (.string (redV ta)) ∧ Below w.heap.size w w') := Lib.hid (fun w => by
    have h := qreduce_any (ta ++ ⟨#[0, 0]⟩) w
    rw [redV_zeros ta hsa] at h
    exact h)
  have C6 : Hid (∀ w, Calls Try.prog 10 #[.string ta] w fun e w' => e = .returned (.string (redV ta)) ∧ Below w.heap.size w w') := Lib.hid (fun w => by
    have h := qreduce_any ta w
    exact h)
  have C7 : Hid (∀ w, Calls Try.prog 14 #[.string tb, .string ⟨#[1]⟩, .string ta] w fun e w' => e = .returned (.string (maV ta ⟨#[1]⟩ tb)) ∧ Below w.heap.size w w') := Lib.hid (fun w => by
    have h := qmuladd_any tb ⟨#[1]⟩ ta w
    rw [maV_sum_turn] at h
    exact h)
  generalize maV (maV ta ⟨#[1]⟩ tb) tc ⟨#[]⟩ = lf at C2 C4
  generalize maV ta ⟨#[1]⟩ tb = sm at C1 C2 C7
  generalize maV tb tc ⟨#[]⟩ = bc at C3 C4
  generalize redV ta = r at C5 C6
  have hr := text_self r
  have hx := text_self lf
  have hrc := text_self sm
  clear hsb hsc
  go_enter Try.func6, Try.ntmps6
  go_wp2_with fail
  refine (CX.out _).mono ?_
  rintro e w0 ⟨rfl, h0⟩
  go_wp2_with (first | (refine wpList_valQ (R := fun w' => w' = _) (.int .i64 (na : Int)) rfl (by rw [HMa.out]; exact lands_min (.tmp 16) a.size 30 rfl rfl rfl) ?_; intro w' hw'; rw [hw']; clear hw') | (refine wpList_valQ (R := fun w' => w' = _) (.int .i64 (nb : Int)) rfl (by rw [HMb.out]; exact lands_min (.tmp 21) b.size 30 rfl rfl rfl) ?_; intro w' hw'; rw [hw']; clear hw') | (refine wpList_valQ (R := fun w' => w' = _) (.int .i64 (nc : Int)) rfl (by rw [HMc.out]; exact lands_min (.tmp 26) c.size 30 rfl rfl rfl) ?_; intro w' hw'; rw [hw']; clear hw'))
  refine (C1.out _).mono ?_
  rintro e w1 ⟨rfl, h1⟩
  go_wp2_with fail
  refine (C2.out _).mono ?_
  rintro e w2 ⟨rfl, h2⟩
  go_wp2_with fail
  refine (C3.out _).mono ?_
  rintro e w3 ⟨rfl, h3⟩
  go_wp2_with fail
  refine (C4.out _).mono ?_
  rintro e w4 ⟨rfl, h4⟩
  go_wp2_with fail
  refine (C5.out _).mono ?_
  rintro e w5 ⟨rfl, h5⟩
  go_wp2_with fail
  refine (C6.out _).mono ?_
  rintro e w6 ⟨rfl, h6⟩
  go_wp2_with fail
  refine (C7.out _).mono ?_
  rintro e w7 ⟨rfl, h7⟩
  have k1 := h0.trans (h1.mono h0.size)
  have k2 := k1.trans (h2.mono k1.size)
  have k3 := k2.trans (h3.mono k2.size)
  have k4 := k3.trans (h4.mono k3.size)
  have k5 := k4.trans (h5.mono k4.size)
  have k6 := k5.trans (h6.mono k5.size)
  have k7 := k6.trans (h7.mono k6.size)
  clear h0 h1 h2 h3 h4 h5 h6 h7 k1 k2 k3 k4 k5 k6
  go_wp2_with fail
  go_ret
  exact ⟨rfl, k7⟩
end Go.Proofs.Ytnfcgpoafmmioaa
