/- The reference's TakeNumber of chapter 7. -/
import Derived.Test.YtbipbkancghkfaaDoorUe
namespace Go.Proofs.YtbipbkancghkfaaDoor
open Go.RowKit
/-- What TakeNumber answers. -/
noncomputable def takeV (s : ByteArray) : Nat × Bool :=
  open Classical in if h : ∃ n, n ≤ 4611686018427387904 ∧ decT n = s then (Classical.choose h, true) else (0, false)
theorem takeV_of {s : ByteArray} {n : Nat} (hn : n ≤ 4611686018427387904) (h : decT n = s) : takeV s = (n, true) := by
  unfold takeV
  have hx : ∃ n, n ≤ 4611686018427387904 ∧ decT n = s := ⟨n, hn, h⟩
  rw [dif_pos hx, decT_inj ((Classical.choose_spec hx).2.trans h.symm)]
theorem takeV_not {s : ByteArray} (h : ∀ n, n ≤ 4611686018427387904 → decT n ≠ s) : takeV s = (0, false) := by
  unfold takeV
  rw [dif_neg (fun hx => h _ hx.choose_spec.1 hx.choose_spec.2)]
/-- What the first k digits say. -/
def dv (s : ByteArray) : Nat → Nat
  | 0 => 0
  | k + 1 => 10 * dv s k + (byteS s k - 48)
theorem dv_dec (n : Nat) : ∀ k, k ≤ decN n → dv (decT n) k = n / 10 ^ (decN n - k)
  | 0, _ => by
    show 0 = _
    rw [Nat.sub_zero]; exact (Nat.div_eq_of_lt (decN_lt n)).symm
  | k + 1, hk => by
    show 10 * dv (decT n) k + (byteS (decT n) k - 48) = _
    rw [dv_dec n k (by omega), decT_at n k (by omega)]
    unfold decB
    rw [show decN n - 1 - k = decN n - (k + 1) by omega, show decN n - k = decN n - (k + 1) + 1 by omega, Nat.pow_succ, ← Nat.div_div_eq_div_mul]
    omega
theorem take_digit {s : ByteArray} {m : Nat} (hm : m < s.size) (h : ¬ (48 ≤ byteS s m ∧ byteS s m ≤ 57)) : takeV s = (0, false) := takeV_not fun n _ e => h (by
  subst e
  rw [decT_at n m (by rw [decT_size] at hm; exact hm)]
  unfold decB; omega)
theorem take_great {s : ByteArray} {m : Nat} (hm : m < s.size) (h : 461168601842738790 < dv s m) : takeV s = (0, false) := takeV_not fun n hn e => by
  subst e
  rw [decT_size] at hm
  rw [dv_dec n m (by omega), show decN n - m = decN n - (m + 1) + 1 by omega, Nat.pow_succ, ← Nat.div_div_eq_div_mul] at h
  have := Nat.div_le_self n (10 ^ (decN n - (m + 1)))
  omega
theorem take_other {s : ByteArray} (h : decT (dv s s.size) ≠ s) : takeV s = (0, false) := takeV_not fun n _ e => h (by
  subst e
  rw [decT_size, dv_dec n _ (Nat.le_refl _), Nat.sub_self, Nat.pow_zero, Nat.div_one])
theorem take_over {s : ByteArray} (h : 4611686018427387904 < dv s s.size) : takeV s = (0, false) := takeV_not fun n hn e => by
  subst e
  rw [decT_size, dv_dec n _ (Nat.le_refl _), Nat.sub_self, Nat.pow_zero, Nat.div_one] at h
  omega
theorem toList_ne {a b : ByteArray} (h : a ≠ b) : (a.toList == b.toList) = false := by
  rw [beq_eq_false_iff_ne]
  intro e
  rw [ByteArray.toList_eq, ByteArray.toList_eq] at e
  exact h (by cases a; cases b; exact congrArg ByteArray.mk (Array.toList_inj.1 e))
set_option maxRecDepth 100000 in
set_option maxHeartbeats 4000000 in
theorem rtake7_any (s : ByteArray) (r : Nat) (b : Bool) (w : World) (hs : s.size ≤ 1000000000000000) (hr0 : takeV s = (r, b)) :
    Calls Tryd.prog 21 #[.string s] w fun e w' => e = .returned (.tuple #[.int .i64 (r : Int), .bool b]) ∧ Below w.heap.size w w' := by
  have HR := Lib.hid hr0
  clear hr0
  go_enter Tryd.func21, Tryd.ntmps21
  go_wp2_with fail
  go_loopw [4, 5] (fun n i wr => ∃ k : Nat, k ≤ s.size ∧ i = .int .i64 (k : Int) ∧ n = .int .i64 (dv s k : Int) ∧ Hid (dv s k ≤ 4611686018427387909) ∧ wr = w) (fun _ i _ => s.size - (intOf i).toNat)
  case atStart => exact ⟨0, by omega, rfl, rfl, Lib.hid (by show 0 ≤ _; omega), rfl⟩
  case round =>
    obtain ⟨k, hk, rfl, rfl, HN, rfl⟩ := hrel
    by_cases hlt : k < s.size
    · have hki : (k : Int) < s.size := by omega
      have e8 := byteS_at s k hlt
      have hc := (s[k]).toNat_lt
      have HS : Hid (dv s (k + 1) = 10 * dv s k + ((s[k]).toNat - 48)) := Lib.hid (by rw [e8]; rfl)
      have HB1 : Hid (¬ (48 ≤ (s[k]).toNat ∧ (s[k]).toNat ≤ 57) → takeV s = (0, false)) := Lib.hid (fun h => take_digit hlt (by rw [← e8]; exact h))
      have HB2 : Hid (461168601842738790 < dv s k → takeV s = (0, false)) := Lib.hid (fun h => take_great hlt h)
      clear e8
      generalize dv s k = n at *
      by_cases h1 : 48 ≤ (s[k]).toNat ∧ (s[k]).toNat ≤ 57
      · obtain ⟨h1a, h1b⟩ := h1
        have g1 : (48 : Int) ≤ ((s[k]).toNat : Int) := by omega
        have g2 : ((s[k]).toNat : Int) ≤ 57 := by omega
        by_cases h2 : 461168601842738790 < n
        · have g3 : (461168601842738790 : Int) < (n : Int) := by omega
          have hB := HB2.out h2
          rw [HR.out] at hB
          injection hB with hB1 hB2
          subst hB1 hB2
          clear HB1 HB2 h2
          go_wp2_with fail
          go_ret2
          exact ⟨rfl, Below.refl _ _⟩
        · have g3 : ¬ (461168601842738790 : Int) < (n : Int) := by omega
          have hw1 : IntKind.i64.wrap (10 * (n : Int)) = 10 * (n : Int) := IntWalk.i64_in _ (by omega)
          obtain ⟨d, hd⟩ : ∃ d, d = (s[k]).toNat - 48 := ⟨_, rfl⟩
          have hd1 : ((s[k]).toNat : Int) - 48 = (d : Int) := by omega
          have hd2 : IntKind.u8.wrap ((s[k]).toNat - 48 : Int) = (d : Int) := by rw [IntKind.wrap_u8]; omega
          have hd9 : d ≤ 9 := by omega
          have hw2 : IntKind.i64.wrap (10 * (n : Int) + (d : Int)) = ((10 * n + d : Nat) : Int) := by rw [IntWalk.i64_in _ (by omega)]; omega
          have HS2 : Hid (dv s (k + 1) = 10 * n + d) := Lib.hid (by rw [HS.out, hd])
          have HN2 : Hid (dv s (k + 1) ≤ 4611686018427387909) := Lib.hid (by rw [HS2.out]; omega)
          clear HB1 HB2 h2 hd HS HN
          go_wp2_with fail
          go_roundw
          case rel => exact ⟨k + 1, by omega, by go_num, by rw [HS2.out]; go_num, HN2, trivial⟩
          case measure => simp [intOf]; omega
      · have hB := HB1.out h1
        rw [HR.out] at hB
        injection hB with hB1 hB2
        subst hB1 hB2
        clear HB1 HB2
        go_wp2_with fail
        all_goals
          go_ret2
          exact ⟨rfl, Below.refl _ _⟩
    · obtain rfl : k = s.size := by omega
      have hn := HN.out
      have CN := Lib.hid (fun w => rnum7_pos (dv s s.size) w (by omega))
      have HO := Lib.hid (take_other (s := s))
      have HV := Lib.hid (take_over (s := s))
      have HG : Hid (dv s s.size ≤ 4611686018427387904 → decT (dv s s.size) = s → takeV s = (dv s s.size, true)) := Lib.hid (fun a b => takeV_of a b)
      generalize dv s s.size = n at *
      clear hn
      go_wp2_with fail
      refine (CN.out _).mono ?_
      rintro e w1 ⟨rfl, b1⟩
      by_cases hT : decT n = s
      · rw [hT]
        by_cases hv : n ≤ 4611686018427387904
        · have g3 : ¬ (4611686018427387904 : Int) < (n : Int) := by omega
          have hB := HG.out hv hT
          rw [HR.out] at hB
          injection hB with hB1 hB2
          subst hB1 hB2
          clear HG HO HV hT hv
          go_wp2_with fail
          go_ret2
          exact ⟨rfl, b1⟩
        · have g3 : (4611686018427387904 : Int) < (n : Int) := by omega
          have hB := HV.out (by omega)
          rw [HR.out] at hB
          injection hB with hB1 hB2
          subst hB1 hB2
          clear HG HO HV hT hv
          go_wp2_with fail
          go_ret2
          exact ⟨rfl, b1⟩
      · have hne := toList_ne hT
        have hB := HO.out hT
        rw [HR.out] at hB
        injection hB with hB1 hB2
        subst hB1 hB2
        clear HG HO HV hT
        generalize decT n = u at *
        go_wp2_with fail
        go_ret2
        exact ⟨rfl, b1⟩
end Go.Proofs.YtbipbkancghkfaaDoor
