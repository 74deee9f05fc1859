/- strings.TrimRight at one sign. -/
import Derived.Test.YtbipbkancghkfaaDoorTxt
import Derived.IntWalk
namespace Go.Proofs.YtbipbkancghkfaaDoor
open Go.RowKit
/-- How much of the first k bytes stands without '=' behind. -/
def tr (s : ByteArray) : Nat → Nat
  | 0 => 0
  | k + 1 => if byteS s k = 61 then tr s k else k + 1
theorem tr_le (s : ByteArray) : ∀ k, tr s k ≤ k
  | 0 => Nat.le_refl _
  | k + 1 => by
    have := tr_le s k
    unfold tr; split <;> omega
theorem ext_ext (s : ByteArray) (k j : Nat) (hj : j ≤ k) : (s.extract 0 k).extract 0 j = s.extract 0 j := by
  rw [ByteArray.extract_extract, Nat.zero_add, Nat.min_eq_left (by omega)]
  simp
set_option maxRecDepth 100000 in
set_option maxHeartbeats 2000000 in
theorem trimByte_any (s : ByteArray) (hs : s.size ≤ 300000000000000) (w : World) :
    Calls Tryd.prog 27 #[.string s, .int .u8 61] w fun e w' => e = .returned (.string (s.extract 0 (tr s s.size))) ∧ w' = w := by
  obtain ⟨t0, ht0⟩ : ∃ t, t = tr s s.size := ⟨_, rfl⟩
  rw [← ht0]
  have HT0 := Lib.hid ht0
  clear ht0
  go_enter Tryd.func27, Tryd.ntmps27
  go_wp2_with fail
  have h0 : s = s.extract 0 s.size := (ByteArray.extract_zero_size).symm
  go_loopw [0] (fun v wr => ∃ (t : ByteArray) (k : Nat), v = .string t ∧ t = s.extract 0 k ∧ t.size = k ∧ k ≤ s.size ∧ tr s k = t0 ∧ wr = w) (fun v _ => match v with | .string t => t.size | _ => 0)
  case atStart => exact ⟨s, s.size, rfl, h0, rfl, Nat.le_refl _, HT0.out.symm, rfl⟩
  case round =>
    clear h0
    obtain ⟨t, k, rfl, ht, hk, hks, htr, rfl⟩ := hrel
    have HT := Lib.hid ht
    have HR := Lib.hid htr
    clear ht htr
    by_cases hz : k = 0
    · have hzi : ¬ (t.size : Int) > 0 := by omega
      have HK := Lib.hid hk
      have HZ := Lib.hid hz
      clear hk hz
      go_wp2_with fail
      go_ret
      refine ⟨?_, rfl⟩
      rw [HT.out, ← HR.out, HZ.out]; rfl
    · have hzi : (t.size : Int) > 0 := by omega
      obtain ⟨j, hj⟩ : ∃ j, j = k - 1 := ⟨_, rfl⟩
      have hjt : j < t.size := by omega
      have hji : IntKind.i64.wrap ((t.size : Int) - 1) = (j : Int) := by rw [IntWalk.i64_in _ (by omega)]; omega
      have hb : (t[j]).toNat = byteS s j := by
        rw [byteS_at t j hjt, HT.out, byteS_ext s 0 k j hks (by omega), Nat.zero_add]
      obtain ⟨c, hc⟩ : ∃ c, c = (t[j]).toNat := ⟨_, rfl⟩
      have HB := Lib.hid hb
      have HJ := Lib.hid hj
      have HK := Lib.hid hk
      have hk1 : k = j + 1 := by omega
      have HK1 := Lib.hid hk1
      clear hb hj hk hk1
      by_cases h61 : (t[j]).toNat = 61
      · have h61i : ((t[j]).toNat : Int) = 61 := by omega
        go_wp2_with fail
        go_roundw
        case rel =>
          refine ⟨_, j, rfl, by rw [HT.out, ext_ext s k j (by have := HJ.out; omega)], by rw [ByteArray.size_extract]; omega, by have := HJ.out; omega, ?_, trivial⟩
          have hr := HR.out
          rw [HK1.out, tr, if_pos (by rw [← HB.out]; exact h61)] at hr
          exact hr
        case measure =>
          show (t.extract 0 j).size < t.size
          rw [ByteArray.size_extract]; omega
      · have h61i : ¬ ((t[j]).toNat : Int) = 61 := by omega
        go_wp2_with fail
        go_ret
        refine ⟨?_, rfl⟩
        have hr := HR.out
        rw [HK1.out, tr, if_neg (by rw [← HB.out]; exact h61), ← HK1.out] at hr
        show Ending.returned (.string t) = _
        rw [HT.out, hr]
set_option maxRecDepth 100000 in
set_option maxHeartbeats 2000000 in
theorem trim_any (s : ByteArray) (hs : s.size ≤ 300000000000000) (w : World) :
    Calls Tryd.prog 22 #[.string s, .string ⟨#[61]⟩] w fun e w' => e = .returned (.string (s.extract 0 (tr s s.size))) ∧ w' = w := by
  have C := Lib.hid (fun w => trimByte_any s hs w)
  have h0 : s.toList.isEmpty = true → s.extract 0 (tr s s.size) = s := fun h => by
    have hz : s.size = 0 := by
      have h1 : s.toList = [] := by simpa using h
      have h2 : s.data.toList = [] := by rw [← ByteArray.toList_eq]; exact h1
      have h3 : s.data.toList.length = 0 := by rw [h2]; rfl
      simpa using h3
    rw [hz]
    have : s = ByteArray.empty := ByteArray.size_eq_zero_iff.1 hz
    rw [this]; rfl
  generalize s.extract 0 (tr s s.size) = t at C h0
  go_enter Tryd.func22, Tryd.ntmps22
  cases he : s.toList.isEmpty with
  | true =>
    obtain rfl := h0 he
    clear h0
    go_wp2_with fail
    go_ret
    exact ⟨rfl, rfl⟩
  | false =>
    clear h0
    go_wp2_with fail
    refine (C.out _).mono ?_
    rintro e w1 ⟨rfl, rfl⟩
    clear C
    go_wp2_with fail
    go_ret
    exact ⟨rfl, rfl⟩
end Go.Proofs.YtbipbkancghkfaaDoor
