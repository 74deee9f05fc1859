/- B64Digits: the walk. -/
import Derived.Test.YtbipbkancghkfaaDoorVb
namespace Go.Proofs.YtbipbkancghkfaaDoor
open Go.RowKit
/-- Where the signs that fill up begin. -/
def fillP (n : Nat) : Nat := (4 * n + 2) / 3
theorem e64_fill (s : ByteArray) (j : Nat) (h : j < (s.size + 2) / 3 * 4) : (j < fillP s.size → ∃ x, x < 64 ∧ byteS (e64 s) j = d64 x) ∧ (¬ j < fillP s.size → byteS (e64 s) j = 61) := by
  rw [e64_at s j h]
  unfold e64B fillP
  constructor
  · intro h1
    rw [if_pos (by omega)]
    exact ⟨_, six_lt _ _, rfl⟩
  · intro h1
    rw [if_neg (by omega)]
theorem d64_class (x : Nat) (h : x < 64) : (97 ≤ d64 x ∧ d64 x ≤ 122) ∨ (65 ≤ d64 x ∧ d64 x ≤ 90) ∨ (48 ≤ d64 x ∧ d64 x ≤ 57) ∨ d64 x = 43 ∨ d64 x = 47 := by
  unfold d64; (repeat' split) <;> omega
set_option maxRecDepth 100000 in
set_option maxHeartbeats 4000000 in
theorem digits7_any (s : ByteArray) (w : World) (hs : s.size ≤ 140737488351232) :
    Calls Tryd.prog 8 #[.string s] w fun e w' => e = .returned (.bool true) ∧ Below w.heap.size w w' := by
  have C1 := Lib.hid (enc_b64 s _ (Nat.le_trans hs (by decide)) rfl)
  have hz := e64_size s
  have HE := Lib.hid (e64_fill s)
  obtain ⟨P, hP⟩ : ∃ P, P = fillP s.size := ⟨_, rfl⟩
  have hP2 : P = (4 * s.size + 2) / 3 := by rw [hP]; rfl
  have HP2 := Lib.hid hP2
  have HZ := Lib.hid hz
  rw [← hP] at HE
  generalize e64 s = E at *
  clear hP
  go_enter Tryd.func8, Tryd.ntmps8
  go_wp2_with fail
  refine (examples7_any _).mono ?_
  rintro e w1 ⟨rfl, b1⟩
  go_wp2_with fail
  refine (C1.out _).mono ?_
  rintro e w2 ⟨rfl, b2⟩
  have c2 := b1.trans (b2.mono b1.size)
  clear b1 b2
  go_wp2_with fail
  go_loopw [5, 6, 7, 8] (fun f i _ _ wr => ∃ k : Nat, k ≤ E.size ∧ i = .int .i64 (k : Int) ∧ f = .int .i64 ((k - P : Nat) : Int) ∧ wr = w2) (fun _ i _ _ _ => E.size - (intOf i).toNat)
  case atStart => exact ⟨0, by omega, rfl, by rw [Nat.zero_sub]; rfl, rfl⟩
  case round =>
    obtain ⟨k, hk, rfl, rfl, rfl⟩ := hrel
    by_cases hlt : k < E.size
    · have hki : (k : Int) < E.size := by omega
      have e8 := byteS_at E k hlt
      have HX := HE.out k (by omega)
      rw [← e8] at HX
      clear e8
      obtain ⟨HX1, HX2⟩ := HX
      by_cases hkP : k < P
      · obtain ⟨x, hx, hxe⟩ := HX1 hkP
        have hcl := d64_class x hx
        rw [← hxe] at hcl
        have hf0 : k - P = 0 := by omega
        have hf1 : k + 1 - P = 0 := by omega
        rw [hf0]
        clear HX1 HX2 hx hxe hf0
        have n61 : ¬ ((E[k]).toNat : Int) = 61 := by omega
        rcases hcl with ⟨h1, h2⟩ | ⟨h1, h2⟩ | ⟨h1, h2⟩ | h1 | h1
        · have g1 : (97 : Int) ≤ ((E[k]).toNat : Int) := by omega
          have g2 : ((E[k]).toNat : Int) ≤ 122 := by omega
          go_wp2_with fail
          go_roundw
          case rel => exact ⟨k + 1, by omega, by go_num, by rw [hf1], trivial⟩
          case measure => simp [intOf]; omega
        · have g0 : ¬ (97 : Int) ≤ ((E[k]).toNat : Int) := by omega
          have g1 : (65 : Int) ≤ ((E[k]).toNat : Int) := by omega
          have g2 : ((E[k]).toNat : Int) ≤ 90 := by omega
          go_wp2_with fail
          go_roundw
          case rel => exact ⟨k + 1, by omega, by go_num, by rw [hf1], trivial⟩
          case measure => simp [intOf]; omega
        · have g0 : ¬ (97 : Int) ≤ ((E[k]).toNat : Int) := by omega
          have g3 : ¬ (65 : Int) ≤ ((E[k]).toNat : Int) := by omega
          have g1 : (48 : Int) ≤ ((E[k]).toNat : Int) := by omega
          have g2 : ((E[k]).toNat : Int) ≤ 57 := by omega
          go_wp2_with fail
          go_roundw
          case rel => exact ⟨k + 1, by omega, by go_num, by rw [hf1], trivial⟩
          case measure => simp [intOf]; omega
        · have g0 : ((E[k]).toNat : Int) = 43 := by omega
          go_wp2_with fail
          go_roundw
          case rel => exact ⟨k + 1, by omega, by go_num, by rw [hf1], trivial⟩
          case measure => simp [intOf]; omega
        · have g0 : ((E[k]).toNat : Int) = 47 := by omega
          go_wp2_with fail
          go_roundw
          case rel => exact ⟨k + 1, by omega, by go_num, by rw [hf1], trivial⟩
          case measure => simp [intOf]; omega
      · have h61 := HX2 hkP
        have g0 : ((E[k]).toNat : Int) = 61 := by omega
        obtain ⟨q, hq⟩ : ∃ q, q = k - P := ⟨_, rfl⟩
        have hf1 : k + 1 - P = q + 1 := by omega
        rw [← hq]
        have hq9 : q ≤ 300000000000000 := by omega
        clear HX1 HX2 h61 hq
        go_wp2_with fail
        go_roundw
        case rel => exact ⟨k + 1, by omega, by go_num, by rw [hf1]; go_num, trivial⟩
        case measure => simp [intOf]; omega
    · obtain ⟨q, hq⟩ : ∃ q, q = k - P := ⟨_, rfl⟩
      have hki : ¬ (k : Int) < E.size := by omega
      have hqi : (q : Int) = (3 - (s.size : Int) % 3) % 3 := by
        have h1 := HP2.out
        have h2 := HZ.out
        have h3 : k = E.size := by omega
        have h4 : s.size = 3 * (s.size / 3) + s.size % 3 := by omega
        generalize s.size / 3 = m at h4
        rcases (show s.size % 3 = 0 ∨ s.size % 3 = 1 ∨ s.size % 3 = 2 by omega) with h5 | h5 | h5 <;> rw [h5] at h4 <;> rw [h4] at h1 h2 ⊢ <;> omega
      rw [← hq]
      clear hq
      go_wp2_with fail
      go_ret
      exact ⟨rfl, c2⟩
end Go.Proofs.YtbipbkancghkfaaDoor
