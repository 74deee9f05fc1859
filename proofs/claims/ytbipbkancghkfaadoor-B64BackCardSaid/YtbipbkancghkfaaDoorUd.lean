/- The reference's Unhex of chapter 7. -/
import Derived.Test.YtbipbkancghkfaaDoorUa
import Derived.Test.YtbipbkancghkfaaDoorOb
import Derived.IntWalk
import Derived.Lib.Hide
namespace Go.Proofs.YtbipbkancghkfaaDoor
open Go.RowKit
/-- What Unhex answers. -/
noncomputable def unhexV (s : ByteArray) : ByteArray × Bool :=
  open Classical in if h : ∃ t, hexT t = s then (Classical.choose h, true) else (⟨#[]⟩, false)
theorem unhexV_of {s t : ByteArray} (h : hexT t = s) : unhexV s = (t, true) := by
  unfold unhexV
  have hx : ∃ t, hexT t = s := ⟨t, h⟩
  rw [dif_pos hx, hexT_inj ((Classical.choose_spec hx).trans h.symm)]
theorem unhexV_not {s : ByteArray} (h : ∀ t, hexT t ≠ s) : unhexV s = (⟨#[]⟩, false) := by
  unfold unhexV
  rw [dif_neg (fun hx => h _ hx.choose_spec)]
/-- A digit's number; 16: none. -/
def hv (c : Nat) : Nat := if 48 ≤ c ∧ c ≤ 57 then c - 48 else if 97 ≤ c ∧ c ≤ 102 then c - 87 else 16
theorem hv_le (c : Nat) : hv c ≤ 16 := by unfold hv; (repeat' split) <;> omega
theorem hv_hexD (n : Nat) (h : n < 16) : hv (hexD n) = n := by unfold hv hexD; (repeat' split) <;> omega
theorem hexD_hv (c : Nat) (h : hv c < 16) : hexD (hv c) = c := by unfold hv at h ⊢; unfold hexD; (repeat' split at h) <;> (repeat' split) <;> omega
theorem hv_hexB (t : ByteArray) (j : Nat) : hv (hexB t j) < 16 := by
  have := byteS_lt t (j / 2)
  unfold hexB; split
  · rw [hv_hexD _ (by omega)]; omega
  · rw [hv_hexD _ (by omega)]; omega
def unB (s : ByteArray) (j : Nat) : Nat := hv (byteS s (2 * j)) % 16 * 16 + hv (byteS s (2 * j + 1)) % 16
theorem unB_lt (s : ByteArray) (j : Nat) : unB s j < 256 := by unfold unB; omega
theorem unhex_bad {s : ByteArray} {m : Nat} (hm : m < s.size) (h : ¬ hv (byteS s m) < 16) : unhexV s = (⟨#[]⟩, false) := unhexV_not fun t e => h (by
  subst e
  rw [hexT_at t m (by rw [hexT_size] at hm; exact hm)]
  exact hv_hexB t m)
theorem unhex_odd {s : ByteArray} (h : ¬ s.size % 2 = 0) : unhexV s = (⟨#[]⟩, false) := unhexV_not fun t e => h (by
  subst e; rw [hexT_size]; omega)
theorem unhex_good {s : ByteArray} (h : s.size % 2 = 0) (hd : ∀ j, j < s.size → hv (byteS s j) < 16) : unhexV s = (textN (s.size / 2) (unB s), true) := by
  refine unhexV_of (text_same (by rw [hexT_size, textN_size]; omega) fun j hj => ?_)
  rw [hexT_size, textN_size] at hj
  rw [hexT_at _ j (by rw [textN_size]; exact hj)]
  unfold hexB
  rw [byteS_textN _ _ (j / 2) (by omega) (unB_lt s _)]
  unfold unB
  have h1 := hd (2 * (j / 2)) (by omega)
  have h2 := hd (2 * (j / 2) + 1) (by omega)
  by_cases hj2 : j % 2 = 0
  · rw [if_pos hj2, show (hv (byteS s (2 * (j / 2))) % 16 * 16 + hv (byteS s (2 * (j / 2) + 1)) % 16) / 16 = hv (byteS s (2 * (j / 2))) by omega, hexD_hv _ h1]
    congr 1; omega
  · rw [if_neg hj2, show (hv (byteS s (2 * (j / 2))) % 16 * 16 + hv (byteS s (2 * (j / 2) + 1)) % 16) % 16 = hv (byteS s (2 * (j / 2) + 1)) by omega, hexD_hv _ h2]
    congr 1; omega
/-- What two digits say, so far. -/
def hp2 (s : ByteArray) (i : Nat) : Nat → Nat
  | 0 => 0
  | k + 1 => 16 * hp2 s i k + hv (byteS s (i + k))
set_option maxRecDepth 100000 in
set_option maxHeartbeats 4000000 in
theorem runhex7_any (s r : ByteArray) (b : Bool) (w : World) (hs : s.size ≤ 100000000000) (hr0 : unhexV s = (r, b)) :
    Calls Tryd.prog 13 #[.string s] w fun e w' => e = .returned (.tuple #[.string r, .bool b]) ∧ Below w.heap.size w w' := by
  have HR := Lib.hid hr0
  clear hr0
  go_enter Tryd.func13, Tryd.ntmps13
  go_wp2_with fail
  go_loopw [4, 5, 6, 7, 8] (fun v i _ _ _ wr => ∃ k : Nat, 2 * k ≤ s.size ∧ i = .int .i64 ((2 * k : Nat) : Int) ∧ Hid (∀ j, j < 2 * k → hv (byteS s j) < 16) ∧ OB w.heap.size w k (unB s) v wr) (fun _ i _ _ _ _ => s.size + 2 - (intOf i).toNat)
  case atStart => exact ⟨0, by omega, rfl, Lib.hid (fun j hj => by omega), OB.nil (Below.refl _ _) (Nat.le_refl _) _⟩
  case round =>
    obtain ⟨k, hk, rfl, HD, hr⟩ := hrel
    obtain ⟨i, hid⟩ : ∃ i, i = 2 * k := ⟨_, rfl⟩
    have HI := Lib.hid hid
    rw [← hid]
    have hwi : IntKind.i64.wrap ((i : Int) + 1) = (i : Int) + 1 := IntWalk.i64_in _ (by omega)
    by_cases hlt : i + 1 < s.size
    · have hi1 : (i : Int) + 1 < s.size := by omega
      clear hid
      go_wp2_with fail
      go_loopw [6, 7, 8] (fun n k _ wr2 => ∃ j : Nat, j ≤ 2 ∧ k = .int .i64 (j : Int) ∧ n = .int .i64 (hp2 s i j : Int) ∧ Hid (∀ x, x < j → hv (byteS s (i + x)) < 16) ∧ wr2 = wr) (fun _ k _ _ => 2 - (intOf k).toNat)
      case atStart => exact ⟨0, by omega, rfl, rfl, Lib.hid (fun x hx => by omega), rfl⟩
      case round =>
        obtain ⟨j, hj, rfl, rfl, HX, rfl⟩ := hrel
        by_cases hjl : j < 2
        · obtain ⟨m, hm⟩ : ∃ m, m = i + j := ⟨_, rfl⟩
          have hij : (i : Int) + j = (m : Int) := by omega
          have hms : m < s.size := by omega
          have hwm : IntKind.i64.wrap (m : Int) = (m : Int) := IntWalk.i64_in _ (by omega)
          have e8 := byteS_at s m hms
          have hc := (s[m]).toNat_lt
          have HP : Hid (hp2 s i (j + 1) = 16 * hp2 s i j + hv (s[m]).toNat) := Lib.hid (by rw [e8, hm]; rfl)
          have hpl : hp2 s i j < 256 := by
            rcases (show j = 0 ∨ j = 1 by omega) with rfl | rfl
            · show 0 < 256; omega
            · have := hv_le (byteS s (i + 0)); simp only [hp2]; omega
          have HBAD : Hid (¬ hv (s[m]).toNat < 16 → unhexV s = (⟨#[]⟩, false)) := Lib.hid (fun h => unhex_bad hms (by rw [← e8]; exact h))
          have HX2 : Hid (hv (s[m]).toNat < 16 → ∀ x, x < j + 1 → hv (byteS s (i + x)) < 16) := Lib.hid (fun h x hx => by
            by_cases hxj : x < j
            · exact HX.out x hxj
            · rw [show i + x = m by omega, ← e8]; exact h)
          have HV : Hid (hv (s[m]).toNat = if 48 ≤ (s[m]).toNat ∧ (s[m]).toNat ≤ 57 then (s[m]).toNat - 48 else if 97 ≤ (s[m]).toNat ∧ (s[m]).toNat ≤ 102 then (s[m]).toNat - 87 else 16) := Lib.hid rfl
          clear e8 hm HX
          generalize hp2 s i j = p at *
          by_cases h1 : 48 ≤ (s[m]).toNat ∧ (s[m]).toNat ≤ 57
          · obtain ⟨h1a, h1b⟩ := h1
            have g1 : (48 : Int) ≤ ((s[m]).toNat : Int) := by omega
            have g2 : ((s[m]).toNat : Int) ≤ 57 := by omega
            have HN : Hid (hp2 s i (j + 1) = 16 * p + ((s[m]).toNat - 48)) := Lib.hid (by rw [HP.out, HV.out, if_pos ⟨h1a, h1b⟩])
            have HY := Lib.hid (HX2.out (by rw [HV.out, if_pos ⟨h1a, h1b⟩]; omega))
            clear HP HV HX2 HBAD
            go_wp2_with fail
            go_roundw
            case rel => exact ⟨j + 1, by omega, by go_num, by rw [HN.out]; congr 1; omega, HY, trivial⟩
            case measure => simp [intOf]; omega
          · by_cases h2 : 97 ≤ (s[m]).toNat ∧ (s[m]).toNat ≤ 102
            · obtain ⟨h2a, h2b⟩ := h2
              have g1 : ¬ ((s[m]).toNat : Int) ≤ 57 := by omega
              have g0 : (48 : Int) ≤ ((s[m]).toNat : Int) := by omega
              have g2 : (97 : Int) ≤ ((s[m]).toNat : Int) := by omega
              have g3 : ((s[m]).toNat : Int) ≤ 102 := by omega
              have HN : Hid (hp2 s i (j + 1) = 16 * p + ((s[m]).toNat - 87)) := Lib.hid (by rw [HP.out, HV.out, if_neg h1, if_pos ⟨h2a, h2b⟩])
              have HY := Lib.hid (HX2.out (by rw [HV.out, if_neg h1, if_pos ⟨h2a, h2b⟩]; omega))
              clear HP HV HX2 HBAD h1
              go_wp2_with fail
              go_roundw
              case rel => exact ⟨j + 1, by omega, by go_num, by rw [HN.out]; congr 1; omega, HY, trivial⟩
              case measure => simp [intOf]; omega
            · have hB := HBAD.out (by rw [HV.out, if_neg h1, if_neg h2]; omega)
              rw [HR.out] at hB
              injection hB with hB1 hB2
              subst hB1 hB2
              have hb := hr.b
              clear HP HV HX2 HBAD
              go_wp2_with fail
              all_goals
                go_ret2
                exact ⟨rfl, hb⟩
        · obtain rfl : j = 2 := by omega
          have h0 := HX.out 0 (by omega)
          have h1 := HX.out 1 (by omega)
          have hn : hp2 s i 2 = unB s k := by
            have := HI.out
            unfold unB
            simp only [hp2]
            rw [Nat.add_zero] at *
            rw [← HI.out]
            omega
          have hD2 : Hid (∀ j, j < 2 * (k + 1) → hv (byteS s j) < 16) := Lib.hid (fun j hj => by
            have := HI.out
            by_cases hjk : j < 2 * k
            · exact HD.out j hjk
            · rcases (show j = i + 0 ∨ j = i + 1 by omega) with rfl | rfl
              · exact h0
              · exact h1)
          have hu := unB_lt s k
          have HU : Hid ((unB s k : Int) = IntKind.u8.wrap (hp2 s i 2 : Int)) := Lib.hid (by rw [hn, IntKind.wrap_u8]; omega)
          have HG : Hid (((2 * (k + 1) : Nat) : Int) = (i : Int) + 2) := Lib.hid (by have := HI.out; omega)
          have hk2 : 2 * (k + 1) ≤ s.size := by have := HI.out; omega
          have hwi2 : IntKind.i64.wrap ((i : Int) + 2) = (i : Int) + 2 := IntWalk.i64_in _ (by omega)
          generalize hp2 s i 2 = p at *
          clear h0 h1 hn hu HX HD
          go_wp2_with (at_builtin; refine wpList_push rfl (.tmp 51) (.tmp 54) rfl rfl hr (by omega) rfl _ HU.out ?_; intro v' w2 hr3)
          go_roundw
          case rel => exact ⟨k + 1, hk2, by rw [HG.out], hD2, hr3⟩
          case measure => simp [intOf]; omega
    · have hi1 : ¬ (i : Int) + 1 < s.size := by omega
      have hcv := hr.text (fun j => unB_lt s j)
      have hb := hr.b
      by_cases ho : s.size % 2 = 0
      · have hoi : (s.size : Int) % 2 = 0 := by omega
        have hG := unhex_good ho (fun j hj => HD.out j (by omega))
        rw [HR.out, show s.size / 2 = k by omega] at hG
        injection hG with hG1 hG2
        rw [← hG1] at hcv
        subst hG2
        clear hr hid HD hG1
        go_wp2_with fail
        go_ret2
        exact ⟨rfl, hb⟩
      · have hoi : (s.size : Int) % 2 = 1 := by omega
        have hG := unhex_odd ho
        rw [HR.out] at hG
        injection hG with hG1 hG2
        subst hG1 hG2
        clear hr hid HD
        go_wp2_with fail
        go_ret2
        exact ⟨rfl, hb⟩
end Go.Proofs.YtbipbkancghkfaaDoor
