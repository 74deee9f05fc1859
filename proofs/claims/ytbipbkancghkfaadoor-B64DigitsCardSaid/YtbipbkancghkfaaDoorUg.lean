/- The reference's value, Decode of chapter 7. -/
import Derived.Test.YtbipbkancghkfaaDoorUb
namespace Go.Proofs.YtbipbkancghkfaaDoor
open Go.RowKit
/-- What Decode answers. -/
noncomputable def dec64 (s : ByteArray) : ByteArray × Bool :=
  open Classical in if h : ∃ t, e64 t = s then (Classical.choose h, true) else (⟨#[]⟩, false)
theorem dec64_of {s t : ByteArray} (h : e64 t = s) : dec64 s = (t, true) := by
  unfold dec64
  have hx : ∃ t, e64 t = s := ⟨t, h⟩
  rw [dif_pos hx, e64_inj ((Classical.choose_spec hx).trans h.symm)]
theorem dec64_not {s : ByteArray} (h : ∀ t, e64 t ≠ s) : dec64 s = (⟨#[]⟩, false) := by
  unfold dec64
  rw [dif_neg (fun hx => h _ hx.choose_spec)]
/-- A digit's number. -/
def vl (c : Nat) : Nat × Bool :=
  if 65 ≤ c ∧ c ≤ 90 then (c - 65, true) else if 97 ≤ c ∧ c ≤ 122 then (c - 71, true) else if 48 ≤ c ∧ c ≤ 57 then (c + 4, true) else if c = 43 then (62, true) else if c = 47 then (63, true) else (0, false)
theorem vl_of : ∀ i : Fin 64, vl (d64 i.val) = (i.val, true) := by decide +kernel
theorem vl_back' : ∀ c : Fin 256, (vl c.val).2 = true → (vl c.val).1 < 64 ∧ d64 (vl c.val).1 = c.val := by decide +kernel
theorem vl_none' : ∀ c : Fin 256, (vl c.val).2 = false → (vl c.val).1 = 0 := by decide +kernel
theorem vl_not {c : Nat} (hc : c < 256) (h : ∀ x, x < 64 → d64 x ≠ c) : vl c = (0, false) := by
  cases hb : (vl c).2 with
  | true => exact absurd (vl_back' ⟨c, hc⟩ hb).2 (h _ (vl_back' ⟨c, hc⟩ hb).1)
  | false => exact Prod.ext (vl_none' ⟨c, hc⟩ hb) hb
theorem vl_lt (c : Nat) (hc : c < 256) : (vl c).1 < 64 := by
  cases hb : (vl c).2 with
  | true => exact (vl_back' ⟨c, hc⟩ hb).1
  | false => rw [vl_none' ⟨c, hc⟩ hb]; omega
set_option maxRecDepth 100000 in
set_option maxHeartbeats 2000000 in
theorem rvalue7_any (c x : Nat) (b : Bool) (w : World) (hc : c < 256) (hv : vl c = (x, b)) :
    Calls Tryd.prog 24 #[.int .u8 (c : Int)] w fun e w' => e = .returned (.tuple #[.int .i64 (x : Int), .bool b]) ∧ Below w.heap.size w w' := by
  have HV := Lib.hid hv
  clear hv
  go_enter Tryd.func24, Tryd.ntmps24
  go_wp2_with fail
  refine (rdigits_any _).mono ?_
  rintro e w1 ⟨rfl, b1⟩
  have hDs := digT_size
  have HD := Lib.hid digT_at
  generalize digT = D at *
  go_wp2_with fail
  go_loopw [5] (fun i wr => ∃ k : Nat, k ≤ 64 ∧ i = .int .i64 (k : Int) ∧ Hid (∀ y, y < k → d64 y ≠ c) ∧ wr = w1) (fun i _ => 64 - (intOf i).toNat)
  case atStart => exact ⟨0, by omega, rfl, Lib.hid (fun y hy => by omega), rfl⟩
  case round =>
    obtain ⟨k, hk, rfl, HN, rfl⟩ := hrel
    by_cases hlt : k < 64
    · have hki : (k : Int) < 64 := by omega
      have hkD : k < D.size := by omega
      have e8 := byteS_at D k hkD
      rw [HD.out k hlt] at e8
      by_cases hE : d64 k = c
      · have hB := vl_of ⟨k, hlt⟩
        rw [show d64 (⟨k, hlt⟩ : Fin 64).val = c from hE, HV.out] at hB
        injection hB with hB1 hB2
        subst hB2
        have hB1' : x = k := hB1
        subst hB1'
        have hEi : (((D[x]).toNat : Int) == (c : Int)) = true := by rw [e8, hE]; simp
        have hEj : ((D[x]).toNat : Int) = (c : Int) := by rw [e8, hE]
        clear e8 hE
        go_wp2_with fail
        go_ret2
        exact ⟨rfl, b1⟩
      · have hEj : ¬ ((D[k]).toNat : Int) = (c : Int) := by rw [e8]; omega
        have HN2 : Hid (∀ y, y < k + 1 → d64 y ≠ c) := Lib.hid (fun y hy => by
          by_cases hyk : y < k
          · exact HN.out y hyk
          · rw [show y = k by omega]; exact hE)
        clear e8 hE HN
        go_wp2_with fail
        go_roundw
        case rel => exact ⟨k + 1, by omega, by go_num, HN2, trivial⟩
        case measure => simp [intOf]; omega
    · have hki : ¬ (k : Int) < 64 := by omega
      have hB := vl_not hc (fun y hy => HN.out y (by omega))
      rw [HV.out] at hB
      injection hB with hB1 hB2
      subst hB1 hB2
      clear HN
      go_wp2_with fail
      go_ret2
      exact ⟨rfl, b1⟩
end Go.Proofs.YtbipbkancghkfaaDoor
