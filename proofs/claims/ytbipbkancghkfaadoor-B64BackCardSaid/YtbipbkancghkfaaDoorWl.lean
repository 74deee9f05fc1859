/- Decode, Unhex. -/
import Derived.Test.YtbipbkancghkfaaDoorWh
import Derived.Test.YtbipbkancghkfaaDoorWi
import Derived.Test.YtbipbkancghkfaaDoorWj
namespace Go.Proofs.YtbipbkancghkfaaDoor
open Go.RowKit
theorem hex_places : ∀ c : Fin 256, ((c.val < 128 ∧ plc hexS hexS.size c.val ≠ 0) ↔ hv c.val < 16) ∧ (hv c.val < 16 → plc hexS hexS.size c.val - 1 = hv c.val) := by decide +kernel
theorem hexS_low : ∀ j, j < hexS.size → byteS hexS j < 128 := by
  have : ∀ i : Fin 16, byteS hexS i.val < 128 := by decide +kernel
  exact fun j hj => this ⟨j, hj⟩
theorem digT_low : ∀ j, j < digT.size → byteS digT j < 128 := by
  have : ∀ i : Fin 64, byteS digT i.val < 128 := by decide +kernel
  exact fun j hj => this ⟨j, hj⟩
theorem dig_places : ∀ c : Fin 256, (c.val < 128 ∧ plc digT digT.size c.val ≠ 0) → plc digT digT.size c.val - 1 < 64 ∧ d64 (plc digT digT.size c.val - 1) = c.val := by decide +kernel
theorem dig_ok : ∀ i : Fin 64, (d64 i.val < 128 ∧ plc digT digT.size (d64 i.val) ≠ 0) ∧ plc digT digT.size (d64 i.val) - 1 = i.val := by decide +kernel
theorem unhex_b64 (s r : ByteArray) (b : Bool) (hs : s.size ≤ 300000000000000) (hr : unhexV s = (r, b)) (w : World) :
    Calls Tryd.prog 12 #[.string s] w fun e w' => e = .returned (.tuple #[.string r, .bool b]) ∧ Below w.heap.size w w' := by
  by_cases h2 : s.size % 2 = 0
  · have key : ∀ j, okD hexS (byteS s j) ↔ hv (byteS s j) < 16 := fun j => (hex_places ⟨byteS s j, byteS_lt s j⟩).1
    have C : Hid (∀ w, Calls Tryd.prog 23 #[.string s, .string ⟨#[48, 49, 50, 51, 52, 53, 54, 55, 56, 57, 97, 98, 99, 100, 101, 102]⟩, .int .i64 4] w fun e w' => e = .returned (.tuple #[.string r, .bool b]) ∧ Below w.heap.size w w') := by
      refine Lib.hid (fun w => read_any s hexS 4 _ _ _ r b w hs (by decide) (by omega) (by decide) (by decide) hexS_low rfl rfl rfl ?_ ?_ ?_)
      · intro h
        obtain ⟨m, hm⟩ := Classical.not_forall.1 h
        obtain ⟨hm1, hm2⟩ := Classical.not_imp.1 hm
        rw [unhex_bad hm1 (fun h => hm2 ((key m).2 h))] at hr
        cases hr
        exact ⟨rfl, rfl⟩
      · rintro _ ⟨k, h1, h3, _⟩
        omega
      · intro h _
        rw [unhex_good h2 (fun j hj => (key j).1 (h j hj))] at hr
        cases hr
        refine ⟨textN_congr (by omega) fun k hk => ?_, rfl⟩
        have hv1 := (key (2 * k)).1 (h (2 * k) (by omega))
        have hv2 := (key (2 * k + 1)).1 (h (2 * k + 1) (by omega))
        have e1 : ∀ j, j < s.size → num (bitG (fun i => plc hexS hexS.size (byteS s i) - 1) 4 s.size) (j * 4) 4 = hv (byteS s j) := fun j hj => by
          have hj2 := (key j).1 (h j hj)
          rw [num_group _ 4 _ j hj (by
            show plc hexS hexS.size (byteS s j) - 1 < 16
            rw [(hex_places ⟨byteS s j, byteS_lt s j⟩).2 hj2]; exact hj2)]
          exact (hex_places ⟨byteS s j, byteS_lt s j⟩).2 hj2
        have hn := num_add (bitG (fun i => plc hexS hexS.size (byteS s i) - 1) 4 s.size) (k * 8) 4 4
        rw [show k * 8 = 2 * k * 4 by omega, e1 (2 * k) (by omega), show 2 * k * 4 + 4 = (2 * k + 1) * 4 by omega, e1 (2 * k + 1) (by omega)] at hn
        unfold unB
        show _ = num (bitG (fun i => plc hexS hexS.size (byteS s i) - 1) 4 s.size) (k * 8) (4 + 4)
        rw [show k * 8 = 2 * k * 4 by omega, hn]
        omega
    have h2i : (s.size : Int) % 2 = 0 := by omega
    clear hr
    go_enter Tryd.func12, Tryd.ntmps12
    go_wp2_with fail
    refine (C.out _).mono ?_
    rintro e w1 ⟨rfl, b1⟩
    clear C
    go_wp2_with fail
    go_ret2
    exact ⟨rfl, b1⟩
  · rw [unhex_odd h2] at hr
    cases hr
    have h2i : ¬ (s.size : Int) % 2 = 0 := by omega
    go_enter Tryd.func12, Tryd.ntmps12
    go_wp2_with fail
    go_ret2
    exact ⟨rfl, Below.refl _ _⟩
/-! Decode. -/
theorem tr_fill (s : ByteArray) : ∀ k j, tr s k ≤ j → j < k → byteS s j = 61
  | 0, j, _, h => by omega
  | k + 1, j, h1, h2 => by
    unfold tr at h1
    by_cases hk : byteS s k = 61
    · rw [if_pos hk] at h1
      by_cases hjk : j = k
      · rw [hjk]; exact hk
      · exact tr_fill s k j h1 (by omega)
    · rw [if_neg hk] at h1; omega
theorem tr_is (s : ByteArray) (n : Nat) (hn : n = 0 ∨ byteS s (n - 1) ≠ 61) : ∀ k, n ≤ k → (∀ j, n ≤ j → j < k → byteS s j = 61) → tr s k = n
  | 0, h, _ => by show 0 = n; omega
  | k + 1, h, hj => by
    unfold tr
    by_cases hk : n = k + 1
    · rw [if_neg]
      · exact hk.symm
      · rcases hn with h0 | h0
        · omega
        · rw [hk] at h0; exact h0
    · rw [if_pos (hj k (by omega) (by omega))]
      exact tr_is s n hn k (by omega) fun j h1 h2 => hj j h1 (by omega)
def valD (d : ByteArray) (i : Nat) : Nat := plc digT digT.size (byteS d i) - 1
def outD (d : ByteArray) (k : Nat) : Nat := num (bitG (valD d) 6 d.size) (k * 8) 8
theorem dec_fwd (s d : ByteArray) (hd : d = s.extract 0 (tr s s.size)) (h4 : s.size % 4 = 0) (h2 : s.size - d.size ≤ 2) (hok : ∀ j, j < d.size → okD digT (byteS d j))
    (hz : ∀ k, d.size * 6 / 8 ≤ k → k < (d.size * 6 + 8 - 1) / 8 → outD d k = 0) : e64 (textN (d.size * 6 / 8) (outD d)) = s := by
  have hle := tr_le s s.size
  have hn : d.size = tr s s.size := by rw [hd, ByteArray.size_extract]; omega
  obtain ⟨q, f, hq, hf, hnf⟩ : ∃ q f, s.size = 4 * q ∧ f ≤ 2 ∧ d.size + f = 4 * q := ⟨s.size / 4, s.size - d.size, by omega, h2, by omega⟩
  refine text_same ?_ fun j hj => ?_
  · rw [e64_size, textN_size, hq]
    rcases (show f = 0 ∨ f = 1 ∨ f = 2 by omega) with rfl | rfl | rfl <;> omega
  · rw [e64_size, textN_size] at hj
    rw [e64_at _ j (by rw [textN_size]; exact hj)]
    have hcond : (j < d.size) ↔ j % 4 < min (d.size * 6 / 8 - 3 * (j / 4)) 3 + 1 := by
      rcases (show f = 0 ∨ f = 1 ∨ f = 2 by omega) with rfl | rfl | rfl <;> omega
    unfold e64B
    rw [textN_size]
    by_cases h1 : j < d.size
    · rw [if_pos (hcond.1 h1), ← six_bits]
      have hp := dig_places ⟨byteS d j, byteS_lt d j⟩ (hok j h1)
      have e : num (bitB (textN (d.size * 6 / 8) (outD d))) (j * 6) 6 = num (bitG (valD d) 6 d.size) (j * 6) 6 :=
        num_same fun i _ => read_bits (valD d) 6 d.size _ _ (by decide) rfl rfl hz (j * 6 + i)
      rw [e, num_group (valD d) 6 d.size j h1 hp.1]
      show d64 (plc digT digT.size (byteS d j) - 1) = _
      rw [hp.2]
      show byteS d j = byteS s j
      rw [hd, byteS_ext s 0 _ j hle (by omega), Nat.zero_add]
    · rw [if_neg fun h => h1 (hcond.2 h)]
      exact (tr_fill s s.size j (by omega) (by rw [hq]; rcases (show f = 0 ∨ f = 1 ∨ f = 2 by omega) with rfl | rfl | rfl <;> omega)).symm
theorem dec_back (t s d : ByteArray) (hs : e64 t = s) (hd : d = s.extract 0 (tr s s.size)) :
    s.size % 4 = 0 ∧ s.size - d.size ≤ 2 ∧ (∀ j, j < d.size → okD digT (byteS d j)) ∧ ∀ k, d.size * 6 / 8 ≤ k → k < (d.size * 6 + 8 - 1) / 8 → outD d k = 0 := by
  have hz : s.size = (t.size + 2) / 3 * 4 := by rw [← hs, e64_size]
  obtain ⟨q, r, hr, hq⟩ : ∃ q r, r < 3 ∧ t.size = 3 * q + r := ⟨t.size / 3, t.size % 3, Nat.mod_lt _ (by decide), by omega⟩
  obtain ⟨n, hn⟩ : ∃ n, n = (t.size * 8 + 6 - 1) / 6 := ⟨_, rfl⟩
  have hns : n ≤ s.size := by
    rw [hn, hz, hq]
    rcases (show r = 0 ∨ r = 1 ∨ r = 2 by omega) with rfl | rfl | rfl <;> omega
  have hn2 : s.size - n ≤ 2 := by
    rw [hn, hz, hq]
    rcases (show r = 0 ∨ r = 1 ∨ r = 2 by omega) with rfl | rfl | rfl <;> omega
  have hcond : ∀ j, j < s.size → (j < n ↔ j % 4 < min (t.size - 3 * (j / 4)) 3 + 1) := fun j hj => by
    rw [hn]
    rw [hz] at hj
    rw [hq] at hj ⊢
    rcases (show r = 0 ∨ r = 1 ∨ r = 2 by omega) with rfl | rfl | rfl <;> omega
  have hlow : ∀ j, j < n → byteS s j = d64 (num (bitB t) (j * 6) 6) := fun j hj => by
    rw [← hs, e64_at t j (by omega)]
    unfold e64B
    rw [if_pos ((hcond j (by omega)).1 hj), six_bits]
  have hhigh : ∀ j, n ≤ j → j < s.size → byteS s j = 61 := fun j h1 h2 => by
    rw [← hs, e64_at t j (by omega)]
    unfold e64B
    rw [if_neg fun h => by have := (hcond j h2).2 h; omega]
  have htr : tr s s.size = n := by
    refine tr_is s n ?_ s.size hns hhigh
    rcases Nat.eq_zero_or_pos n with h0 | h0
    · exact .inl h0
    · refine .inr ?_
      rw [hlow (n - 1) (by omega)]
      exact (d64_lt _ (num_lt _ _ 6)).2.2
  have hdn : d.size = n := by rw [hd, htr, ByteArray.size_extract]; omega
  have hdb : ∀ j, j < n → byteS d j = d64 (num (bitB t) (j * 6) 6) := fun j hj => by
    rw [hd, htr, byteS_ext s 0 n j hns (by omega), Nat.zero_add, hlow j hj]
  have hv : ∀ j, j < n → valD d j = num (bitB t) (j * 6) 6 := fun j hj => by
    unfold valD
    rw [hdb j hj]
    exact (dig_ok ⟨num (bitB t) (j * 6) 6, num_lt _ _ 6⟩).2
  refine ⟨by rw [hz]; omega, by rw [hdn]; exact hn2, fun j hj => ?_, fun k h1 h2 => ?_⟩
  · rw [hdb j (by omega)]
    exact (dig_ok ⟨num (bitB t) (j * 6) 6, num_lt _ _ 6⟩).1
  · rw [hdn] at h1 h2
    unfold outD
    rw [hdn]
    have hm : n * 6 / 8 = t.size := by
      rw [hn, hq]
      rcases (show r = 0 ∨ r = 1 ∨ r = 2 by omega) with rfl | rfl | rfl <;> omega
    refine num_none _ _ _ fun p hp1 hp2 => ?_
    by_cases hpn : p / 6 < n
    · have hg := num_group (valD d) 6 n (p / 6) hpn (by rw [hv _ hpn]; exact num_lt _ _ 6)
      rw [hv _ hpn] at hg
      have e := num_same' hg (p % 6) (Nat.mod_lt _ (by decide))
      rw [show p / 6 * 6 + p % 6 = p by omega] at e
      rw [e]
      show bitG (byteS t) 8 t.size p % 2 = 0
      rw [bitG_out _ _ _ _ (by decide) (by omega)]
    · rw [bitG_out _ _ _ _ (by decide) (by omega)]
theorem dec_b64 (s r : ByteArray) (b : Bool) (hs : s.size ≤ 300000000000000) (hr : dec64 s = (r, b)) (w : World) :
    Calls Tryd.prog 10 #[.string s] w fun e w' => e = .returned (.tuple #[.string r, .bool b]) ∧ Below w.heap.size w w' := by
  have CT : Hid (∀ w, Calls Tryd.prog 22 #[.string s, .string ⟨#[61]⟩] w fun e w' => e = .returned (.string (s.extract 0 (tr s s.size))) ∧ w' = w) := Lib.hid (fun w => trim_any s hs w)
  obtain ⟨d, hd⟩ : ∃ d, d = s.extract 0 (tr s s.size) := ⟨_, rfl⟩
  have hds : d.size ≤ s.size := by rw [hd, ByteArray.size_extract]; omega
  rw [← hd] at CT
  have no : (¬ (s.size % 4 = 0 ∧ s.size - d.size ≤ 2 ∧ (∀ j, j < d.size → okD digT (byteS d j)) ∧ ∀ k, d.size * 6 / 8 ≤ k → k < (d.size * 6 + 8 - 1) / 8 → outD d k = 0)) → r = ⟨#[]⟩ ∧ b = false := fun h => by
    rw [dec64_not fun t e => h (dec_back t s d e hd)] at hr
    cases hr
    exact ⟨rfl, rfl⟩
  by_cases h4 : s.size % 4 = 0
  · have h4i : (s.size : Int) % 4 = 0 := by omega
    by_cases h2 : s.size - d.size ≤ 2
    · have h2i : ¬ (s.size : Int) - d.size > 2 := by omega
      have C : Hid (∀ w, Calls Tryd.prog 23 #[.string d, .string ⟨#[65, 66, 67, 68, 69, 70, 71, 72, 73, 74, 75, 76, 77, 78, 79, 80, 81, 82, 83, 84, 85, 86, 87, 88, 89, 90, 97, 98, 99, 100, 101, 102, 103, 104, 105, 106, 107, 108, 109, 110, 111, 112, 113, 114, 115, 116, 117, 118, 119, 120, 121, 122, 48, 49, 50, 51, 52, 53, 54, 55, 56, 57, 43, 47]⟩, .int .i64 6] w fun e w' => e = .returned (.tuple #[.string r, .bool b]) ∧ Below w.heap.size w w') := by
        refine Lib.hid (fun w => read_any d digT 6 (d.size * 6 / 8) ((d.size * 6 + 8 - 1) / 8) (outD d) r b w (by omega) (by decide) (by omega) (by decide) (by decide) digT_low rfl rfl rfl ?_ ?_ ?_)
        · exact fun h => no fun hh => h hh.2.2.1
        · rintro _ ⟨k, h1, h3, h5⟩
          exact no fun hh => h5 (hh.2.2.2 k h1 h3)
        · intro hok hz
          rw [dec64_of (dec_fwd s d hd h4 h2 hok hz)] at hr
          cases hr
          exact ⟨rfl, rfl⟩
      have hsub : IntKind.i64.wrap ((s.size : Int) - d.size) = (s.size : Int) - d.size := IntWalk.i64_in _ (by omega)
      clear hr no hd
      go_enter Tryd.func10, Tryd.ntmps10
      go_wp2_with fail
      refine (CT.out _).mono ?_
      rintro e w1 ⟨rfl, rfl⟩
      clear CT
      go_wp2_with fail
      refine (C.out _).mono ?_
      rintro e w2 ⟨rfl, b2⟩
      clear C
      go_wp2_with fail
      go_ret2
      exact ⟨rfl, b2⟩
    · have h2i : (s.size : Int) - d.size > 2 := by omega
      obtain ⟨rfl, rfl⟩ := no fun hh => h2 hh.2.1
      have hsub : IntKind.i64.wrap ((s.size : Int) - d.size) = (s.size : Int) - d.size := IntWalk.i64_in _ (by omega)
      clear hr no hd
      go_enter Tryd.func10, Tryd.ntmps10
      go_wp2_with fail
      refine (CT.out _).mono ?_
      rintro e w1 ⟨rfl, rfl⟩
      clear CT
      go_wp2_with fail
      go_ret2
      exact ⟨rfl, Below.refl _ _⟩
  · have h4i : ¬ (s.size : Int) % 4 = 0 := by omega
    obtain ⟨rfl, rfl⟩ := no fun hh => h4 hh.1
    clear hr no hd
    go_enter Tryd.func10, Tryd.ntmps10
    go_wp2_with fail
    refine (CT.out _).mono ?_
    rintro e w1 ⟨rfl, rfl⟩
    clear CT
    go_wp2_with fail
    go_ret2
    exact ⟨rfl, Below.refl _ _⟩
end Go.Proofs.YtbipbkancghkfaaDoor
