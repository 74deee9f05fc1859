/- ScalarClamps: the walk. -/
import Derived.Test.YtnfcgpoafmmioaaLm
namespace Go.Proofs.Ytnfcgpoafmmioaa
open Go.RowKit
theorem qbit_nat (s : ByteArray) (q : Nat) (w : World) (h : q < 9223372036854775808) :
    Calls Try.prog 18 #[.string s, .int .i64 (q : Int)] w fun e w' => e = .returned (.int .i64 (bitS s q : Int)) ∧ w' = w := by
  by_cases h2 : q / 8 < s.size
  · exact qbit_in s q w h h2
  · exact qbit_over s q w h h2
def clT (s : ByteArray) : ByteArray := ⟨(clampL s).toArray⟩
theorem clT_size (s : ByteArray) : (clT s).size = 32 := by
  show (clampL s).toArray.size = 32
  simp [clampL]
theorem clT_byte (s : ByteArray) (j : Nat) (hj : j < 32) : byteS (clT s) j = clampB s j := by
  unfold byteS
  rw [dif_pos (by rw [clT_size]; exact hj)]
  show ((clT s).data[j]'_).toNat = _
  have hb := clampB_lt s j
  simp only [clT, clampL, List.getElem_toArray, List.getElem_map, List.getElem_range]
  simp
  omega
theorem clampB_again (s : ByteArray) (j : Nat) (hj : j < 32) : clampB (clT s) j = clampB s j := by
  have h31 := clT_byte s 31 (by omega)
  have h0 := clT_byte s 0 (by omega)
  have hjj := clT_byte s j hj
  have e31 : clampB s 31 = byteS s 31 % 64 + 64 := by unfold clampB; rw [if_pos rfl]
  have e0 : clampB s 0 = byteS s 0 / 8 * 8 := by unfold clampB; rw [if_neg (by omega), if_pos rfl]
  by_cases h1 : j = 31
  · subst h1; unfold clampB; rw [if_pos rfl, if_pos rfl, h31, e31]; omega
  · by_cases h2 : j = 0
    · subst h2; unfold clampB; rw [if_neg (by omega), if_pos rfl, if_neg (by omega), if_pos rfl, h0, e0]; omega
    · unfold clampB at hjj ⊢; rw [if_neg h1, if_neg h2] at hjj ⊢; rw [if_neg h1, if_neg h2]; exact hjj
theorem clampV_again (s : ByteArray) : clampV (clT s) = (clT s, true) := by
  unfold clampV
  rw [if_pos (clT_size s)]
  have : clampL (clT s) = clampL s := List.map_congr_left fun j hj => by rw [clampB_again s j (List.mem_range.1 hj)]
  rw [this]; rfl
theorem not_empty (s : ByteArray) (h : 0 < s.size) : s.toList.isEmpty = false := by
  rw [ByteArray.toList_eq]
  cases e : s.data.toList with
  | nil =>
    exfalso
    have h2 : s.data.toList.length = s.size := Array.length_toList
    rw [e] at h2
    simp at h2; omega
  | cons x l => rfl
theorem clT_bit (s : ByteArray) (i : Nat) (h : i < 256) : bitS (clT s) i = clampB s (i / 8) / 2 ^ (i % 8) % 2 := by
  unfold bitS; rw [clT_byte s _ (by omega)]
theorem clT_0 (s : ByteArray) : bitS (clT s) 0 = 0 := by
  rw [clT_bit s 0 (by omega)]; show clampB s 0 / 2 ^ 0 % 2 = 0; unfold clampB; rw [if_neg (by omega), if_pos rfl]; omega
theorem clT_1 (s : ByteArray) : bitS (clT s) 1 = 0 := by
  rw [clT_bit s 1 (by omega)]; show clampB s 0 / 2 ^ 1 % 2 = 0; unfold clampB; rw [if_neg (by omega), if_pos rfl]; omega
theorem clT_2 (s : ByteArray) : bitS (clT s) 2 = 0 := by
  rw [clT_bit s 2 (by omega)]; show clampB s 0 / 2 ^ 2 % 2 = 0; unfold clampB; rw [if_neg (by omega), if_pos rfl]; omega
theorem clT_255 (s : ByteArray) : bitS (clT s) 255 = 0 := by
  rw [clT_bit s 255 (by omega)]; show clampB s 31 / 2 ^ 7 % 2 = 0; unfold clampB; rw [if_pos rfl]; omega
theorem clT_254 (s : ByteArray) : bitS (clT s) 254 = 1 := by
  rw [clT_bit s 254 (by omega)]; show clampB s 31 / 2 ^ 6 % 2 = 1; unfold clampB; rw [if_pos rfl]; omega
set_option maxRecDepth 100000 in
set_option maxHeartbeats 4000000 in
theorem clamps_any (s : ByteArray) (at_ : Int) (w : World) (hsz : s.size ≤ 140737488351232) (h1 : -9223372036854775808 ≤ at_) (h2 : at_ < 9223372036854775808) :
    Calls Try.prog 7 #[.string s, .int .i64 at_] w fun e w' => e = .returned (.bool true) ∧ Below w.heap.size w w' := by
  have CX := Lib.hid (fun w => examples_any w)
  by_cases h32 : s.size = 32
  · have hc : ((s.size : Int) == 32) = true := by rw [h32]; rfl
    have C1 : Hid (∀ w, Calls Try.prog 16 #[.string s] w fun e w' => e = .returned (.tuple #[.string (clT s), .bool true]) ∧ Below w.heap.size w w') := Lib.hid (fun w => by
      have h := qclamp_any s w
      rwa [show clampV s = (clT s, true) by unfold clampV; rw [if_pos h32]; rfl] at h)
    have C2 : Hid (∀ w, Calls Try.prog 16 #[.string (clT s)] w fun e w' => e = .returned (.tuple #[.string (clT s), .bool true]) ∧ Below w.heap.size w w') := Lib.hid (fun w => by
      have h := qclamp_any (clT s) w
      rwa [clampV_again] at h)
    have B0 : Hid (∀ w, Calls Try.prog 18 #[.string (clT s), .int .i64 0] w fun e w' => e = .returned (.int .i64 0) ∧ w' = w) := Lib.hid (fun w => by
      have h := qbit_nat (clT s) 0 w (by omega)
      rwa [clT_0] at h)
    have B1 : Hid (∀ w, Calls Try.prog 18 #[.string (clT s), .int .i64 1] w fun e w' => e = .returned (.int .i64 0) ∧ w' = w) := Lib.hid (fun w => by
      have h := qbit_nat (clT s) 1 w (by omega)
      rwa [clT_1] at h)
    have B2 : Hid (∀ w, Calls Try.prog 18 #[.string (clT s), .int .i64 2] w fun e w' => e = .returned (.int .i64 0) ∧ w' = w) := Lib.hid (fun w => by
      have h := qbit_nat (clT s) 2 w (by omega)
      rwa [clT_2] at h)
    have B3 : Hid (∀ w, Calls Try.prog 18 #[.string (clT s), .int .i64 255] w fun e w' => e = .returned (.int .i64 0) ∧ w' = w) := Lib.hid (fun w => by
      have h := qbit_nat (clT s) 255 w (by omega)
      rwa [clT_255] at h)
    have B4 : Hid (∀ w, Calls Try.prog 18 #[.string (clT s), .int .i64 254] w fun e w' => e = .returned (.int .i64 1) ∧ w' = w) := Lib.hid (fun w => by
      have h := qbit_nat (clT s) 254 w (by omega)
      rwa [clT_254] at h)
    have hcs := clT_size s
    generalize clT s = c at C1 C2 B0 B1 B2 B3 B4 hcs
    have hcc := text_self c
    have he := not_empty s (by omega)
    have hs0 : 0 < s.size := by omega
    clear h32
    go_enter Try.func7, Try.ntmps7
    go_wp2_with fail
    refine (CX.out _).mono ?_
    rintro e w1 ⟨rfl, h3⟩
    go_wp2_with fail
    refine (C1.out _).mono ?_
    rintro e w2 ⟨rfl, h4⟩
    go_wp2_with fail
    refine (C2.out _).mono ?_
    rintro e w0 ⟨rfl, h5⟩
    have h34 := h3.trans (h4.mono h3.size)
    have h0 := h34.trans (h5.mono h34.size)
    clear h3 h4 h5 h34 CX C1 C2
    go_wp2_with fail
    refine (B0.out _).mono ?_
    rintro e w3 ⟨rfl, rfl⟩
    go_wp2_with fail
    refine (B1.out _).mono ?_
    rintro e w3 ⟨rfl, rfl⟩
    go_wp2_with fail
    refine (B2.out _).mono ?_
    rintro e w3 ⟨rfl, rfl⟩
    go_wp2_with fail
    refine (B3.out _).mono ?_
    rintro e w3 ⟨rfl, rfl⟩
    go_wp2_with fail
    refine (B4.out _).mono ?_
    rintro e w3 ⟨rfl, rfl⟩
    clear B0 B1 B2 B3 B4
    by_cases hneg : at_ < 0
    · obtain ⟨m, hm⟩ : ∃ m : Nat, m = (-(at_ + 1)).toNat := ⟨_, rfl⟩
      have hn1 : IntKind.i64.wrap (at_ + 1) = at_ + 1 := IntWalk.i64_in _ (by omega)
      have hn2 : -(at_ + 1) = (m : Int) := by omega
      have hn3 : IntKind.i64.wrap (m : Int) = (m : Int) := IntWalk.i64_in _ (by omega)
      have hp : m % s.size < s.size := Nat.mod_lt _ (by omega)
      have hmod : (m : Int).tmod s.size = ((m % s.size : Nat) : Int) := by rw [Int.tmod_eq_emod_of_nonneg (by omega)]; rfl
      generalize m % s.size = p at hp hmod
      have hp0 : (p : Int) < s.size := by omega
      have hp1 : (0 : Int) ≤ p := by omega
      have hwp : IntKind.i64.wrap (p : Int) = (p : Int) := IntWalk.i64_in _ (by omega)
      obtain ⟨d, hd⟩ : ∃ d, d = 8 * p := ⟨_, rfl⟩
      have hdi : 8 * (p : Int) = (d : Int) := by omega
      have hwd : IntKind.i64.wrap (d : Int) = (d : Int) := IntWalk.i64_in _ (by omega)
      obtain ⟨L, hL⟩ : ∃ L, L = 8 * s.size := ⟨_, rfl⟩
      have hLi : 8 * (s.size : Int) = (L : Int) := by omega
      have hwL : IntKind.i64.wrap (L : Int) = (L : Int) := IntWalk.i64_in _ (by omega)
      have CE : Hid (∀ w, Calls Try.prog 18 #[.string s, .int .i64 (L : Int)] w fun e w' => e = .returned (.int .i64 0) ∧ w' = w) := Lib.hid (fun w => by
        have h := qbit_nat s L w (by omega)
        rwa [show bitS s L = 0 by unfold bitS; rw [byteS_out _ _ (by omega), Nat.zero_div]] at h)
      have HBY := Lib.hid (byteS_at s p hp)
      have HBL := byteS_lt s p
      have HBI : Hid (∀ i, i < 8 → bitS s (d + i) = byteS s p / 2 ^ i % 2) := Lib.hid (fun i hi => by
        unfold bitS; rw [show (d + i) / 8 = p by omega, show (d + i) % 8 = i by omega])
      have CB : Hid (∀ i, i < 8 → ∀ w, Calls Try.prog 18 #[.string s, .int .i64 ((d + i : Nat) : Int)] w fun e w' => e = .returned (.int .i64 ((byteS s p / 2 ^ i % 2 : Nat) : Int)) ∧ w' = w) := Lib.hid (fun i hi w => by
        have h := qbit_nat s (d + i) w (by omega)
        rwa [HBI.out i hi] at h)
      have HD := Lib.hid (show d < 9223372036854775000 by omega)
      clear hd hL HBI hm hs0 hsz h1 h2
      have HLI := Lib.hid hLi
      clear hLi
      go_wp2_with fail
      go_loopw [10, 11] (fun nn kk wr => ∃ j : Nat, j ≤ 8 ∧ kk = .int .i64 ((j : Int) - 1) ∧ nn = .int .i64 ((byteS s p / 2 ^ j : Nat) : Int) ∧ wr = w3) (fun _ kk _ => (intOf kk + 1).toNat)
      case atStart => exact ⟨8, by omega, rfl, by rw [Nat.div_eq_of_lt (show byteS s p < 2 ^ 8 from HBL)]; rfl, rfl⟩
      case round =>
        obtain ⟨j, hj, rfl, rfl, rfl⟩ := hrel
        by_cases hlt : 0 < j
        · obtain ⟨i, rfl⟩ : ∃ i, j = i + 1 := ⟨j - 1, by omega⟩
          have hi8 : i < 8 := by omega
          have CBi := Lib.hid (CB.out i hi8)
          obtain ⟨q, hq⟩ : ∃ q, q = d + i := ⟨_, rfl⟩
          have hqi : (d : Int) + i = (q : Int) := by omega
          have hwq : IntKind.i64.wrap (q : Int) = (q : Int) := IntWalk.i64_in _ (by have := HD.out; omega)
          rw [← hq] at CBi
          have hiw : IntKind.i64.wrap (i : Int) = (i : Int) := IntWalk.i64_in _ (by omega)
          have hi0 : (0 : Int) ≤ i := by omega
          have HN : Hid (2 * (byteS s p / 2 ^ (i + 1)) + byteS s p / 2 ^ i % 2 = byteS s p / 2 ^ i) := Lib.hid (by
            rw [Nat.pow_succ, ← Nat.div_div_eq_div_mul]; omega)
          have hb1 : byteS s p / 2 ^ (i + 1) < 256 := Nat.lt_of_le_of_lt (Nat.div_le_self _ _) HBL
          have hb2 : byteS s p / 2 ^ i % 2 < 2 := Nat.mod_lt _ (by omega)
          generalize hNX : byteS s p / 2 ^ i = nx at HN CBi hb2
          have HNX := Lib.hid hNX
          generalize byteS s p / 2 ^ (i + 1) = x at HN hb1 ⊢
          generalize nx % 2 = b at HN CBi hb2
          obtain ⟨y, hy⟩ : ∃ y, y = 2 * x := ⟨_, rfl⟩
          have hyi : 2 * (x : Int) = (y : Int) := by omega
          have hyw : IntKind.i64.wrap (y : Int) = (y : Int) := IntWalk.i64_in _ (by omega)
          have hz : (y : Int) + b = (nx : Int) := by have := HN.out; omega
          have hzw : IntKind.i64.wrap (nx : Int) = (nx : Int) := IntWalk.i64_in _ (by have := HN.out; omega)
          rw [show ((i + 1 : Nat) : Int) - 1 = (i : Int) by omega]
          clear hq hNX hy hlt hj CB CE
          go_wp2_with fail
          refine (CBi.out _).mono ?_
          rintro e w1 ⟨rfl, rfl⟩
          clear CBi
          go_wp2_with fail
          go_roundw
          case rel => exact ⟨i, by omega, by go_num, by rw [HNX.out], trivial⟩
          case measure => simp [intOf]
        · obtain rfl : j = 0 := by omega
          rw [Nat.pow_zero, Nat.div_one]
          rw [show ((0 : Nat) : Int) - 1 = -1 by rfl]
          clear CB hlt hj
          have hLi := HLI.out
          have hbe : wrap64 ((s[p]).toNat : Int) = (byteS s p : Int) := by rw [HBY.out]; exact IntWalk.wrap64_in _ (by omega)
          go_wp2_with fail
          refine (CE.out _).mono ?_
          rintro e w1 ⟨rfl, rfl⟩
          clear CE
          go_wp2_with fail
          refine (qbit_neg s (-1) _ (by decide)).mono ?_
          rintro e w1 ⟨rfl, rfl⟩
          go_wp2_with fail
          go_ret
          exact ⟨rfl, h0⟩
    · obtain ⟨m, hm⟩ : ∃ m : Nat, m = at_.toNat := ⟨_, rfl⟩
      obtain rfl : at_ = (m : Int) := by omega
      have hp : m % s.size < s.size := Nat.mod_lt _ (by omega)
      have hmod : (m : Int).tmod s.size = ((m % s.size : Nat) : Int) := by rw [Int.tmod_eq_emod_of_nonneg (by omega)]; rfl
      generalize m % s.size = p at hp hmod
      have hp0 : (p : Int) < s.size := by omega
      have hp1 : (0 : Int) ≤ p := by omega
      have hwp : IntKind.i64.wrap (p : Int) = (p : Int) := IntWalk.i64_in _ (by omega)
      obtain ⟨d, hd⟩ : ∃ d, d = 8 * p := ⟨_, rfl⟩
      have hdi : 8 * (p : Int) = (d : Int) := by omega
      have hwd : IntKind.i64.wrap (d : Int) = (d : Int) := IntWalk.i64_in _ (by omega)
      obtain ⟨L, hL⟩ : ∃ L, L = 8 * s.size := ⟨_, rfl⟩
      have hLi : 8 * (s.size : Int) = (L : Int) := by omega
      have hwL : IntKind.i64.wrap (L : Int) = (L : Int) := IntWalk.i64_in _ (by omega)
      have CE : Hid (∀ w, Calls Try.prog 18 #[.string s, .int .i64 (L : Int)] w fun e w' => e = .returned (.int .i64 0) ∧ w' = w) := Lib.hid (fun w => by
        have h := qbit_nat s L w (by omega)
        rwa [show bitS s L = 0 by unfold bitS; rw [byteS_out _ _ (by omega), Nat.zero_div]] at h)
      have HBY := Lib.hid (byteS_at s p hp)
      have HBL := byteS_lt s p
      have HBI : Hid (∀ i, i < 8 → bitS s (d + i) = byteS s p / 2 ^ i % 2) := Lib.hid (fun i hi => by
        unfold bitS; rw [show (d + i) / 8 = p by omega, show (d + i) % 8 = i by omega])
      have CB : Hid (∀ i, i < 8 → ∀ w, Calls Try.prog 18 #[.string s, .int .i64 ((d + i : Nat) : Int)] w fun e w' => e = .returned (.int .i64 ((byteS s p / 2 ^ i % 2 : Nat) : Int)) ∧ w' = w) := Lib.hid (fun i hi w => by
        have h := qbit_nat s (d + i) w (by omega)
        rwa [HBI.out i hi] at h)
      have HD := Lib.hid (show d < 9223372036854775000 by omega)
      clear hd hL HBI hm hs0 hsz h1 h2
      have HLI := Lib.hid hLi
      clear hLi
      go_wp2_with fail
      go_loopw [10, 11] (fun nn kk wr => ∃ j : Nat, j ≤ 8 ∧ kk = .int .i64 ((j : Int) - 1) ∧ nn = .int .i64 ((byteS s p / 2 ^ j : Nat) : Int) ∧ wr = w3) (fun _ kk _ => (intOf kk + 1).toNat)
      case atStart => exact ⟨8, by omega, rfl, by rw [Nat.div_eq_of_lt (show byteS s p < 2 ^ 8 from HBL)]; rfl, rfl⟩
      case round =>
        obtain ⟨j, hj, rfl, rfl, rfl⟩ := hrel
        by_cases hlt : 0 < j
        · obtain ⟨i, rfl⟩ : ∃ i, j = i + 1 := ⟨j - 1, by omega⟩
          have hi8 : i < 8 := by omega
          have CBi := Lib.hid (CB.out i hi8)
          obtain ⟨q, hq⟩ : ∃ q, q = d + i := ⟨_, rfl⟩
          have hqi : (d : Int) + i = (q : Int) := by omega
          have hwq : IntKind.i64.wrap (q : Int) = (q : Int) := IntWalk.i64_in _ (by have := HD.out; omega)
          rw [← hq] at CBi
          have hiw : IntKind.i64.wrap (i : Int) = (i : Int) := IntWalk.i64_in _ (by omega)
          have hi0 : (0 : Int) ≤ i := by omega
          have HN : Hid (2 * (byteS s p / 2 ^ (i + 1)) + byteS s p / 2 ^ i % 2 = byteS s p / 2 ^ i) := Lib.hid (by
            rw [Nat.pow_succ, ← Nat.div_div_eq_div_mul]; omega)
          have hb1 : byteS s p / 2 ^ (i + 1) < 256 := Nat.lt_of_le_of_lt (Nat.div_le_self _ _) HBL
          have hb2 : byteS s p / 2 ^ i % 2 < 2 := Nat.mod_lt _ (by omega)
          generalize hNX : byteS s p / 2 ^ i = nx at HN CBi hb2
          have HNX := Lib.hid hNX
          generalize byteS s p / 2 ^ (i + 1) = x at HN hb1 ⊢
          generalize nx % 2 = b at HN CBi hb2
          obtain ⟨y, hy⟩ : ∃ y, y = 2 * x := ⟨_, rfl⟩
          have hyi : 2 * (x : Int) = (y : Int) := by omega
          have hyw : IntKind.i64.wrap (y : Int) = (y : Int) := IntWalk.i64_in _ (by omega)
          have hz : (y : Int) + b = (nx : Int) := by have := HN.out; omega
          have hzw : IntKind.i64.wrap (nx : Int) = (nx : Int) := IntWalk.i64_in _ (by have := HN.out; omega)
          rw [show ((i + 1 : Nat) : Int) - 1 = (i : Int) by omega]
          clear hq hNX hy hlt hj CB CE
          go_wp2_with fail
          refine (CBi.out _).mono ?_
          rintro e w1 ⟨rfl, rfl⟩
          clear CBi
          go_wp2_with fail
          go_roundw
          case rel => exact ⟨i, by omega, by go_num, by rw [HNX.out], trivial⟩
          case measure => simp [intOf]
        · obtain rfl : j = 0 := by omega
          rw [Nat.pow_zero, Nat.div_one]
          rw [show ((0 : Nat) : Int) - 1 = -1 by rfl]
          clear CB hlt hj
          have hLi := HLI.out
          have hbe : wrap64 ((s[p]).toNat : Int) = (byteS s p : Int) := by rw [HBY.out]; exact IntWalk.wrap64_in _ (by omega)
          go_wp2_with fail
          refine (CE.out _).mono ?_
          rintro e w1 ⟨rfl, rfl⟩
          clear CE
          go_wp2_with fail
          refine (qbit_neg s (-1) _ (by decide)).mono ?_
          rintro e w1 ⟨rfl, rfl⟩
          go_wp2_with fail
          go_ret
          exact ⟨rfl, h0⟩
  · have hc : ((s.size : Int) == 32) = false := by rw [beq_eq_false_iff_ne]; omega
    have C1 : Hid (∀ w, Calls Try.prog 16 #[.string s] w fun e w' => e = .returned (.tuple #[.string ⟨#[]⟩, .bool false]) ∧ Below w.heap.size w w') := Lib.hid (fun w => by
      have h := qclamp_any s w
      rwa [show clampV s = (⟨#[]⟩, false) by unfold clampV; rw [if_neg h32]] at h)
    clear h32
    by_cases hs00 : s.size = 0
    · have he : s.toList.isEmpty = true := by
        rw [ByteArray.toList_eq, show s.data = #[] from Array.eq_empty_of_size_eq_zero hs00]; rfl
      have CB : Hid (∀ w, Calls Try.prog 18 #[.string s, .int .i64 at_] w fun e w' => e = .returned (.int .i64 0) ∧ w' = w) := Lib.hid (fun w => by
        have h := qbit_int s at_ w h2
        rwa [show bitI s at_ = 0 by
          unfold bitI
          split
          · rfl
          · unfold bitS; rw [byteS_out _ _ (by omega), Nat.zero_div]] at h)
      clear hs00 h1 h2 hsz
      go_enter Try.func7, Try.ntmps7
      go_wp2_with fail
      refine (CX.out _).mono ?_
      rintro e w1 ⟨rfl, h3⟩
      go_wp2_with fail
      refine (C1.out _).mono ?_
      rintro e w2 ⟨rfl, h4⟩
      go_wp2_with fail
      refine (CB.out _).mono ?_
      rintro e w3 ⟨rfl, rfl⟩
      go_wp2_with fail
      go_ret
      exact ⟨rfl, h3.trans (h4.mono h3.size)⟩
    · have he := not_empty s (by omega)
      have hs0 : 0 < s.size := by omega
      clear hs00
      go_enter Try.func7, Try.ntmps7
      go_wp2_with fail
      refine (CX.out _).mono ?_
      rintro e w1 ⟨rfl, h3⟩
      go_wp2_with fail
      refine (C1.out _).mono ?_
      rintro e w0 ⟨rfl, h4⟩
      have h0 := h3.trans (h4.mono h3.size)
      clear h3 h4 CX C1
      by_cases hneg : at_ < 0
      · obtain ⟨m, hm⟩ : ∃ m : Nat, m = (-(at_ + 1)).toNat := ⟨_, rfl⟩
        have hn1 : IntKind.i64.wrap (at_ + 1) = at_ + 1 := IntWalk.i64_in _ (by omega)
        have hn2 : -(at_ + 1) = (m : Int) := by omega
        have hn3 : IntKind.i64.wrap (m : Int) = (m : Int) := IntWalk.i64_in _ (by omega)
        have hp : m % s.size < s.size := Nat.mod_lt _ (by omega)
        have hmod : (m : Int).tmod s.size = ((m % s.size : Nat) : Int) := by rw [Int.tmod_eq_emod_of_nonneg (by omega)]; rfl
        generalize m % s.size = p at hp hmod
        have hp0 : (p : Int) < s.size := by omega
        have hp1 : (0 : Int) ≤ p := by omega
        have hwp : IntKind.i64.wrap (p : Int) = (p : Int) := IntWalk.i64_in _ (by omega)
        obtain ⟨d, hd⟩ : ∃ d, d = 8 * p := ⟨_, rfl⟩
        have hdi : 8 * (p : Int) = (d : Int) := by omega
        have hwd : IntKind.i64.wrap (d : Int) = (d : Int) := IntWalk.i64_in _ (by omega)
        obtain ⟨L, hL⟩ : ∃ L, L = 8 * s.size := ⟨_, rfl⟩
        have hLi : 8 * (s.size : Int) = (L : Int) := by omega
        have hwL : IntKind.i64.wrap (L : Int) = (L : Int) := IntWalk.i64_in _ (by omega)
        have CE : Hid (∀ w, Calls Try.prog 18 #[.string s, .int .i64 (L : Int)] w fun e w' => e = .returned (.int .i64 0) ∧ w' = w) := Lib.hid (fun w => by
          have h := qbit_nat s L w (by omega)
          rwa [show bitS s L = 0 by unfold bitS; rw [byteS_out _ _ (by omega), Nat.zero_div]] at h)
        have HBY := Lib.hid (byteS_at s p hp)
        have HBL := byteS_lt s p
        have HBI : Hid (∀ i, i < 8 → bitS s (d + i) = byteS s p / 2 ^ i % 2) := Lib.hid (fun i hi => by
          unfold bitS; rw [show (d + i) / 8 = p by omega, show (d + i) % 8 = i by omega])
        have CB : Hid (∀ i, i < 8 → ∀ w, Calls Try.prog 18 #[.string s, .int .i64 ((d + i : Nat) : Int)] w fun e w' => e = .returned (.int .i64 ((byteS s p / 2 ^ i % 2 : Nat) : Int)) ∧ w' = w) := Lib.hid (fun i hi w => by
          have h := qbit_nat s (d + i) w (by omega)
          rwa [HBI.out i hi] at h)
        have HD := Lib.hid (show d < 9223372036854775000 by omega)
        clear hd hL HBI hm hs0 hsz h1 h2
        have HLI := Lib.hid hLi
        clear hLi
        go_wp2_with fail
        go_loopw [10, 11] (fun nn kk wr => ∃ j : Nat, j ≤ 8 ∧ kk = .int .i64 ((j : Int) - 1) ∧ nn = .int .i64 ((byteS s p / 2 ^ j : Nat) : Int) ∧ wr = w0) (fun _ kk _ => (intOf kk + 1).toNat)
        case atStart => exact ⟨8, by omega, rfl, by rw [Nat.div_eq_of_lt (show byteS s p < 2 ^ 8 from HBL)]; rfl, rfl⟩
        case round =>
          obtain ⟨j, hj, rfl, rfl, rfl⟩ := hrel
          by_cases hlt : 0 < j
          · obtain ⟨i, rfl⟩ : ∃ i, j = i + 1 := ⟨j - 1, by omega⟩
            have hi8 : i < 8 := by omega
            have CBi := Lib.hid (CB.out i hi8)
            obtain ⟨q, hq⟩ : ∃ q, q = d + i := ⟨_, rfl⟩
            have hqi : (d : Int) + i = (q : Int) := by omega
            have hwq : IntKind.i64.wrap (q : Int) = (q : Int) := IntWalk.i64_in _ (by have := HD.out; omega)
            rw [← hq] at CBi
            have hiw : IntKind.i64.wrap (i : Int) = (i : Int) := IntWalk.i64_in _ (by omega)
            have hi0 : (0 : Int) ≤ i := by omega
            have HN : Hid (2 * (byteS s p / 2 ^ (i + 1)) + byteS s p / 2 ^ i % 2 = byteS s p / 2 ^ i) := Lib.hid (by
              rw [Nat.pow_succ, ← Nat.div_div_eq_div_mul]; omega)
            have hb1 : byteS s p / 2 ^ (i + 1) < 256 := Nat.lt_of_le_of_lt (Nat.div_le_self _ _) HBL
            have hb2 : byteS s p / 2 ^ i % 2 < 2 := Nat.mod_lt _ (by omega)
            generalize hNX : byteS s p / 2 ^ i = nx at HN CBi hb2
            have HNX := Lib.hid hNX
            generalize byteS s p / 2 ^ (i + 1) = x at HN hb1 ⊢
            generalize nx % 2 = b at HN CBi hb2
            obtain ⟨y, hy⟩ : ∃ y, y = 2 * x := ⟨_, rfl⟩
            have hyi : 2 * (x : Int) = (y : Int) := by omega
            have hyw : IntKind.i64.wrap (y : Int) = (y : Int) := IntWalk.i64_in _ (by omega)
            have hz : (y : Int) + b = (nx : Int) := by have := HN.out; omega
            have hzw : IntKind.i64.wrap (nx : Int) = (nx : Int) := IntWalk.i64_in _ (by have := HN.out; omega)
            rw [show ((i + 1 : Nat) : Int) - 1 = (i : Int) by omega]
            clear hq hNX hy hlt hj CB CE
            go_wp2_with fail
            refine (CBi.out _).mono ?_
            rintro e w1 ⟨rfl, rfl⟩
            clear CBi
            go_wp2_with fail
            go_roundw
            case rel => exact ⟨i, by omega, by go_num, by rw [HNX.out], trivial⟩
            case measure => simp [intOf]
          · obtain rfl : j = 0 := by omega
            rw [Nat.pow_zero, Nat.div_one]
            rw [show ((0 : Nat) : Int) - 1 = -1 by rfl]
            clear CB hlt hj
            have hLi := HLI.out
            have hbe : wrap64 ((s[p]).toNat : Int) = (byteS s p : Int) := by rw [HBY.out]; exact IntWalk.wrap64_in _ (by omega)
            go_wp2_with fail
            refine (CE.out _).mono ?_
            rintro e w1 ⟨rfl, rfl⟩
            clear CE
            go_wp2_with fail
            refine (qbit_neg s (-1) _ (by decide)).mono ?_
            rintro e w1 ⟨rfl, rfl⟩
            go_wp2_with fail
            go_ret
            exact ⟨rfl, h0⟩
      · obtain ⟨m, hm⟩ : ∃ m : Nat, m = at_.toNat := ⟨_, rfl⟩
        obtain rfl : at_ = (m : Int) := by omega
        have hp : m % s.size < s.size := Nat.mod_lt _ (by omega)
        have hmod : (m : Int).tmod s.size = ((m % s.size : Nat) : Int) := by rw [Int.tmod_eq_emod_of_nonneg (by omega)]; rfl
        generalize m % s.size = p at hp hmod
        have hp0 : (p : Int) < s.size := by omega
        have hp1 : (0 : Int) ≤ p := by omega
        have hwp : IntKind.i64.wrap (p : Int) = (p : Int) := IntWalk.i64_in _ (by omega)
        obtain ⟨d, hd⟩ : ∃ d, d = 8 * p := ⟨_, rfl⟩
        have hdi : 8 * (p : Int) = (d : Int) := by omega
        have hwd : IntKind.i64.wrap (d : Int) = (d : Int) := IntWalk.i64_in _ (by omega)
        obtain ⟨L, hL⟩ : ∃ L, L = 8 * s.size := ⟨_, rfl⟩
        have hLi : 8 * (s.size : Int) = (L : Int) := by omega
        have hwL : IntKind.i64.wrap (L : Int) = (L : Int) := IntWalk.i64_in _ (by omega)
        have CE : Hid (∀ w, Calls Try.prog 18 #[.string s, .int .i64 (L : Int)] w fun e w' => e = .returned (.int .i64 0) ∧ w' = w) := Lib.hid (fun w => by
          have h := qbit_nat s L w (by omega)
          rwa [show bitS s L = 0 by unfold bitS; rw [byteS_out _ _ (by omega), Nat.zero_div]] at h)
        have HBY := Lib.hid (byteS_at s p hp)
        have HBL := byteS_lt s p
        have HBI : Hid (∀ i, i < 8 → bitS s (d + i) = byteS s p / 2 ^ i % 2) := Lib.hid (fun i hi => by
          unfold bitS; rw [show (d + i) / 8 = p by omega, show (d + i) % 8 = i by omega])
        have CB : Hid (∀ i, i < 8 → ∀ w, Calls Try.prog 18 #[.string s, .int .i64 ((d + i : Nat) : Int)] w fun e w' => e = .returned (.int .i64 ((byteS s p / 2 ^ i % 2 : Nat) : Int)) ∧ w' = w) := Lib.hid (fun i hi w => by
          have h := qbit_nat s (d + i) w (by omega)
          rwa [HBI.out i hi] at h)
        have HD := Lib.hid (show d < 9223372036854775000 by omega)
        clear hd hL HBI hm hs0 hsz h1 h2
        have HLI := Lib.hid hLi
        clear hLi
        go_wp2_with fail
        go_loopw [10, 11] (fun nn kk wr => ∃ j : Nat, j ≤ 8 ∧ kk = .int .i64 ((j : Int) - 1) ∧ nn = .int .i64 ((byteS s p / 2 ^ j : Nat) : Int) ∧ wr = w0) (fun _ kk _ => (intOf kk + 1).toNat)
        case atStart => exact ⟨8, by omega, rfl, by rw [Nat.div_eq_of_lt (show byteS s p < 2 ^ 8 from HBL)]; rfl, rfl⟩
        case round =>
          obtain ⟨j, hj, rfl, rfl, rfl⟩ := hrel
          by_cases hlt : 0 < j
          · obtain ⟨i, rfl⟩ : ∃ i, j = i + 1 := ⟨j - 1, by omega⟩
            have hi8 : i < 8 := by omega
            have CBi := Lib.hid (CB.out i hi8)
            obtain ⟨q, hq⟩ : ∃ q, q = d + i := ⟨_, rfl⟩
            have hqi : (d : Int) + i = (q : Int) := by omega
            have hwq : IntKind.i64.wrap (q : Int) = (q : Int) := IntWalk.i64_in _ (by have := HD.out; omega)
            rw [← hq] at CBi
            have hiw : IntKind.i64.wrap (i : Int) = (i : Int) := IntWalk.i64_in _ (by omega)
            have hi0 : (0 : Int) ≤ i := by omega
            have HN : Hid (2 * (byteS s p / 2 ^ (i + 1)) + byteS s p / 2 ^ i % 2 = byteS s p / 2 ^ i) := Lib.hid (by
              rw [Nat.pow_succ, ← Nat.div_div_eq_div_mul]; omega)
            have hb1 : byteS s p / 2 ^ (i + 1) < 256 := Nat.lt_of_le_of_lt (Nat.div_le_self _ _) HBL
            have hb2 : byteS s p / 2 ^ i % 2 < 2 := Nat.mod_lt _ (by omega)
            generalize hNX : byteS s p / 2 ^ i = nx at HN CBi hb2
            have HNX := Lib.hid hNX
            generalize byteS s p / 2 ^ (i + 1) = x at HN hb1 ⊢
            generalize nx % 2 = b at HN CBi hb2
            obtain ⟨y, hy⟩ : ∃ y, y = 2 * x := ⟨_, rfl⟩
            have hyi : 2 * (x : Int) = (y : Int) := by omega
            have hyw : IntKind.i64.wrap (y : Int) = (y : Int) := IntWalk.i64_in _ (by omega)
            have hz : (y : Int) + b = (nx : Int) := by have := HN.out; omega
            have hzw : IntKind.i64.wrap (nx : Int) = (nx : Int) := IntWalk.i64_in _ (by have := HN.out; omega)
            rw [show ((i + 1 : Nat) : Int) - 1 = (i : Int) by omega]
            clear hq hNX hy hlt hj CB CE
            go_wp2_with fail
            refine (CBi.out _).mono ?_
            rintro e w1 ⟨rfl, rfl⟩
            clear CBi
            go_wp2_with fail
            go_roundw
            case rel => exact ⟨i, by omega, by go_num, by rw [HNX.out], trivial⟩
            case measure => simp [intOf]
          · obtain rfl : j = 0 := by omega
            rw [Nat.pow_zero, Nat.div_one]
            rw [show ((0 : Nat) : Int) - 1 = -1 by rfl]
            clear CB hlt hj
            have hLi := HLI.out
            have hbe : wrap64 ((s[p]).toNat : Int) = (byteS s p : Int) := by rw [HBY.out]; exact IntWalk.wrap64_in _ (by omega)
            go_wp2_with fail
            refine (CE.out _).mono ?_
            rintro e w1 ⟨rfl, rfl⟩
            clear CE
            go_wp2_with fail
            refine (qbit_neg s (-1) _ (by decide)).mono ?_
            rintro e w1 ⟨rfl, rfl⟩
            go_wp2_with fail
            go_ret
            exact ⟨rfl, h0⟩
end Go.Proofs.Ytnfcgpoafmmioaa
