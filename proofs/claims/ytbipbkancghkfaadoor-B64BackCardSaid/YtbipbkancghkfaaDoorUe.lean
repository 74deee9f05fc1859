/- The reference's Number of chapter 7. -/
import Derived.Test.YtbipbkancghkfaaDoorUa
import Derived.Test.YtbipbkancghkfaaDoorOb
import Derived.IntWalk
import Derived.Lib.Hide
namespace Go.Proofs.YtbipbkancghkfaaDoor
open Go.RowKit
/-- One byte as a text. -/
theorem one_text (z : Nat) (hz : z < 256) (w : World) : (convert 35 9 (.slice (some ⟨w.heap.size, 0, none⟩) 1 1)).run Tryd.prog (w.alloc (.cells #[.int .u8 (z : Int)] 5)) = .ok (.string (textN 1 fun _ => z)) (w.alloc (.cells #[.int .u8 (z : Int)] 5)) := by
  have e : #[Value.int .u8 (z : Int)] = r8 1 (fun _ => BitVec.ofNat 8 z) := by
    show _ = #[Value.int .u8 (iw (BitVec.ofNat 8 z))]
    unfold iw
    rw [BitVec.toNat_ofNat, Nat.mod_eq_of_lt (show z < 2 ^ 8 by omega)]
  exact run_string_of_blk (P := Tryd.prog) _ 35 9 5 Tryd.underlying35 Tryd.underlying5 Tryd.underlying9 w.heap.size 1 1 _ _ ((Blk.new w 5 #[.int .u8 (z : Int)]).cast_ e)
/-- The last t + 1 digits. -/
def lastB (N t j : Nat) : Nat := 48 + N / 10 ^ (t - j) % 10
theorem lastB_lt (N t j : Nat) : lastB N t j < 256 := by unfold lastB; omega
theorem last_next (N t : Nat) : textN 1 (fun _ => 48 + N / 10 ^ (t + 1) % 10) ++ textN (t + 1) (lastB N t) = textN (t + 2) (lastB N (t + 1)) :=
  textN_ahead (t + 1) _ _ _ (by omega) (lastB_lt N t) rfl fun j _ => by
    unfold lastB; rw [show t + 1 - (j + 1) = t - j by omega]
theorem decN_of {N t : Nat} (h1 : N / 10 ^ t < 10) (h2 : t + 1 ≤ decN N) : decN N = t + 1 := by
  by_cases h : decN N = t + 1
  · exact h
  · exfalso
    have hN : 0 < N := by
      rcases Nat.eq_zero_or_pos N with rfl | h0
      · have : decN 0 = 1 := by unfold decN; rfl
        omega
      · exact h0
    have h3 := decN_le N hN
    have h4 : 10 ^ (t + 1) ≤ 10 ^ (decN N - 1) := Nat.pow_le_pow_right (by decide) (by omega)
    have h5 : 10 ≤ N / 10 ^ t := (Nat.le_div_iff_mul_le (Nat.pow_pos (by decide))).2 (by rw [Nat.pow_succ] at h4; omega)
    omega
theorem decN_more {N t : Nat} (h1 : 10 ≤ N / 10 ^ t) : t + 2 ≤ decN N := by
  have h2 := decN_lt N
  have h3 := (Nat.le_div_iff_mul_le (Nat.pow_pos (n := t) (show 0 < 10 by decide))).1 h1
  rcases Nat.lt_or_ge (t + 1) (decN N) with h | h
  · exact h
  · have : 10 ^ decN N ≤ 10 ^ (t + 1) := Nat.pow_le_pow_right (by decide) h
    rw [Nat.pow_succ] at this
    omega
theorem last_all {N t : Nat} (h : decN N = t + 1) : textN (t + 1) (lastB N t) = decT N := by
  unfold decT
  rw [h]
  have : lastB N t = decB N := funext fun j => by unfold lastB decB; rw [h, Nat.add_sub_cancel]
  rw [this]
/-- What Number answers. -/
def numA (n : Int) : ByteArray × Bool := if n < 0 then (⟨#[]⟩, false) else (decT n.toNat, true)
set_option maxRecDepth 100000 in
set_option maxHeartbeats 2000000 in
theorem rnum7_neg (n : Int) (w : World) (h : n < 0) :
    Calls Tryd.prog 19 #[.int .i64 n] w fun e w' => e = .returned (.tuple #[.string ⟨#[]⟩, .bool false]) ∧ Below w.heap.size w w' := by
  go_enter Tryd.func19, Tryd.ntmps19
  go_wp2_with fail
  go_ret2
  exact ⟨rfl, Below.refl _ _⟩
set_option maxRecDepth 100000 in
set_option maxHeartbeats 2000000 in
theorem rnum7_pos (N : Nat) (w : World) (h : N < 9223372036854775808) :
    Calls Tryd.prog 19 #[.int .i64 (N : Int)] w fun e w' => e = .returned (.tuple #[.string (decT N), .bool true]) ∧ Below w.heap.size w w' := by
  have hlt := Lib.hid h
  have hN0 : ¬ (N : Int) < 0 := by omega
  obtain ⟨d, hd⟩ : ∃ d, d = N % 10 := ⟨_, rfl⟩
  obtain ⟨z, hz⟩ : ∃ z, z = 48 + d := ⟨_, rfl⟩
  have hz2 : z < 256 := by omega
  have hm : (N : Int) % 10 = (d : Int) := by omega
  have hd10 : d < 10 := by omega
  have hzw : IntKind.u8.wrap (48 + (d : Int)) = (z : Int) := by rw [IntKind.wrap_u8]; omega
  have hc := Lib.hid (one_text z hz2)
  have H0 : Hid (textN 1 (fun _ => z) = textN (0 + 1) (lastB N 0)) := Lib.hid (by
    have : lastB N 0 = fun _ => z := funext fun j => by unfold lastB; rw [Nat.zero_sub, Nat.pow_zero, Nat.div_one, hz, hd]
    rw [this])
  clear h hz hd
  go_enter Tryd.func19, Tryd.ntmps19
  have hc1 := hc.out w
  go_wp2_with fail
  rw [H0.out]
  clear hc hc1 hm hzw hz2 H0 hd10
  go_loopw [0, 4] (fun m v wr => ∃ t : Nat, t + 1 ≤ decN N ∧ m = .int .i64 ((N / 10 ^ t : Nat) : Int) ∧ v = .string (textN (t + 1) (lastB N t)) ∧ Below w.heap.size w wr) (fun m _ _ => (intOf m).toNat)
  case atStart => exact ⟨0, decN_pos N, by rw [Nat.pow_zero, Nat.div_one], rfl, (Below.refl _ _).alloc (Nat.le_refl _) _⟩
  case round =>
    obtain ⟨t, ht, rfl, rfl, hb⟩ := hrel
    have hd20 : decN N ≤ 19 := by
      rcases Nat.lt_or_ge 19 (decN N) with h | h
      · have h0 : 0 < N := by
          rcases Nat.eq_zero_or_pos N with rfl | h0
          · have : decN 0 = 1 := by unfold decN; rfl
            omega
          · exact h0
        have h1 := decN_le N h0
        have h2 : 10 ^ 19 ≤ 10 ^ (decN N - 1) := Nat.pow_le_pow_right (by decide) (by omega)
        have := hlt.out
        omega
      · exact h
    obtain ⟨m, hm⟩ : ∃ m, m = N / 10 ^ t := ⟨_, rfl⟩
    rw [← hm]
    by_cases h9 : 9 < m
    · have hmore := decN_more (N := N) (t := t) (by omega)
      have hnx : N / 10 ^ (t + 1) = m / 10 := by rw [Nat.pow_succ, ← Nat.div_div_eq_div_mul, hm]
      have HL := Lib.hid (last_next N t)
      have hsz := textN_size (t + 1) (lastB N t)
      rw [hnx] at HL
      generalize textN (t + 1) (lastB N t) = u at *
      obtain ⟨q, hq⟩ : ∃ q, q = m / 10 := ⟨_, rfl⟩
      obtain ⟨d, hd⟩ : ∃ d, d = q % 10 := ⟨_, rfl⟩
      rw [← hq, ← hd] at HL
      obtain ⟨z, hz⟩ : ∃ z, z = 48 + d := ⟨_, rfl⟩
      rw [← hz] at HL
      have hz2 : z < 256 := by omega
      have hqi : (m : Int) / 10 = (q : Int) := by omega
      have hm2 : (q : Int) % 10 = (d : Int) := by omega
      have hd10 : d < 10 := by omega
      have hzw : IntKind.u8.wrap (48 + (d : Int)) = (z : Int) := by rw [IntKind.wrap_u8]; omega
      have hc1 := one_text z hz2 wr
      have hs1 := textN_size 1 (fun _ => z)
      have h9i : (9 : Int) < (m : Int) := by omega
      have HQ : Hid (N / 10 ^ (t + 1) = q) := Lib.hid (by rw [hnx, hq])
      have hqm : q < m := by omega
      have hmN : m ≤ N := by rw [hm]; exact Nat.div_le_self _ _
      have hwq : IntKind.i64.wrap (q : Int) = (q : Int) := IntWalk.i64_in _ (by have := hlt.out; omega)
      generalize textN 1 (fun _ => z) = x at *
      clear hz hd hq hnx hm
      go_wp2_with fail
      go_roundw
      case rel => exact ⟨t + 1, by omega, by rw [HQ.out], by rw [HL.out], hb.alloc hb.size _⟩
      case measure => simp [intOf]; omega
    · have h9i : ¬ (9 : Int) < (m : Int) := by omega
      have hall := last_all (decN_of (N := N) (t := t) (by omega) ht)
      obtain ⟨u, hu⟩ : ∃ u, u = decT N := ⟨_, rfl⟩
      rw [hall, ← hu]
      have HU := Lib.hid hu
      clear hm hall hu
      go_wp2_with fail
      go_ret2
      exact ⟨by rw [← HU.out]; rfl, hb⟩
end Go.Proofs.YtbipbkancghkfaaDoor
