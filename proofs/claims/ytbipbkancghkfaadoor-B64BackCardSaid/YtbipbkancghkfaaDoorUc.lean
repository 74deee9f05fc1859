/- The reference's Hex of chapter 7. -/
import Derived.Test.YtbipbkancghkfaaDoorUa
import Derived.Test.YtbipbkancghkfaaDoorOb
import Derived.IntWalk
import Derived.Lib.Hide
import Derived.Laws.BitsAllLaws
namespace Go.Proofs.YtbipbkancghkfaaDoor
open Go.RowKit
def hexS : ByteArray := ⟨#[48, 49, 50, 51, 52, 53, 54, 55, 56, 57, 97, 98, 99, 100, 101, 102]⟩
theorem hexS_at : ∀ n, n < 16 → hexS[n]? = some (UInt8.ofNat (hexD n)) := by decide +kernel
theorem run_hexD {P : Program} (w : World) (t : TypeId) (h : P.underlying t = some .string) (n : Nat) (hn : n < 16) (k : IntKind) :
    (Instr.index t (.string ⟨#[48, 49, 50, 51, 52, 53, 54, 55, 56, 57, 97, 98, 99, 100, 101, 102]⟩) (.int k (n : Int))).run P w = .ok (.int .u8 (hexD n : Int)) w := by
  have e := hexS_at n hn
  unfold hexS at e
  have e2 : ((UInt8.ofNat (hexD n)).toNat : Int) = (hexD n : Int) := by
    have := hexD_lt n hn
    rw [UInt8.toNat_ofNat', Nat.mod_eq_of_lt (by omega)]
  rw [← e2]
  simp [Instr.index, run_underlying h, asIntOf, Sem.run_bind, e]
set_option maxRecDepth 100000 in
set_option maxHeartbeats 2000000 in
theorem rhex7_any (s : ByteArray) (w : World) (hs : s.size ≤ 100000000000) :
    Calls Tryd.prog 17 #[.string s] w fun e w' => e = .returned (.string (hexT s)) ∧ Below w.heap.size w w' := by
  obtain ⟨i0, hi, hz0, hz1, hz2⟩ := info_parts u8_infoO
  go_enter Tryd.func17, Tryd.ntmps17
  go_wp2_with fail
  go_loopw [3, 4] (fun v i wr => ∃ k : Nat, k ≤ s.size ∧ i = .int .i64 k ∧ OB w.heap.size w (2 * k) (hexB s) v wr) (fun _ i _ => s.size - (intOf i).toNat)
  case atStart => exact ⟨0, by omega, rfl, OB.nil (Below.refl _ _) (Nat.le_refl _) _⟩
  case round =>
    obtain ⟨k, hk, rfl, hr⟩ := hrel
    by_cases hlt : k < s.size
    · have h8 : s[k].toNat < 256 := s[k].toNat_lt
      have e8 := byteS_at s k hlt
      have HA : Hid (hexB s (2 * k) = hexD (s[k].toNat / 16)) := Lib.hid (by unfold hexB; rw [if_pos (by omega), show 2 * k / 2 = k by omega, e8])
      have HB : Hid (hexB s (2 * k + 1) = hexD (s[k].toNat % 16)) := Lib.hid (by unfold hexB; rw [if_neg (by omega), show (2 * k + 1) / 2 = k by omega, e8])
      have hand : bits .and .u8 (s[k].toNat : Int) 15 = ((s[k].toNat % 16 : Nat) : Int) := by
        rw [show (15 : Int) = ((15 : Nat) : Int) from rfl, u8_and_nat _ _ (by omega) (by omega), nat_mask4]
      have hsh : (s[k].toNat : Int) / 16 = ((s[k].toNat / 16 : Nat) : Int) := by omega
      have hq : s[k].toNat / 16 < 16 := by omega
      have hp : s[k].toNat % 16 < 16 := by omega
      clear e8
      generalize s[k].toNat / 16 = q at hsh hq HA
      generalize s[k].toNat % 16 = p at hand hp HB
      have d1 := fun w => run_hexD (P := Tryd.prog) w 9 Tryd.underlying9 q hq .u8
      have d2 := fun w => run_hexD (P := Tryd.prog) w 9 Tryd.underlying9 p hp .u8
      go_wp2_with fail
      have hr2 := hr.drew
      have hown := hr2.own
      have hlo := hr2.lo
      have hb2 := hr2.b
      clear hr hr2
      go_region_law (
        (refine step_append_own _ rfl (.tmp 11) (.tmp 22) 35 rfl w.heap.size 5 i0 (.int .u8 0) 1 1 Tryd.underlying35 hi hz0 hz1 hz2 rfl (by decide) u3 (2 * k) _ rfl (hown.alloc _) ⟨wr.heap.size, 0, none⟩ 2 2 [.int .u8 (hexD q : Int), .int .u8 (hexD p : Int)] rfl rfl ?c1 ?c2 ?c3 ?c4 ?c5 ?_
         case c1 =>
           intro j u hu
           rw [addr_add, Nat.zero_add]
           exact (cell_of_row _ _ j _ _ (0, 0) (heap_alloc_new wr.drew _)).trans (by rw [← hu]; simp)
         case c2 =>
           intro u hu
           simp at hu
           rcases hu with rfl | rfl <;> rfl
         case c3 => unfold maxLen; omega
         case c4 => omega
         case c5 => simp; exact Nat.le_succ_of_le hlo
         intro v' w2 hown2 hg2 _))
      all_goals
        have hb3 : Below w.heap.size w w2 := (hb2.alloc hlo _).grown hg2 (by simp; exact Nat.le_succ_of_le hlo) (own_le hown)
        have K : OB w.heap.size w (2 * (k + 1)) (hexB s) v' w2 := ⟨by
          rw [show 2 * (k + 1) = 2 * k + 1 + 1 by omega, List.range_succ, List.range_succ, List.map_append, List.map_append, List.append_assoc]
          rw [show [2 * k].map (fun i => Value.int .u8 (hexB s i : Int)) ++ [2 * k + 1].map (fun i => Value.int .u8 (hexB s i : Int)) = [.int .u8 (hexD q : Int), .int .u8 (hexD p : Int)] by
            show [Value.int .u8 (hexB s (2 * k) : Int), Value.int .u8 (hexB s (2 * k + 1) : Int)] = _
            rw [HA.out, HB.out]]
          exact hown2, hb3, Nat.le_trans (Nat.le_trans hlo (by simp)) hg2.size⟩
        clear hown hb2 hown2 hg2 hb3 d1 d2 hand hsh
        go_wp2_with fail
        go_roundw
        case rel => exact ⟨k + 1, by omega, by go_num, K⟩
        case measure => simp [intOf]; omega
    · obtain rfl : k = s.size := by omega
      have hcv := hr.text (fun j => hexB_lt s j)
      have hb := hr.b
      have HO : Hid (textN (2 * s.size) (hexB s) = hexT s) := Lib.hid rfl
      generalize textN (2 * s.size) (hexB s) = t at hcv HO
      clear hr
      go_wp2_with fail
      go_ret
      exact ⟨by rw [← HO.out]; rfl, hb⟩
end Go.Proofs.YtbipbkancghkfaaDoor
