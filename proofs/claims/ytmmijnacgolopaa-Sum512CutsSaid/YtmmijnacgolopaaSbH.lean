/- hex, and the examples. -/
import Derived.Test.YtmmijnacgolopaaSbN
namespace Go.Proofs.Ytmmijnacgolopaa
open Go.RowKit
def digits : ByteArray := ⟨#[48, 49, 50, 51, 52, 53, 54, 55, 56, 57, 97, 98, 99, 100, 101, 102]⟩
def dig (n : Nat) : BitVec 8 := BitVec.ofNat 8 ((digits[n]?.getD 0).toNat)
def hexL : List UInt8 → List (BitVec 8)
  | [] => []
  | c :: l => dig (c.toNat / 16) :: dig (c.toNat % 16) :: hexL l
theorem hexL_append (a b : List UInt8) : hexL (a ++ b) = hexL a ++ hexL b := by
  induction a with
  | nil => rfl
  | cons c l ih => simp [hexL, ih]
theorem hexL_length (a : List UInt8) : (hexL a).length = 2 * a.length := by
  induction a with
  | nil => rfl
  | cons c l ih => simp [hexL, ih]; omega
theorem digit_at : ∀ n, n < 16 → digits[n]? = some (UInt8.ofBitVec (dig n)) := by decide +kernel
theorem run_digit {P : Program} (w : World) (t : TypeId) (h : P.underlying t = some .string) (n : Nat) (hn : n < 16) (k : IntKind) :
    (Instr.index t (.string ⟨#[48, 49, 50, 51, 52, 53, 54, 55, 56, 57, 97, 98, 99, 100, 101, 102]⟩) (.int k (n : Int))).run P w = .ok (.int .u8 (iw (dig n))) w := by
  have e := digit_at n hn
  unfold digits at e
  have e2 : ((UInt8.ofBitVec (dig n)).toNat : Int) = iw (dig n) := by unfold iw; rfl
  simp [Instr.index, run_underlying h, asIntOf, Sem.run_bind, e, ← e2]
theorem take_snocS (s : ByteArray) (k : Nat) (h : k < s.size) : s.data.toList.take (k + 1) = s.data.toList.take k ++ [s[k]] := by
  rw [List.take_add_one, List.getElem?_eq_getElem (by simpa using h)]; rfl
theorem size_takeS (s : ByteArray) (k : Nat) (h : k ≤ s.size) : (s.data.toList.take k).length = k := by
  rw [List.length_take, Array.length_toList]; exact Nat.min_eq_left h
structure HX (w : World) (l : List UInt8) (v : Value) (wr : World) : Prop where
  own : wr.ownsRow w.heap.size 5 1 v (2 * l.length) ((hexL l).map b8v)
  b : Below w.heap.size w wr
theorem HX.drew {w wr : World} {l : List UInt8} {v : Value} (h : HX w l v wr) : HX w l v wr.drew := ⟨h.own.drew, h.b.drew⟩
set_option maxRecDepth 100000 in
set_option maxHeartbeats 2000000 in
theorem hex_any (s : ByteArray) (w : World) (hs : s.size < 4611686018427) :
    Calls Try.prog 15 #[.string s] w fun e w' => e = .returned (.string ⟨(asBytes (hexL s.data.toList)).toArray⟩) ∧ Below w.heap.size w w' := by
  obtain ⟨i0, hi, hz0, hz1, hz2⟩ := info_parts u8_info
  go_enter Try.func15, Try.ntmps15
  go_wp2_with fail
  go_loopw [3, 4] (fun v i wr => ∃ k : Nat, k ≤ s.size ∧ i = .int .i64 k ∧ HX w (s.data.toList.take k) v wr) (fun _ i _ => s.size - (intOf i).toNat)
  case atStart => exact ⟨0, by omega, rfl, ⟨rfl, .inl ⟨rfl, rfl⟩⟩, Below.refl _ _⟩
  case round =>
    obtain ⟨k, hk, rfl, hr⟩ := hrel
    by_cases hlt : k < s.size
    · have h8 : s[k].toNat < 256 := s[k].toNat_lt
      have hsn : hexL (s.data.toList.take (k + 1)) = hexL (s.data.toList.take k) ++ [dig (s[k].toNat / 16), dig (s[k].toNat % 16)] := by
        rw [take_snocS s k hlt, hexL_append]; rfl
      have HSN := Lib.hid hsn
      clear hsn
      have hand : bits .and .u8 (s[k].toNat : Int) 15 = ((s[k].toNat % 16 : Nat) : Int) := by
        rw [show (15 : Int) = ((15 : Nat) : Int) from rfl, u8_and_nat _ _ (by omega) (by omega), nat_mask4]
      have hsh : (s[k].toNat : Int) / 16 = ((s[k].toNat / 16 : Nat) : Int) := by omega
      have hq : s[k].toNat / 16 < 16 := by omega
      have hp : s[k].toNat % 16 < 16 := by omega
      generalize s[k].toNat / 16 = q at hsh hq HSN
      generalize s[k].toNat % 16 = p at hand hp HSN
      have d1 := fun w => run_digit (P := Try.prog) w 9 Try.underlying9 q hq .u8
      have d2 := fun w => run_digit (P := Try.prog) w 9 Try.underlying9 p hp .u8
      go_wp2_with fail
      have hr2 := hr.drew
      have hown : wr.drew.ownsRow w.heap.size 5 1 u3 (2 * k) ((hexL (s.data.toList.take k)).map b8v) := by
        have := hr2.own; rwa [size_takeS s k hk] at this
      have hb2 := hr2.b
      have HL := Lib.hid (size_takeS s (k + 1) (by omega))
      clear hr hr2
      go_region_law (
        (refine step_append_own _ rfl (.tmp 11) (.tmp 22) 33 rfl w.heap.size 5 i0 (.int .u8 0) 1 1 Try.underlying33 hi hz0 hz1 hz2 rfl (by decide) u3 (2 * k) _ rfl (hown.alloc _) ⟨wr.heap.size, 0, none⟩ 2 2 [.int .u8 (iw (dig q)), .int .u8 (iw (dig p))] rfl rfl ?c1 ?c2 ?c3 ?c4 ?c5 ?_
         case c1 =>
           intro j u hu
           rw [addr_add, Nat.zero_add]
           exact (cell_of_row _ _ j _ _ (0, 0) (heap_alloc_new wr.drew _)).trans (by rw [← hu]; simp)
         case c2 =>
           intro u hu
           simp at hu
           rcases hu with rfl | rfl <;> rfl
         case c3 => unfold maxLen; omega
         case c4 => omega
         case c5 => have := hb2.size; simp; exact Nat.le_succ_of_le this
         intro v' w2 hown2 hg2 _))
      all_goals
        have hb3 : Below w.heap.size w w2 := (hb2.alloc hb2.size _).grown hg2 (by have := hb2.size; simp; exact Nat.le_succ_of_le this) (own_le hown)
        have K : HX w (s.data.toList.take (k + 1)) v' w2 := ⟨by
          rw [HL.out, HSN.out, List.map_append, show 2 * (k + 1) = 2 * k + 2 by omega]
          exact hown2, hb3⟩
        clear hown hb2 hown2 hg2 hb3 d1 d2 hand hsh
        go_wp2_with fail
        go_roundw
        case rel => exact ⟨k + 1, by omega, by go_num, K⟩
        case measure => simp [intOf]; omega
    · obtain rfl : k = s.size := by omega
      have hcv : (convert 33 9 u3).run Try.prog wr = .ok (.string ⟨(asBytes (hexL s.data.toList)).toArray⟩) wr := by
        have := hr.own
        rw [List.take_of_length_le (by simp)] at this
        exact run_string_of_own wr _ _ 5 _ Try.underlying33 Try.underlying5 Try.underlying9 _ _ _ this
      have hb9 := hr.b
      clear hr hlt hk
      generalize hO : asBytes (hexL s.data.toList) = OUT at hcv
      have HO := Lib.hid hO
      clear hO
      go_wp2_with fail
      go_ret
      exact ⟨by rw [HO.out]; rfl, hb9⟩
theorem out_size (H : Hs) : (⟨H.out.toArray⟩ : ByteArray).size = 64 := by
  show H.out.toArray.size = 64
  simp [Hs.out, asBytes, outB_length]
def abcHex : List UInt8 := [100, 100, 97, 102, 51, 53, 97, 49, 57, 51, 54, 49, 55, 97, 98, 97, 99, 99, 52, 49, 55, 51, 52, 57, 97, 101, 50, 48, 52, 49, 51, 49, 49, 50, 101, 54, 102, 97, 52, 101, 56, 57, 97, 57, 55, 101, 97, 50, 48, 97, 57, 101, 101, 101, 101, 54, 52, 98, 53, 53, 100, 51, 57, 97, 50, 49, 57, 50, 57, 57, 50, 97, 50, 55, 52, 102, 99, 49, 97, 56, 51, 54, 98, 97, 51, 99, 50, 51, 97, 51, 102, 101, 101, 98, 98, 100, 52, 53, 52, 100, 52, 52, 50, 51, 54, 52, 51, 99, 101, 56, 48, 101, 50, 97, 57, 97, 99, 57, 52, 102, 97, 53, 52, 99, 97, 52, 57, 102]
theorem abc_sum : asBytes (hexL (H0.write [97, 98, 99]).out) = abcHex := by decide +kernel
set_option maxRecDepth 100000 in
set_option maxHeartbeats 1000000 in
theorem examples_any (w : World) :
    Calls Try.prog 8 #[] w fun e w' => e = .returned (.bool true) ∧ Below w.heap.size w w' := by
  have habc := Lib.hid abc_sum
  go_enter Try.func8, Try.ntmps8
  go_wp2_with (go_at_call 11; refine (new_any _).mono ?_; rintro e w1 ⟨rfl, h1, b1⟩)
  refine (write_any _ H0 ⟨#[97]⟩ w1 h1.lt h1 (by decide)).mono ?_
  rintro e w2 ⟨rfl, h2, c2⟩
  go_wp2_with fail
  refine (write_any _ _ ⟨#[98, 99]⟩ w2 h2.lt h2 (by decide)).mono ?_
  rintro e w3 ⟨rfl, h3', c3⟩
  have h3 : HB w3 w.heap.size (H0.write [97, 98, 99]) := h3'
  have b3 : Below w.heap.size w w3 := c3.below (c2.below b1 (by omega) b1.size) (by omega) (Nat.le_trans b1.size c2.size)
  clear h3' h2 h1 c2 c3 b1
  go_wp2_with fail
  refine (one_any ⟨#[97, 98, 99]⟩ w3 (by decide)).mono ?_
  rintro e w4 ⟨rfl, b4⟩
  have h4 := h3.below b4 h3.lt
  have b4' := b3.trans (b4.mono b3.size)
  clear h3 b3 b4
  go_wp2_with fail
  refine (hex_any _ w4 (by rw [out_size]; decide)).mono ?_
  rintro e w5 ⟨rfl, b5⟩
  have h5 := h4.below b5 h4.lt
  have b5' := b4'.trans (b5.mono b4'.size)
  clear h4 b4' b5
  rw [show asBytes (hexL (⟨(H0.write [97, 98, 99]).out.toArray⟩ : ByteArray).data.toList) = _ from habc.out]
  go_wp2_with fail
  refine (sum_any _ _ w5 h5 (by decide)).mono ?_
  rintro e w6 ⟨rfl, b6⟩
  have h6 := h5.below b6 h5.lt
  have b6' := b5'.trans (b6.mono b5'.size)
  clear h5 b5' b6
  go_wp2_with fail
  refine (one_any ⟨#[97, 98, 99]⟩ w6 (by decide)).mono ?_
  rintro e w7 ⟨rfl, b7⟩
  have h7 := h6.below b7 h6.lt
  have b7' := b6'.trans (b7.mono b6'.size)
  clear h6 b6' b7
  go_wp2_with fail
  refine (len_any _ _ w7 h7).mono ?_
  rintro e w8 ⟨rfl, rfl⟩
  rw [show (H0.write [97, 98, 99]).size = 3 from by rw [Hs.size_write]; rfl]
  go_wp2_with fail
  go_ret
  exact ⟨rfl, b7'⟩
end Go.Proofs.Ytmmijnacgolopaa
