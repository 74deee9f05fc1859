/- GzStrange: a member with one of the upper flags, of another kind, or of another beginning, is none. -/
import Derived.Test.YtmhoejmgjbgddaaGreatOE
namespace Go.Proofs.YtmhoejmgjbgddaaGreat
open Go.RowKit
set_option maxRecDepth 100000 in
set_option maxHeartbeats 8000000 in
theorem gzStrange_any (s : ByteArray) (f1 f2 f3 : Nat) (hf1 : f1 < 256) (hf2 : f2 < 256) (hf3 : f3 < 256) (hs : s.size ≤ 140737488351232) (w : World) :
  Calls Tryz.prog 8 #[.string s, .int .u8 (f1 : Int), .int .u8 (f2 : Int), .int .u8 (f3 : Int)] w fun e w' => e = .returned (.bool true) ∧ Below w.heap.size w w' := by
 obtain ⟨M, hM⟩ : ∃ M, M = min s.size 200 := ⟨_, rfl⟩
 obtain ⟨U, hU⟩ : ∃ U, U = s.extract 0 M := ⟨_, rfl⟩
 have hUz : U.size ≤ 200 := by rw [hU, ByteArray.size_extract]; omega
 have HM := Lib.hid hM
 have HU := Lib.hid hU
 have hM1 : (M : Int) ≤ (s.size : Int) := by omega
 have hM2 : (0 : Int) ≤ (M : Int) := by omega
 have hM3 : M ≤ s.size := by omega
 clear hM hU
 obtain ⟨P, hP, hP1, hP18, HP⟩ := gz_both U (by omega)
 obtain ⟨V, hV⟩ : ∃ V, V = f1 ||| 32 := ⟨_, rfl⟩
 have hV8 : V < 256 := by rw [hV]; exact Nat.or_lt_two_pow (n := 8) hf1 (by decide)
 have hV32 : 32 ≤ V := by rw [hV]; exact Nat.right_le_or
 have hor : bits .or .u8 (f1 : Int) 32 = (V : Int) := by rw [hV]; exact u8_or_nat f1 32 hf1 (by decide)
 obtain ⟨X1, hX1⟩ : ∃ X, X = textN P.size fun j => if j = 3 then V else byteS P j := ⟨_, rfl⟩
 obtain ⟨X2, hX2⟩ : ∃ X, X = textN P.size fun j => if j = 2 then f2 else byteS P j := ⟨_, rfl⟩
 obtain ⟨X3, hX3⟩ : ∃ X, X = textN P.size fun j => if j = 0 then f3 else byteS P j := ⟨_, rfl⟩
 have O1 := gz_ans X1 200 (by rw [hX1, textN_size]; omega) ⟨#[]⟩ 2 (by rw [hX1, hP]; exact gz_flags U V hV8 hV32 200 (by decide))
 obtain ⟨T2, x2, h2, k2⟩ : ∃ T2 x2, gzOpen X2 200 = (T2, x2) ∧ (((f2 : Int) = 8 ∧ x2 = 0) ∨ (¬ (f2 : Int) = 8 ∧ x2 = 2)) := by
  have := gz_first U 2 f2 (by decide) hf2 200 hUz (by decide)
  rw [hX2, hP]
  rw [show byteS startT 2 = 8 from rfl] at this
  by_cases h : f2 = 8
  ·rw [if_pos h] at this; exact ⟨_, _, this, .inl ⟨by omega, rfl⟩⟩
  ·rw [if_neg h] at this; exact ⟨_, _, this, .inr ⟨by omega, rfl⟩⟩
 obtain ⟨T3, x3, h3, k3⟩ : ∃ T3 x3, gzOpen X3 200 = (T3, x3) ∧ (((f3 : Int) = 31 ∧ x3 = 0) ∨ (¬ (f3 : Int) = 31 ∧ x3 = 2)) := by
  have := gz_first U 0 f3 (by decide) hf3 200 hUz (by decide)
  rw [hX3, hP]
  rw [show byteS startT 0 = 31 from rfl] at this
  by_cases h : f3 = 31
  ·rw [if_pos h] at this; exact ⟨_, _, this, .inl ⟨by omega, rfl⟩⟩
  ·rw [if_neg h] at this; exact ⟨_, _, this, .inr ⟨by omega, rfl⟩⟩
 have O2 := gz_ans X2 200 (by rw [hX2, textN_size]; omega) T2 x2 h2
 have O3 := gz_ans X3 200 (by rw [hX3, textN_size]; omega) T3 x3 h3
 have HX1 := Lib.hid hX1
 have HX2 := Lib.hid hX2
 have HX3 := Lib.hid hX3
 have HK2 := Lib.hid k2
 have HK3 := Lib.hid k3
 have hl18 : ¬ (P.size : Int) < 18 := by omega
 have hl3 : (3 : Int) < (P.size : Int) := by omega
 have hl2 : (2 : Int) < (P.size : Int) := by omega
 have hl0 : (0 : Int) < (P.size : Int) := by omega
 have HPZ := Lib.hid hP18
 clear hX1 hX2 hX3 hP hV hV32 h2 h3 k2 k3 hP1 hP18
 go_enter Tryz.func8, Tryz.ntmps8
 go_wp2_with fail
 refine (examples12_any w).mono ?_
 rintro e w1 ⟨rfl, b1⟩
 have HB1 := Lib.hid b1
 clear b1
 go_wp2_with (refine wpList_valK (.int .i64 ((min s.size 200 : Nat) : Int)) rfl (lands_min (.tmp 25) s.size 200 rfl rfl rfl) ?_; intro w8 h8; obtain rfl : w1 = w8 := h8.symm; rw [← HM.out])
 rw [← HU.out]
 refine (HP.out w1).mono ?_
 rintro e w2 ⟨rfl, b2⟩
 have HB2 := Lib.hid (HB1.out.trans (b2.mono HB1.out.size))
 clear b2 HB1
 obtain ⟨cap, W1, hcv, hc, hz, hcv2, hbl⟩ := turn_text P 3 V (by have := HPZ.out; omega) hV8 w2
 rw [← HX1.out] at hcv2
 have HB3 := Lib.hid (HB2.out.trans (hbl.mono HB2.out.size))
 clear hbl HB2
 go_wp2_with fail
 clear hcv hc hz hcv2
 generalize W1.setCell ⟨w2.heap.size, 3, none⟩ (.int .u8 (V : Int)) = w3 at *
 refine (O1.out w3).mono ?_
 rintro e w4 ⟨rfl, b4⟩
 have HB4 := Lib.hid (HB3.out.trans (b4.mono HB3.out.size))
 clear b4 HB3
 obtain ⟨cap2, W2, hcv, hc, hz, hcv2, hbl⟩ := turn_text P 2 f2 (by have := HPZ.out; omega) hf2 w4
 rw [← HX2.out] at hcv2
 have HB5 := Lib.hid (HB4.out.trans (hbl.mono HB4.out.size))
 clear hbl HB4
 go_wp2_with fail
 clear hcv hc hz hcv2
 generalize W2.setCell ⟨w4.heap.size, 2, none⟩ (.int .u8 (f2 : Int)) = w5 at *
 refine (O2.out w5).mono ?_
 rintro e w6 ⟨rfl, b6⟩
 have HB6 := Lib.hid (HB5.out.trans (b6.mono HB5.out.size))
 clear b6 HB5
 obtain ⟨cap3, W3, hcv, hc, hz, hcv2, hbl⟩ := turn_text P 0 f3 (by have := HPZ.out; omega) hf3 w6
 rw [← HX3.out] at hcv2
 have HB7 := Lib.hid (HB6.out.trans (hbl.mono HB6.out.size))
 clear hbl HB6
 go_wp2_with fail
 clear hcv hc hz hcv2
 generalize W3.setCell ⟨w6.heap.size, 0, none⟩ (.int .u8 (f3 : Int)) = w7 at *
 refine (O3.out w7).mono ?_
 rintro e w8 ⟨rfl, b8⟩
 have HB8 := Lib.hid (HB7.out.trans (b8.mono HB7.out.size))
 clear b8 HB7
 rcases HK2.out with ⟨q2, rfl⟩ | ⟨q2, rfl⟩
 ·rcases HK3.out with ⟨q3, rfl⟩ | ⟨q3, rfl⟩
  ·go_wp2_with fail
   go_ret
   exact ⟨rfl, HB8.out⟩
  ·have z3 : ((f3 : Int) == 31) = false := beq_eq_false_iff_ne.2 q3
   go_wp2_with fail
   go_ret
   exact ⟨rfl, HB8.out⟩
 ·have z2 : ((f2 : Int) == 8) = false := beq_eq_false_iff_ne.2 q2
  rcases HK3.out with ⟨q3, rfl⟩ | ⟨q3, rfl⟩
  ·go_wp2_with fail
   go_ret
   exact ⟨rfl, HB8.out⟩
  ·have z3 : ((f3 : Int) == 31) = false := beq_eq_false_iff_ne.2 q3
   go_wp2_with fail
   go_ret
   exact ⟨rfl, HB8.out⟩
theorem gzStrange_int (s : ByteArray) (a b c : Int) (a0 : 0 ≤ a) (a1 : a < 256) (b0 : 0 ≤ b) (b1 : b < 256) (c0 : 0 ≤ c) (c1 : c < 256) (hs : s.size ≤ 140737488351232) (w : World) :
  Calls Tryz.prog 8 #[.string s, .int .u8 a, .int .u8 b, .int .u8 c] w fun e w' => e = .returned (.bool true) ∧ Below w.heap.size w w' := by
 obtain ⟨x, rfl⟩ : ∃ n : Nat, a = (n : Int) := ⟨a.toNat, by omega⟩
 obtain ⟨y, rfl⟩ : ∃ n : Nat, b = (n : Int) := ⟨b.toNat, by omega⟩
 obtain ⟨z, rfl⟩ : ∃ n : Nat, c = (n : Int) := ⟨c.toNat, by omega⟩
 exact gzStrange_any s x y z (by omega) (by omega) (by omega) hs w
end Go.Proofs.YtmhoejmgjbgddaaGreat
