/- GzBack: what was packed is opened with just so much room; with less it is too long; with something behind, or a byte of the end cut off, it is none. -/
import Derived.Test.YtmhoejmgjbgddaaGreatOE
namespace Go.Proofs.YtmhoejmgjbgddaaGreat
open Go.RowKit
set_option maxRecDepth 100000 in
set_option maxHeartbeats 8000000 in
theorem gzBack_any (s more : ByteArray) (hs : s.size ≤ 140737488351232) (hm : more.size ≤ 140737488351232) (w : World) :
  Calls Tryz.prog 5 #[.string s, .string more] w fun e w' => e = .returned (.bool true) ∧ Below w.heap.size w w' := by
 obtain ⟨M, hM⟩ : ∃ M, M = min s.size 1000 := ⟨_, rfl⟩
 obtain ⟨U, hU⟩ : ∃ U, U = s.extract 0 M := ⟨_, rfl⟩
 have hUz : U.size ≤ 1000 := by rw [hU, ByteArray.size_extract]; omega
 have HM := Lib.hid hM
 have HU := Lib.hid hU
 have hM1 : (M : Int) ≤ (s.size : Int) := by omega
 have hM2 : (0 : Int) ≤ (M : Int) := by omega
 have hM3 : M ≤ s.size := by omega
 clear hM hU
 obtain ⟨P, hP, hP1, hP18, HP⟩ := gz_both U hUz
 obtain ⟨A, hA⟩ : ∃ A, A = P.size - 1 := ⟨_, rfl⟩
 obtain ⟨B, hB⟩ : ∃ B, B = U.size - 1 := ⟨_, rfl⟩
 obtain ⟨X, hX⟩ : ∃ X, X = P.extract 0 A := ⟨_, rfl⟩
 obtain ⟨Y, hY⟩ : ∃ Y, Y = P ++ more := ⟨_, rfl⟩
 obtain ⟨Z, hZ⟩ : ∃ Z : Int, Z = (U.size : Int) - 1 := ⟨_, rfl⟩
 have hXz : X.size ≤ 2000 := by rw [hX, ByteArray.size_extract]; omega
 have hYz : Y.size ≤ 140737488351232 + 2000 := by rw [hY, size_app]; omega
 have O1 := gz_ans P (U.size : Int) (by omega) U 0 (by rw [hP]; exact gz_self U _ (Nat.le_refl _) (by omega))
 have O3 := gz_ans X (U.size : Int) (by omega) ⟨#[]⟩ 2 (by rw [hX, hA, hP]; exact gz_cut U _ (Nat.le_refl _) (by omega))
 obtain ⟨T2, x2, h2, k2⟩ : ∃ T2 x2, gzOpen Y (U.size : Int) = (T2, x2) ∧ ((more.size = 0 ∧ x2 = 0) ∨ (¬ more.size = 0 ∧ x2 = 2)) := by
  rw [hY, hP, gz_more U more _ (Nat.le_refl _) (by omega)]
  by_cases h : more.size = 0
  ·exact ⟨_, _, if_pos h, .inl ⟨h, rfl⟩⟩
  ·exact ⟨_, _, if_neg h, .inr ⟨h, rfl⟩⟩
 obtain ⟨T4, x4, h4, k4⟩ : ∃ T4 x4, gzOpen P (B : Int) = (T4, x4) ∧ ((U.size = 0 ∧ x4 = 0) ∨ (¬ U.size = 0 ∧ x4 = 9)) := by
  rw [hP]
  by_cases h : U.size = 0
  ·exact ⟨_, _, gz_self U B (by omega) (by omega), .inl ⟨h, rfl⟩⟩
  ·exact ⟨_, _, gz_room U B (by omega) (by omega), .inr ⟨h, rfl⟩⟩
 have O2 := gz_ans Y (U.size : Int) (by omega) T2 x2 h2
 have O4 := gz_ans P (B : Int) (by omega) T4 x4 h4
 have hadd : ¬ ((P.size + more.size : Nat) : Int) > 9223372036854775807 := by omega
 have hw1 : IntKind.i64.wrap ((P.size : Int) - 1) = (A : Int) := by rw [IntWalk.i64_in _ (by omega)]; omega
 have hw2 : IntKind.i64.wrap ((U.size : Int) - 1) = Z := by rw [IntWalk.i64_in _ (by omega), hZ]
 have hmax1 : max (A : Int) 0 = (A : Int) := by omega
 have hmax2 : max Z 0 = (B : Int) := by omega
 have hA1 : (A : Int) ≤ (P.size : Int) := by omega
 have hA0 : (0 : Int) ≤ (A : Int) := by omega
 have HX := Lib.hid hX
 have HY := Lib.hid hY
 clear hX hY hP hA hB hZ h2 h4 hP18 hXz hYz
 have HK2 := Lib.hid k2
 have HK4 := Lib.hid k4
 clear k2 k4
 go_enter Tryz.func5, Tryz.ntmps5
 go_wp2_with fail
 refine (examples12_any w).mono ?_
 rintro e w1 ⟨rfl, b1⟩
 have HB1 := Lib.hid b1
 clear b1
 go_wp2_with (refine wpList_valK (.int .i64 ((min s.size 1000 : Nat) : Int)) rfl (lands_min (.tmp 20) s.size 1000 rfl rfl rfl) ?_; intro w8 h8; obtain rfl : w1 = w8 := h8.symm; rw [← HM.out])
 rw [← HU.out]
 refine (HP.out w1).mono ?_
 rintro e w2 ⟨rfl, b2⟩
 have HB2 := Lib.hid (HB1.out.trans (b2.mono HB1.out.size))
 clear b2 HB1
 go_wp2_with fail
 refine (O1.out w2).mono ?_
 rintro e w3 ⟨rfl, b3⟩
 have HB3 := Lib.hid (HB2.out.trans (b3.mono HB2.out.size))
 clear b3 HB2
 go_wp2_with fail
 rw [← HY.out]
 refine (O2.out w3).mono ?_
 rintro e w4 ⟨rfl, b4⟩
 have HB4 := Lib.hid (HB3.out.trans (b4.mono HB3.out.size))
 clear b4 HB3
 go_wp2_with (refine wpList_valK (.int .i64 (max (A : Int) 0)) rfl (lands_maxI (.tmp 45) (A : Int) 0 rfl rfl rfl) ?_; intro w8 h8; obtain rfl : w4 = w8 := h8.symm; rw [hmax1])
 rw [← HX.out]
 refine (O3.out w4).mono ?_
 rintro e w5 ⟨rfl, b5⟩
 have HB5 := Lib.hid (HB4.out.trans (b5.mono HB4.out.size))
 clear b5 HB4
 go_wp2_with (refine wpList_valK (.int .i64 (max Z 0)) rfl (lands_maxI (.tmp 57) Z 0 rfl rfl rfl) ?_; intro w8 h8; obtain rfl : w5 = w8 := h8.symm; rw [hmax2])
 refine (O4.out w5).mono ?_
 rintro e w6 ⟨rfl, b6⟩
 have HB6 := Lib.hid (HB5.out.trans (b6.mono HB5.out.size))
 clear b6 HB5
 rcases HK2.out with ⟨q2, rfl⟩ | ⟨q2, rfl⟩
 ·have l2 := lit_empty q2
  obtain ⟨l2a, l2b⟩ := l2
  rcases HK4.out with ⟨q4, rfl⟩ | ⟨q4, rfl⟩
  ·obtain ⟨l4a, l4b⟩ := lit_empty q4
   clear q2 q4
   go_wp2_with fail
   go_ret
   exact ⟨rfl, HB6.out⟩
  ·obtain ⟨l4a, l4b⟩ := lit_some q4
   clear q2 q4
   go_wp2_with fail
   go_ret
   exact ⟨rfl, HB6.out⟩
 ·obtain ⟨l2a, l2b⟩ := lit_some q2
  rcases HK4.out with ⟨q4, rfl⟩ | ⟨q4, rfl⟩
  ·obtain ⟨l4a, l4b⟩ := lit_empty q4
   clear q2 q4
   go_wp2_with fail
   go_ret
   exact ⟨rfl, HB6.out⟩
  ·obtain ⟨l4a, l4b⟩ := lit_some q4
   clear q2 q4
   go_wp2_with fail
   go_ret
   exact ⟨rfl, HB6.out⟩
end Go.Proofs.YtmhoejmgjbgddaaGreat
