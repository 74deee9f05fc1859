/- DeflatePacks: the developers' Pack and the document's answer the same. -/
import Derived.Test.YtldkdgimpckpdaaGreatNV
import Derived.Test.YtldkdgimpckpdaaGreatNL
namespace Go.Proofs.YtldkdgimpckpdaaGreat
open Go.RowKit
theorem packs_both (U : ByteArray) (hU : U.size ≤ 100000) : ∃ P : ByteArray,
  Hid (∀ wx, Calls Tryz.prog 6 #[.string U] wx fun e w' => e = .returned (.string P) ∧ Below wx.heap.size wx w') ∧
  Hid (∀ wx, Calls Tryz.prog 7 #[.string U] wx fun e w' => e = .returned (.string P) ∧ Below wx.heap.size wx w') :=
 ⟨packT U, Lib.hid fun wx => Pack_any U wx hU, Lib.hid fun wx => rPack_any U wx hU⟩
set_option maxRecDepth 100000 in
set_option maxHeartbeats 8000000 in
theorem deflatePacks_any (s : ByteArray) (b3 : Bool) (hs : s.size ≤ 140737488351232) (w : World) :
  Calls Tryz.prog 3 #[.string s, .bool b3] w fun e w' => e = .returned (.bool true) ∧ Below w.heap.size w w' := by
 obtain ⟨M, hM⟩ : ∃ M, M = min s.size 1200 := ⟨_, rfl⟩
 obtain ⟨T, hT⟩ : ∃ T, T = s.extract 0 M := ⟨_, rfl⟩
 have hTz : T.size = M := by rw [hT, ByteArray.size_extract]; omega
 have HM := Lib.hid hM
 have HT := Lib.hid hT
 have hM1 : (M : Int) ≤ (s.size : Int) := by omega
 have hM2 : (0 : Int) ≤ (M : Int) := by omega
 have hM3 : M ≤ s.size := by omega
 have hM4 : M ≤ 1200 := by omega
 have hTe : s.extract 0 M = T := hT.symm
 have hTz2 : T.size ≤ 100000 := by omega
 clear hM hT
 cases b3 with
 | false =>
  obtain ⟨U, hU⟩ : ∃ U, U = T := ⟨_, rfl⟩
  have hUz : U.size ≤ 100000 := by rw [hU]; omega
  subst hU
  go_enter Tryz.func3, Tryz.ntmps3
  go_wp2_with fail
  refine (examples11_any w).mono ?_
  rintro e w1 ⟨rfl, b1⟩
  have HB1 := Lib.hid b1
  clear b1
  go_wp2_with (refine wpList_valK (.int .i64 ((min s.size 1200 : Nat) : Int)) rfl (lands_min (.tmp 12) s.size 1200 rfl rfl rfl) ?_; intro w8 h8; obtain rfl : w1 = w8 := h8.symm; rw [← HM.out])
  obtain ⟨P, HP, HR⟩ := packs_both U hUz
  go_wp2_with fail
  refine (HP.out w1).mono ?_
  rintro e w2 ⟨rfl, b2⟩
  have HB2 := Lib.hid (HB1.out.trans (b2.mono HB1.out.size))
  clear b2
  go_wp2_with fail
  refine (HR.out w2).mono ?_
  rintro e w3 ⟨rfl, b3⟩
  have HB3 := Lib.hid (HB2.out.trans (b3.mono HB2.out.size))
  clear b3
  go_wp2_with fail
  go_ret
  exact ⟨rfl, HB3.out⟩
 | true =>
  by_cases he : T = ⟨#[]⟩
  ·have hUz : (⟨#[]⟩ : ByteArray).size ≤ 100000 := by decide
   rw [he] at hTe
   go_enter Tryz.func3, Tryz.ntmps3
   go_wp2_with fail
   refine (examples11_any w).mono ?_
   rintro e w1 ⟨rfl, b1⟩
   have HB1 := Lib.hid b1
   clear b1
   go_wp2_with (refine wpList_valK (.int .i64 ((min s.size 1200 : Nat) : Int)) rfl (lands_min (.tmp 12) s.size 1200 rfl rfl rfl) ?_; intro w8 h8; obtain rfl : w1 = w8 := h8.symm; rw [← HM.out])
   obtain ⟨P, HP, HR⟩ := packs_both ⟨#[]⟩ hUz
   go_wp2_with fail
   refine (HP.out w1).mono ?_
   rintro e w2 ⟨rfl, b2⟩
   have HB2 := Lib.hid (HB1.out.trans (b2.mono HB1.out.size))
   clear b2
   go_wp2_with fail
   refine (HR.out w2).mono ?_
   rintro e w3 ⟨rfl, b3⟩
   have HB3 := Lib.hid (HB2.out.trans (b3.mono HB2.out.size))
   clear b3
   go_wp2_with fail
   go_ret
   exact ⟨rfl, HB3.out⟩
  ·obtain ⟨M2, hM2e⟩ : ∃ M2, M2 = min T.size 200 := ⟨_, rfl⟩
   obtain ⟨T2, hT2⟩ : ∃ T2, T2 = T.extract 0 M2 := ⟨_, rfl⟩
   have hT2z : T2.size = M2 := by rw [hT2, ByteArray.size_extract]; omega
   have hpos : 0 < T.size := Nat.pos_of_ne_zero fun h => he (ByteArray.size_eq_zero_iff.1 h)
   have HM2 := Lib.hid hM2e
   have HT2 := Lib.hid hT2
   have hp2 : 0 < T2.size ∧ T2.size ≤ 200 := by omega
   have hm1 : (M2 : Int) ≤ (T.size : Int) := by omega
   have hm2 : (0 : Int) ≤ (M2 : Int) := by omega
   have hm3 : M2 ≤ T.size := by omega
   have hT2e : T.extract 0 M2 = T2 := hT2.symm
   have hT2m : M2 ≤ 200 := by omega
   clear hM2e hT2 hT2z hTz
   go_enter Tryz.func3, Tryz.ntmps3
   go_wp2_with fail
   refine (examples11_any w).mono ?_
   rintro e w1 ⟨rfl, b1⟩
   have HB1 := Lib.hid b1
   clear b1
   go_wp2_with (first | (refine wpList_valK (.int .i64 ((min s.size 1200 : Nat) : Int)) rfl (lands_min (.tmp 12) s.size 1200 rfl rfl rfl) ?_; intro w8 h8; obtain rfl : w1 = w8 := h8.symm; rw [← HM.out]) | (refine wpList_valK (.int .i64 ((min T.size 200 : Nat) : Int)) rfl (lands_min (.tmp 22) T.size 200 rfl rfl rfl) ?_; intro w8 h8; obtain rfl : w1 = w8 := h8.symm; rw [← HM2.out]))
   ·obtain ⟨H, hH⟩ : ∃ H, H = T2.size / 2 := ⟨_, rfl⟩
    obtain ⟨R, hR⟩ : ∃ R, R = T2.size % 200 := ⟨_, rfl⟩
    obtain ⟨K, hK⟩ : ∃ K, K = 33000 - R := ⟨_, rfl⟩
    have q1 : (T2.size : Int).tdiv 2 = (H : Int) := by rw [Int.tdiv_eq_ediv_of_nonneg (by omega)]; omega
    have q2 : IntKind.i64.wrap (H : Int) = (H : Int) := IntWalk.i64_in _ (by omega)
    have q3 : (T2.size : Int).tmod 200 = (R : Int) := by rw [Int.tmod_eq_emod_of_nonneg (by omega)]; omega
    have q4 : IntKind.i64.wrap (R : Int) = (R : Int) := IntWalk.i64_in _ (by omega)
    have q5 : IntKind.i64.wrap (33000 - (R : Int)) = (K : Int) := by rw [IntWalk.i64_in _ (by omega)]; omega
    have hH1 : (H : Int) ≤ (T2.size : Int) := by omega
    have hH2 : (0 : Int) ≤ (H : Int) := by omega
    have hH3 : H ≤ T2.size := by omega
    have hK2 : (0 : Int) ≤ (K : Int) := by omega
    have hK3 : K ≤ 33000 := by omega
    clear hH hR hK he
    go_loopw [6] (fun x wy => w1 = wy ∧ ∃ t : ByteArray, x = .string t ∧ t.size ≤ 34000) (fun x _ => match x with | .string t => 33000 - t.size | _ => 0)
    case atStart => exact ⟨rfl, _, rfl, by decide⟩
    case round =>
     obtain ⟨rfl, t, rfl, ht⟩ := hrel
     by_cases hlt : t.size < 33000
     ·have hi : (t.size : Int) < 33000 := by omega
      have hadd0 : ¬ ((t.size + T2.size : Nat) : Int) > 9223372036854775807 := by omega
      have hxz : (T2.extract 0 H).size = H := by rw [ByteArray.size_extract]; omega
      have hadd1 : ¬ (((t ++ T2).size + (T2.extract 0 H).size : Nat) : Int) > 9223372036854775807 := by rw [size_app]; omega
      go_wp2_with fail
      refine ⟨⟨trivial, _, rfl, ?_⟩, ?_⟩
      ·rw [size_app, size_app]; omega
      ·show 33000 - (t ++ T2 ++ T2.extract 0 H).size < 33000 - t.size
       rw [size_app, size_app]; omega
     ·have hi : ¬ (t.size : Int) < 33000 := by omega
      have hK1 : (K : Int) ≤ (t.size : Int) := by omega
      have hK4 : K ≤ t.size := by omega
      obtain ⟨U, hU⟩ : ∃ U, U = t.extract 0 K := ⟨_, rfl⟩
      have hUz : U.size ≤ 100000 := by rw [hU, ByteArray.size_extract]; omega
      have hUe : t.extract 0 K = U := hU.symm
      clear hU
      go_wp2_with fail
      obtain ⟨P, HP, HR⟩ := packs_both U hUz
      refine (HP.out w1).mono ?_
      rintro e w2 ⟨rfl, b2⟩
      have HB2 := Lib.hid (HB1.out.trans (b2.mono HB1.out.size))
      clear b2
      go_wp2_with fail
      refine (HR.out w2).mono ?_
      rintro e w3 ⟨rfl, b3⟩
      have HB3 := Lib.hid (HB2.out.trans (b3.mono HB2.out.size))
      clear b3
      go_wp2_with fail
      go_ret
      exact ⟨rfl, HB3.out⟩
   ·have hUz : T.size ≤ 100000 := hTz2
    obtain ⟨P, HP, HR⟩ := packs_both T hUz
    refine (HP.out w1).mono ?_
    rintro e w2 ⟨rfl, b2⟩
    have HB2 := Lib.hid (HB1.out.trans (b2.mono HB1.out.size))
    clear b2
    go_wp2_with fail
    refine (HR.out w2).mono ?_
    rintro e w3 ⟨rfl, b3⟩
    have HB3 := Lib.hid (HB2.out.trans (b3.mono HB2.out.size))
    clear b3
    go_wp2_with fail
    go_ret
    exact ⟨rfl, HB3.out⟩
end Go.Proofs.YtldkdgimpckpdaaGreat
