/- DeflateBack: what is packed is opened as it was, and takes just its bytes; it has not much more bytes than the text. -/
import Derived.Test.YtjdfdiejlmeeoaaGreatNP
import Derived.Test.YtjdfdiejlmeeoaaGreatNL
import Derived.Test.YtjdfdiejlmeeoaaGreatMW
namespace Go.Proofs.YtjdfdiejlmeeoaaGreat
open Go.RowKit
theorem frs_text (s : ByteArray) : txtL (frsB (byteS s) s.size) = s := by
  unfold txtL
  rw [frsB_len]
  exact textN_is rfl fun j hj => frsB_get _ hj
/-- From the text that is packed on. -/
theorem back_both (U more : ByteArray) (hU : U.size ≤ 6000) (hm : more.size ≤ 140737488351232) : ∃ P : ByteArray, P.size ≤ U.size + 5 ∧
    Hid (∀ wx, Calls Tryz.prog 6 #[.string U] wx fun e w' => e = .returned (.string P) ∧ Below wx.heap.size wx w') ∧
    Hid (∀ wx, Calls Tryz.prog 8 #[.string (P ++ more), .int .i64 (U.size : Int)] wx fun e w' => e = .returned (.tuple #[.string U, .int .i64 (P.size : Int), .int .i64 0]) ∧ Below wx.heap.size wx w') := by
  have hz := pack_size U (by omega)
  refine ⟨packT U, hz, Lib.hid fun wx => Pack_any U wx (by omega), Lib.hid fun wx => ?_⟩
  have C := dopen_any (packT U ++ more) (U.size : Int) wx trivial (by rw [size_app]; omega)
  rw [open_pack U more (by omega)] at C
  dsimp only at C
  rw [frs_text] at C
  exact C
set_option maxRecDepth 100000 in
set_option maxHeartbeats 8000000 in
theorem deflateBack_any (s more : ByteArray) (b3 : Bool) (hs : s.size ≤ 140737488351232) (hm : more.size ≤ 140737488351232) (w : World) :
    Calls Tryz.prog 4 #[.string s, .string more, .bool b3] w fun e w' => e = .returned (.bool true) ∧ Below w.heap.size w w' := by
  obtain ⟨M, hM⟩ : ∃ M, M = min s.size 2000 := ⟨_, rfl⟩
  obtain ⟨T, hT⟩ : ∃ T, T = s.extract 0 M := ⟨_, rfl⟩
  have hTz : T.size ≤ 2000 := by rw [hT, ByteArray.size_extract]; omega
  have HM := Lib.hid hM
  have HT := Lib.hid hT
  have hM1 : (M : Int) ≤ (s.size : Int) := by omega
  have hM2 : (0 : Int) ≤ (M : Int) := by omega
  have hM3 : M ≤ s.size := by omega
  clear hM hT
  cases b3 with
  | false =>
    obtain ⟨U, hU⟩ : ∃ U, U = T := ⟨_, rfl⟩
    have HU := Lib.hid hU
    have hUz : U.size ≤ 6000 := by rw [hU]; omega
    obtain ⟨P, hP, HP, HO⟩ := back_both U more hUz hm
    clear hU
    have hadd2 : ¬ ((P.size + more.size : Nat) : Int) > 9223372036854775807 := by omega
    have hwz : IntKind.i64.wrap ((U.size : Int) + 6) = (U.size : Int) + 6 := IntWalk.i64_in _ (by omega)
    have hle : (P.size : Int) ≤ (U.size : Int) + 6 := by omega
    go_enter Tryz.func4, Tryz.ntmps4
    go_wp2_with fail
    refine (examples11_any w).mono ?_
    rintro e w1 ⟨rfl, b1⟩
    have HB1 := Lib.hid b1
    clear b1
    go_wp2_with (refine wpList_valK (.int .i64 ((min s.size 2000 : Nat) : Int)) rfl (lands_min (.tmp 17) s.size 2000 rfl rfl rfl) ?_; intro w8 h8; obtain rfl : w1 = w8 := h8.symm; rw [← HM.out])
    rw [← HT.out, ← HU.out]
    refine (HP.out w1).mono ?_
    rintro e w2 ⟨rfl, b2⟩
    have HB2 := Lib.hid (HB1.out.trans (b2.mono HB1.out.size))
    clear b2
    go_wp2_with fail
    refine (HO.out w2).mono ?_
    rintro e w3 ⟨rfl, b3⟩
    have HB3 := Lib.hid (HB2.out.trans (b3.mono HB2.out.size))
    clear b3
    go_wp2_with fail
    go_ret
    exact ⟨rfl, HB3.out⟩
  | true =>
    obtain ⟨U, hU⟩ : ∃ U, U = T ++ T ++ T := ⟨_, rfl⟩
    have HU := Lib.hid hU
    have hUz : U.size ≤ 6000 := by rw [hU, size_app, size_app]; omega
    have hadd0 : ¬ ((T.size + T.size : Nat) : Int) > 9223372036854775807 := by omega
    have hadd1 : ¬ (((T ++ T).size + T.size : Nat) : Int) > 9223372036854775807 := by rw [size_app]; omega
    obtain ⟨P, hP, HP, HO⟩ := back_both U more hUz hm
    clear hU
    have hadd2 : ¬ ((P.size + more.size : Nat) : Int) > 9223372036854775807 := by omega
    have hwz : IntKind.i64.wrap ((U.size : Int) + 6) = (U.size : Int) + 6 := IntWalk.i64_in _ (by omega)
    have hle : (P.size : Int) ≤ (U.size : Int) + 6 := by omega
    go_enter Tryz.func4, Tryz.ntmps4
    go_wp2_with fail
    refine (examples11_any w).mono ?_
    rintro e w1 ⟨rfl, b1⟩
    have HB1 := Lib.hid b1
    clear b1
    go_wp2_with (refine wpList_valK (.int .i64 ((min s.size 2000 : Nat) : Int)) rfl (lands_min (.tmp 17) s.size 2000 rfl rfl rfl) ?_; intro w8 h8; obtain rfl : w1 = w8 := h8.symm; rw [← HM.out])
    rw [← HT.out]
    go_wp2_with fail
    rw [← HU.out]
    refine (HP.out w1).mono ?_
    rintro e w2 ⟨rfl, b2⟩
    have HB2 := Lib.hid (HB1.out.trans (b2.mono HB1.out.size))
    clear b2
    go_wp2_with fail
    refine (HO.out w2).mono ?_
    rintro e w3 ⟨rfl, b3⟩
    have HB3 := Lib.hid (HB2.out.trans (b3.mono HB2.out.size))
    clear b3
    go_wp2_with fail
    go_ret
    exact ⟨rfl, HB3.out⟩
end Go.Proofs.YtjdfdiejlmeeoaaGreat
