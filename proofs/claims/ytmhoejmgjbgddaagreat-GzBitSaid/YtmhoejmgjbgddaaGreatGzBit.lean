/- GzBit: with a bit of the sum, or of the length, turned, what was packed is none. -/
import Derived.Test.YtmhoejmgjbgddaaGreatOE
namespace Go.Proofs.YtmhoejmgjbgddaaGreat
open Go.RowKit
def oneB (P : ByteArray) (p v j : Nat) : Nat := if j = p then v else byteS P j
theorem oneB_lt {P : ByteArray} {p v : Nat} (hv : v < 256) (j : Nat) : oneB P p v j < 256 := by unfold oneB; split; exact hv; exact byteS_lt _ _
theorem oneB_self (P : ByteArray) (p : Nat) : byteS P = oneB P p (byteS P p) := funext fun j => by
 unfold oneB
 split
 ·next h => rw [h]
 ·rfl
theorem oneB_put (P : ByteArray) (p v u : Nat) : (fun j => if j = p then u else oneB P p v j) = oneB P p u := funext fun j => by
 unfold oneB
 split <;> rfl
def BitW (w : World) (P : ByteArray) (p g Y V : Nat) (b : Bool) (wx : World) : Prop := ClY P.size (oneB P p (if b = true then V else Y)) g wx ∧ Below w.heap.size w wx
set_option maxRecDepth 100000 in
set_option maxHeartbeats 8000000 in
theorem gzBit_any (s : ByteArray) (b : Nat) (hb : b < 256) (hs : s.size ≤ 140737488351232) (w : World) :
  Calls Tryz.prog 6 #[.string s, .int .u8 (b : Int)] w fun e w' => e = .returned (.bool true) ∧ Below w.heap.size w w' := by
 obtain ⟨M, hM⟩ : ∃ M, M = min s.size 1000 := ⟨_, rfl⟩
 obtain ⟨U, hU⟩ : ∃ U, U = s.extract 0 M := ⟨_, rfl⟩
 have hUz : U.size ≤ 1000 := by rw [hU, ByteArray.size_extract]; omega
 have HM := Lib.hid hM
 have HU := Lib.hid hU
 have hM1 : (M : Int) ≤ (s.size : Int) := by omega
 have hM2 : (0 : Int) ≤ (M : Int) := by omega
 have hM3 : M ≤ s.size := by omega
 clear hM hU
 obtain ⟨P, hP, hP1, hP18, HP⟩ := gz_both U (by omega)
 obtain ⟨k, hk⟩ : ∃ k, k = b % 64 := ⟨_, rfl⟩
 have hk1 : (b : Int).tmod 64 = (k : Int) := by rw [Int.tmod_eq_emod_of_nonneg (by omega)]; omega
 have hk2 : (b : Int) % 64 = (k : Int) := by omega
 have hk64 : k < 64 := by omega
 have hkw : IntKind.u8.wrap (k : Int) = (k : Int) := by rw [IntKind.wrap_u8']; omega
 have hkw2 : IntKind.i64.wrap (k : Int) = (k : Int) := IntWalk.i64_in _ (by omega)
 obtain ⟨Q, hQ⟩ : ∃ Q, Q = k / 8 := ⟨_, rfl⟩
 obtain ⟨r, hr⟩ : ∃ r, r = k % 8 := ⟨_, rfl⟩
 have hQ1 : (k : Int).tdiv 8 = (Q : Int) := by rw [Int.tdiv_eq_ediv_of_nonneg (by omega)]; omega
 have hQ2 : (k : Int) / 8 = (Q : Int) := by omega
 have hQw : IntKind.i64.wrap (Q : Int) = (Q : Int) := IntWalk.i64_in _ (by omega)
 have hr1 : (k : Int).tmod 8 = (r : Int) := by rw [Int.tmod_eq_emod_of_nonneg (by omega)]; omega
 have hr2 : (k : Int) % 8 = (r : Int) := by omega
 have hrw : IntKind.i64.wrap (r : Int) = (r : Int) := IntWalk.i64_in _ (by omega)
 have hr8 : r < 8 := by omega
 have hr0 : ¬ (r : Int) < 0 := by omega
 obtain ⟨A, hA⟩ : ∃ A, A = P.size - 8 := ⟨_, rfl⟩
 have hAw : IntKind.i64.wrap ((P.size : Int) - 8) = (A : Int) := by rw [IntWalk.i64_in _ (by omega)]; omega
 obtain ⟨p, hp⟩ : ∃ p, p = A + Q := ⟨_, rfl⟩
 have hpw : IntKind.i64.wrap ((A : Int) + (Q : Int)) = (p : Int) := by rw [IntWalk.i64_in _ (by omega)]; omega
 have hpN : p < P.size := by omega
 have hpNi : (p : Int) < (P.size : Int) := by omega
 obtain ⟨Y, hY⟩ : ∃ Y, Y = byteS P p := ⟨_, rfl⟩
 have hY8 : Y < 256 := by rw [hY]; exact byteS_lt _ _
 obtain ⟨Z, hZ⟩ : ∃ Z, Z = 2 ^ r := ⟨_, rfl⟩
 have hZ8 : Z < 256 := by rw [hZ]; exact Nat.pow_lt_pow_right (a := 2) (m := r) (n := 8) (by decide) hr8
 have hZ0 : Z ≠ 0 := by rw [hZ]; exact Nat.ne_of_gt (Nat.two_pow_pos r)
 have hsh : IntKind.u8.wrap (2 ^ r) = (Z : Int) := by
  rw [show (2 : Int) ^ r = (Z : Int) by rw [hZ]; exact (Int.natCast_pow 2 r).symm, IntKind.wrap_u8']; omega
 obtain ⟨V, hV⟩ : ∃ V, V = Y ^^^ Z := ⟨_, rfl⟩
 have hV8 : V < 256 := by rw [hV]; exact Nat.xor_lt_two_pow (n := 8) hY8 hZ8
 have hx : bits .xor .u8 (Y : Int) (Z : Int) = (V : Int) := by rw [hV]; exact u8_xor_nat _ _ hY8 hZ8
 have hVY : V ≠ Y := by
  rw [hV]
  intro e
  have e2 := congrArg (fun t => Y ^^^ t) e
  have e2 : Y ^^^ (Y ^^^ Z) = Y ^^^ Y := e2
  rw [← Nat.xor_assoc, Nat.xor_self, Nat.zero_xor] at e2
  exact hZ0 e2
 obtain ⟨X, hX⟩ : ∃ X, X = textN P.size fun j => if j = p then V else byteS P j := ⟨_, rfl⟩
 have hYs : byteS (sealT U) Q = Y := by
  have h10 : plainT.size = 10 := rfl
  have hg := gzT_size U
  rw [hY, hP, gzT_eq, byteS_app, if_neg (by rw [hP] at hA; omega), byteS_app, if_neg (by rw [hP] at hA; omega)]
  congr 1
  rw [hP] at hA; omega
 have O1 := gz_ans X 1000 (by rw [hX, textN_size]; omega) ⟨#[]⟩ 8 (by
  rw [hX, hP]
  exact gz_turned U Q V (by omega) hV8 (by rw [hYs]; exact hVY) p (by rw [← hP]; omega) 1000 hUz (by decide))
 have HX := Lib.hid hX
 have hl18 : ¬ (P.size : Int) < 18 := by omega
 have HF := Lib.hid (⟨hpN, hV8, hY⟩ : p < P.size ∧ V < 256 ∧ Y = byteS P p)
 clear hX hP hV hZ hZ8 hZ0 hVY hYs hY hY8 hA hp hQ hr hk hP18
 go_enter Tryz.func6, Tryz.ntmps6
 go_wp2_with fail
 refine (examples12_any w).mono ?_
 rintro e w1 ⟨rfl, b1⟩
 have HB1 := Lib.hid b1
 clear b1
 go_wp2_with (refine wpList_valK (.int .i64 ((min s.size 1000 : Nat) : Int)) rfl (lands_min (.tmp 15) s.size 1000 rfl rfl rfl) ?_; intro w8 h8; obtain rfl : w1 = w8 := h8.symm; rw [← HM.out])
 rw [← HU.out]
 refine (HP.out w1).mono ?_
 rintro e w2 ⟨rfl, b2⟩
 have HB2 := Lib.hid (HB1.out.trans (b2.mono HB1.out.size))
 clear b2 HB1
 obtain ⟨cap, W1, hcv, hcl, hbl⟩ := bytesN_start P w2 rfl
 have HG : Hid (w.heap.size ≤ w2.heap.size) := Lib.hid HB2.out.size
 have HW0 : Hid (BitW w P p w2.heap.size Y V false W1.drew) := Lib.hid ⟨by rw [HF.out.2.2]; exact (hcl.cast (oneB_self P p)).drew, (HB2.out.trans (hbl.mono HB2.out.size)).drew⟩
 generalize hg : w2.heap.size = g at *
 have HT0 : Hid (∀ wx, BitW w P p g Y V false wx → wx.cell? ⟨g, p, none⟩ = some (.int .u8 (Y : Int)) ∧ wx.frozen? ⟨g, p, none⟩ = false ∧ BitW w P p g Y V true (wx.setCell ⟨g, p, none⟩ (.int .u8 (V : Int)))) := Lib.hid fun wx h => by
  obtain ⟨h1, h2⟩ := h
  refine ⟨?_, h1.fz p HF.out.1, (h1.put p V).cast (oneB_put P p Y V), h2.setCell HG.out _⟩
  rw [h1.c p HF.out.1]
  show some (Value.int .u8 (oneB P p Y p : Int)) = _
  unfold oneB; rw [if_pos rfl]
 clear hbl hcl HB2
 go_wp2_with fail
 refine wp_region_anyL (Two 21 1000 fun f1 _ wx => BitW w P p g Y V f1 wx) (by kernel_rfl) HW0.out ?_
 refine anyL_take (i := 0) (v := ?_) rfl (yl_other rfl (fun f1 f2 wx hT => ?_)) ?_; rotate_left
 ·refine lands_value (w := wx) ?_ hT; go_simp <;> rfl
 simp only [pu]
 refine anyL_take (i := 1) (v := ?_) rfl (yl_other rfl (fun f1 f2 wx hT => ?_)) ?_; rotate_left
 ·refine lands_value (w := wx) ?_ hT; go_simp <;> rfl
 simp only [pu]
 refine anyL_take (i := 2) (v := ?_) rfl (yl_other rfl (fun f1 f2 wx hT => ?_)) ?_; rotate_left
 ·refine lands_value (w := wx) ?_ hT; go_simp <;> rfl
 simp only [pu]
 refine anyL_take (i := 3) (v := .int .i64 (A : Int)) rfl (yl_other rfl (fun f1 f2 wx hT => ?_)) ?_
 ·refine lands_value (w := wx) ?_ hT; go_simp; skip
 simp only [pu]
 refine anyL_take (i := 4) (v := ?_) rfl (yl_other rfl (fun f1 f2 wx hT => ?_)) ?_; rotate_left
 ·refine lands_value (w := wx) ?_ hT; go_simp <;> rfl
 simp only [pu]
 refine anyL_take (i := 5) (v := .int .i64 (Q : Int)) rfl (yl_other rfl (fun f1 f2 wx hT => ?_)) ?_
 ·refine lands_value (w := wx) ?_ hT; go_simp; skip
 simp only [pu]
 refine anyL_take (i := 6) (v := .int .i64 (p : Int)) rfl (yl_other rfl (fun f1 f2 wx hT => ?_)) ?_
 ·refine lands_value (w := wx) ?_ hT; go_simp; skip
 simp only [pu]
 refine anyL_take (i := 7) (v := ?_) rfl (yl_other rfl (fun f1 f2 wx hT => ?_)) ?_; rotate_left
 ·refine lands_value (w := wx) ?_ hT; go_simp <;> rfl
 simp only [pu]
 refine anyL_take (i := 8) (v := ?_) rfl (yl_other rfl (fun f1 f2 wx hT => ?_)) ?_; rotate_left
 ·refine lands_value (w := wx) ?_ hT; go_simp <;> rfl
 simp only [pu]
 refine anyL_take (i := 9) (v := ?_) rfl (yl_other rfl (fun f1 f2 wx hT => ?_)) ?_; rotate_left
 ·refine lands_value (w := wx) ?_ hT; go_simp <;> rfl
 simp only [pu]
 refine anyL_take (i := 10) (v := .int .i64 (A : Int)) rfl (yl_other rfl (fun f1 f2 wx hT => ?_)) ?_
 ·refine lands_value (w := wx) ?_ hT; go_simp; skip
 simp only [pu]
 refine anyL_take (i := 11) (v := ?_) rfl (yl_other rfl (fun f1 f2 wx hT => ?_)) ?_; rotate_left
 ·refine lands_value (w := wx) ?_ hT; go_simp <;> rfl
 simp only [pu]
 refine anyL_take (i := 12) (v := .int .i64 (Q : Int)) rfl (yl_other rfl (fun f1 f2 wx hT => ?_)) ?_
 ·refine lands_value (w := wx) ?_ hT; go_simp; skip
 simp only [pu]
 refine anyL_take (i := 13) (v := .int .i64 (p : Int)) rfl (yl_other rfl (fun f1 f2 wx hT => ?_)) ?_
 ·refine lands_value (w := wx) ?_ hT; go_simp; skip
 simp only [pu]
 refine anyL_take (i := 14) (v := .pointer (some ⟨g, p, none⟩)) rfl (yl_other rfl (fun f1 f2 wx hT => ?_)) ?_
 ·refine lands_value (w := wx) ?_ hT; go_simp; skip
 simp only [pu]
 refine anyL_take (i := 15) (v := .int .u8 (Y : Int)) rfl (yl_ahead (n := 9) rfl (fun f2 wx hT => ?_)) ?_
 ·have c0 : wx.cell? ⟨g, p, none⟩ = some (.int .u8 (Y : Int)) := (HT0.out wx hT).1; refine lands_value (w := wx) ?_ hT; go_simp; skip
 simp only [pu]
 refine anyL_take (i := 16) (v := ?_) rfl (yl_other rfl (fun f1 f2 wx hT => ?_)) ?_; rotate_left
 ·refine lands_value (w := wx) ?_ hT; go_simp <;> rfl
 simp only [pu]
 refine anyL_take (i := 17) (v := .int .i64 (r : Int)) rfl (yl_other rfl (fun f1 f2 wx hT => ?_)) ?_
 ·refine lands_value (w := wx) ?_ hT; go_simp; skip
 simp only [pu]
 refine anyL_take (i := 18) (v := .int .u8 (Z : Int)) rfl (yl_other rfl (fun f1 f2 wx hT => ?_)) ?_
 ·refine lands_value (w := wx) ?_ hT; go_simp; skip
 simp only [pu]
 refine anyL_take (i := 19) (v := .int .u8 (V : Int)) rfl (yl_other rfl (fun f1 f2 wx hT => ?_)) ?_
 ·refine lands_value (w := wx) ?_ hT; go_simp; skip
 simp only [pu]
 refine anyL_take (i := 20) (v := .pointer (some ⟨g, p, none⟩)) rfl (yl_other rfl (fun f1 f2 wx hT => ?_)) ?_
 ·refine lands_value (w := wx) ?_ hT; go_simp; skip
 simp only [pu]
 refine anyL_take (i := 21) (v := undef) rfl (yl_first (by decide) rfl (fun f2 wx hT => ?_)) ?_
 ·have c0 := (HT0.out wx hT).1; have f0 := (HT0.out wx hT).2.1; have K := (HT0.out wx hT).2.2; go_simp; exact ⟨rfl, K⟩
 simp only [Act.put]
 refine anyL_done (by kernel_rfl) (fun w3 (K : BitW w P p g Y V true w3) => ?_) _
 have hcv2 := bytesN_end K.1 (fun j => oneB_lt HF.out.2.1 j) cap
 rw [if_pos rfl, show textN P.size (oneB P p V) = X from HX.out.symm] at hcv2
 have HB3 := Lib.hid K.2
 clear K HT0 HW0 hcv
 go_wp2_with fail
 refine (O1.out w3).mono ?_
 rintro e w4 ⟨rfl, b4⟩
 have HB4 := Lib.hid (HB3.out.trans (b4.mono HB3.out.size))
 clear b4 HB3
 go_wp2_with fail
 go_ret
 exact ⟨rfl, HB4.out⟩
theorem gzBit_int (s : ByteArray) (b : Int) (h0 : 0 ≤ b) (h1 : b < 256) (hs : s.size ≤ 140737488351232) (w : World) :
  Calls Tryz.prog 6 #[.string s, .int .u8 b] w fun e w' => e = .returned (.bool true) ∧ Below w.heap.size w w' := by
 obtain ⟨n, rfl⟩ : ∃ n : Nat, b = (n : Int) := ⟨b.toNat, by omega⟩
 exact gzBit_any s n (by omega) hs w
end Go.Proofs.YtmhoejmgjbgddaaGreat
