/- The developers' Pack and Open of chapter 12, the examples. -/
import Derived.Test.YtmhoejmgjbgddaaGreatOD
import Derived.Test.YtmhoejmgjbgddaaGreatOB
namespace Go.Proofs.YtmhoejmgjbgddaaGreat
open Go.RowKit
set_option maxRecDepth 100000 in
theorem gzPack_any (s : ByteArray) (hs : s.size ≤ 10000) (w : World) :
  Calls Tryz.prog 10 #[.string s] w fun e w' => e = .returned (.string (gzT s)) ∧ Below w.heap.size w w' := by
 have C1 := fun wx => Pack_any s wx (by omega)
 have C2 := fun wx => seal_any s (by omega) wx
 have hP := pack_size s (by omega)
 have hS := sealT_size s
 have HT : Hid (gzT s = plainT ++ packT s ++ sealT s) := Lib.hid rfl
 have hp : plainT = ⟨#[31, 139, 8, 0, 0, 0, 0, 0, 0, 255]⟩ := rfl
 rw [hp] at HT
 generalize packT s = A at *
 generalize sealT s = B at *
 have hz1 : ¬ ((((⟨#[31, 139, 8, 0, 0, 0, 0, 0, 0, 255]⟩ : ByteArray).size + A.size : Nat) : Int)) > 9223372036854775807 := by
  rw [show (⟨#[31, 139, 8, 0, 0, 0, 0, 0, 0, 255]⟩ : ByteArray).size = 10 from rfl]; omega
 have hz2 : ¬ ((((⟨#[31, 139, 8, 0, 0, 0, 0, 0, 0, 255]⟩ : ByteArray) ++ A).size + B.size : Nat) : Int) > 9223372036854775807 := by
  rw [size_app, show (⟨#[31, 139, 8, 0, 0, 0, 0, 0, 0, 255]⟩ : ByteArray).size = 10 from rfl]; omega
 clear hp
 go_enter Tryz.func10, Tryz.ntmps10
 go_wp2_with fail
 refine (C1 _).mono ?_
 rintro e w1 ⟨rfl, b1⟩
 go_wp2_with fail
 refine (C2 _).mono ?_
 rintro e w2 ⟨rfl, b2⟩
 have b2 := b1.trans (b2.mono b1.size)
 clear b1
 go_wp2_with fail
 go_ret
 rw [HT.out]
 exact ⟨rfl, b2⟩
set_option maxRecDepth 100000 in
set_option maxHeartbeats 8000000 in
theorem gzOpen_any (b : ByteArray) (most : Int) (hb : b.size ≤ 281474976710656) (w : World) :
  Calls Tryz.prog 12 #[.string b, .int .i64 most] w fun e w' => e = .returned (.tuple #[.string (gzOpen b most).1, .int .i64 ((gzOpen b most).2 : Int)]) ∧ Below w.heap.size w w' := by
 by_cases hm : most < 0 ∨ most > 1048576
 ·have HE : Hid (gzOpen b most = (⟨#[]⟩, 1)) := Lib.hid (if_pos hm)
  rcases hm with hm | hm
  ·go_enter Tryz.func12, Tryz.ntmps12
   go_wp2_with fail
   go_ret2
   rw [HE.out]
   exact ⟨rfl, Below.refl _ _⟩
  ·have hm0 : ¬ most < 0 := by omega
   go_enter Tryz.func12, Tryz.ntmps12
   go_wp2_with fail
   go_ret2
   rw [HE.out]
   exact ⟨rfl, Below.refl _ _⟩
 ·have hm0 : ¬ most < 0 := by omega
  have hm1 : ¬ most > 1048576 := by omega
  obtain ⟨g, hg⟩ : ∃ g, g = w.heap.size := ⟨_, rfl⟩
  obtain ⟨w1, hw1⟩ : ∃ w1, w1 = w.alloc (.cells #[.string b, .int .i64 0] 42) := ⟨_, rfl⟩
  have h1 : HW g b 0 w1 := ⟨by rw [hw1, hg]; exact Blk.new w _ _, Nat.zero_le _⟩
  have hbl : Below w.heap.size w w1 := by rw [hw1]; exact (Below.refl _ w).alloc (Nat.le_refl _) _
  have HWE := Lib.hid (⟨hw1, hg⟩ : w1 = w.alloc (.cells #[.string b, .int .i64 0] 42) ∧ g = w.heap.size)
  have C := pass_any g b w1 h1 hb
  have HB1 : Hid (Below w.heap.size w w1 ∧ w.heap.size ≤ g ∧ w.heap.size ≤ w1.heap.size) := Lib.hid ⟨hbl, by omega, hbl.size⟩
  have HE : Hid (gzOpen b most = if (bodyS b).2 ≠ 0 then (⟨#[]⟩, (bodyS b).2) else
   if (openS (b.extract (bodyS b).1 b.size) most).2.2 ≠ 0 then (⟨#[]⟩, (openS (b.extract (bodyS b).1 b.size) most).2.2) else
   if b.size - ((bodyS b).1 + (openS (b.extract (bodyS b).1 b.size) most).2.1) ≠ 8 then (⟨#[]⟩, 2) else
   if b.extract ((bodyS b).1 + (openS (b.extract (bodyS b).1 b.size) most).2.1) b.size = sealT (txtL (openS (b.extract (bodyS b).1 b.size) most).1) then (txtL (openS (b.extract (bodyS b).1 b.size) most).1, 0) else (⟨#[]⟩, 8)) := Lib.hid (if_neg hm)
  have HBL : Hid ((bodyS b).2 = 0 → (bodyS b).1 ≤ b.size) := Lib.hid bodyS_le
  unfold PassV at C
  generalize bodyS b = r at *
  obtain ⟨a, x⟩ := r
  dsimp only at C HE HBL
  clear hw1 hg h1 hbl hm
  by_cases hx : x = 0
  ·subst hx
   have ha := HBL.out rfl
   have HE2 := Lib.hid ((HE.out).trans (if_neg (fun h => h rfl)))
   have hsz : (b.extract a b.size).size = b.size - a := by rw [ByteArray.size_extract]; omega
   have CO := fun wx => dopen_any (b.extract a b.size) most wx trivial (by rw [hsz]; omega)
   have HUL := Lib.hid (openS_used (b.extract a b.size) most)
   rw [hsz] at HUL
   clear HE HBL hsz
   have ha1 : (a : Int) ≤ (b.size : Int) := by omega
   have ha0 : (0 : Int) ≤ (a : Int) := by omega
   have HA := Lib.hid ha
   generalize hX : b.extract a b.size = X at *
   generalize openS X most = r at *
   obtain ⟨L, u, y⟩ := r
   dsimp only at CO HE2 HUL
   have HTL : Hid ((txtL L).size = L.length) := Lib.hid (textN_size _ _)
   generalize txtL L = T at *
   clear ha
   go_enter Tryz.func12, Tryz.ntmps12
   go_wp2_with fail
   rw [← HWE.out.1, ← HWE.out.2]
   refine C.mono ?_
   rintro e w2 ⟨rfl, m2, k2⟩
   have k2 := k2 trivial
   have HK2 := Lib.hid (⟨k2, HB1.out.1.trans (m2.below HB1.out.2.1 HB1.out.2.2)⟩ : HW g b a w2 ∧ Below w.heap.size w w2)
   have c1 := k2.c1
   clear C m2 k2
   go_wp2_with fail
   refine (CO _).mono ?_
   rintro e w3 ⟨rfl, b3⟩
   have HK3 := Lib.hid (⟨HK2.out.1.below b3, HK2.out.2.trans (b3.mono HK2.out.2.size)⟩ : HW g b a w3 ∧ Below w.heap.size w w3)
   clear HK2 b3 c1 CO
   by_cases hy : y = 0
   ·subst hy
    have HE3 := Lib.hid ((HE2.out).trans (if_neg (fun h => h rfl)))
    have hul := HUL.out
    have hu0 : IntKind.i64.wrap ((a : Int) + (u : Int)) = ((a + u : Nat) : Int) := by rw [IntWalk.i64_in _ (by have := HA.out; omega)]; rfl
    have CS := fun wx => seal_any T (by rw [HTL.out]; omega) wx
    have hS8 := sealT_size T
    clear HE2
    generalize sealT T = K at *
    have HZ : Hid ((b.extract (a + u) b.size).size = b.size - (a + u)) := Lib.hid (by rw [ByteArray.size_extract]; omega)
    have hv1 : ((a + u : Nat) : Int) ≤ (b.size : Int) := by have := HA.out; omega
    have hv0 : (0 : Int) ≤ ((a + u : Nat) : Int) := by omega
    generalize hV : a + u = v at *
    generalize hR : b.extract v b.size = R at *
    have hz0 := HZ.out
    clear hul
    go_wp2_with fail
    refine heldJ_start (fun wx => HW g b a wx) (by kernel_rfl) ?_
    change wpAnyH _ _ _ _ _ _ _ _ w3.drew
    have HJ := Lib.hid HK3.out.1.drew
    have HB3 := Lib.hid HK3.out.2.drew
    generalize w3.drew = w4 at HJ HB3 ⊢
    clear HK3
    refine heldJ_take (i := 0) (v := .string b) rfl rfl (fun wx hJ => ?_) HJ.out ?_
    ·go_simp; skip
    simp only [pu]
    refine heldJ_take (i := 1) (v := .pointer (some ⟨g, 0, none⟩)) rfl rfl (fun wx hJ => ?_) HJ.out ?_
    ·go_simp; skip
    simp only [pu]
    refine heldJ_take (i := 2) (v := .pointer (some ⟨g, 0, none⟩)) rfl rfl (fun wx hJ => ?_) HJ.out ?_
    ·go_simp; skip
    simp only [pu]
    refine heldJ_take (i := 3) (v := .pointer (some ⟨g, 1, none⟩)) rfl rfl (fun wx hJ => ?_) HJ.out ?_
    ·go_simp; skip
    simp only [pu]
    refine heldJ_take (i := 4) (v := .int .i64 (a : Int)) rfl rfl (fun wx hJ => ?_) HJ.out ?_
    ·have cc := hJ.c1; go_simp; skip
    simp only [pu]
    refine heldJ_take (i := 5) (v := .int .i64 (u : Int)) rfl rfl (fun wx hJ => ?_) HJ.out ?_
    ·go_simp; skip
    simp only [pu]
    refine heldJ_take (i := 6) (v := .int .i64 (v : Int)) rfl rfl (fun wx hJ => ?_) HJ.out ?_
    ·go_simp; skip
    simp only [pu]
    refine heldJ_take (i := 7) (v := .string R) rfl rfl (fun wx hJ => ?_) HJ.out ?_
    ·go_simp; skip
    simp only [pu]
    refine heldJ_take (i := 8) (v := .string T) rfl rfl (fun wx hJ => ?_) HJ.out ?_
    ·go_simp; skip
    simp only [pu]
    refine heldJ_call (i := 9) (f := 17) (by kernel_rfl) rfl rfl (by go_simp; skip) ((CS _).mono ?_)
    rintro e w5 ⟨rfl, b5⟩
    have HB5 := Lib.hid (HB3.out.trans (b5.mono HB3.out.size))
    have HJ5 := Lib.hid (HJ.out.below b5)
    clear HJ HB3 b5
    have HJ := HJ5
    clear HJ5
    refine ⟨_, rfl, HJ.out, ?_⟩
    simp only [pu]
    refine heldJ_take (i := 10) (v := .string R) rfl rfl (fun wx hJ => ?_) HJ.out ?_
    ·go_simp; skip
    simp only [pu]
    refine heldJ_take (i := 11) (v := .string K) rfl rfl (fun wx hJ => ?_) HJ.out ?_
    ·go_simp; skip
    simp only [pu]
    refine wpAnyH_done (by kernel_rfl) ?_ _
    clear HJ
    have hK8 : (K.size : Int) = 8 := by omega
    by_cases h8 : R.size = 8
    ·have hR8 : (R.size : Int) = 8 := by omega
     by_cases hq : R = K
     ·have HE4 := Lib.hid (HE3.out.trans ((if_neg (by omega)).trans (if_pos hq)))
      clear HE3
      go_wp2_with fail
      go_ret2
      rw [HE4.out]
      exact ⟨rfl, HB5.out⟩
     ·have HE4 := Lib.hid (HE3.out.trans ((if_neg (by omega)).trans (if_neg hq)))
      have hql := text_ne hq
      clear HE3
      go_wp2_with fail
      go_ret2
      rw [HE4.out]
      exact ⟨rfl, HB5.out⟩
    ·have hR8 : ¬ (R.size : Int) = 8 := by omega
     have HE4 := Lib.hid (HE3.out.trans (if_pos (by omega)))
     clear HE3
     go_wp2_with fail
     go_ret2
     rw [HE4.out]
     exact ⟨rfl, HB5.out⟩
   ·have hyi : ¬ (y : Int) = 0 := by omega
    have HE3 := Lib.hid ((HE2.out).trans (if_pos hy))
    go_wp2_with fail
    go_ret2
    rw [HE3.out]
    exact ⟨rfl, HK3.out.2⟩
  ·have hxi : ¬ (x : Int) = 0 := by omega
   have HE2 := Lib.hid (HE.out.trans (if_pos hx))
   clear HE
   go_enter Tryz.func12, Tryz.ntmps12
   go_wp2_with fail
   rw [← HWE.out.1, ← HWE.out.2]
   refine C.mono ?_
   rintro e w2 ⟨rfl, m2, k2⟩
   have HB2 := Lib.hid (HB1.out.1.trans (m2.below HB1.out.2.1 HB1.out.2.2))
   clear m2 k2
   go_wp2_with fail
   go_ret2
   rw [HE2.out]
   exact ⟨rfl, HB2.out⟩
end Go.Proofs.YtmhoejmgjbgddaaGreat
/- The examples of chapter 12. -/
namespace Go.Proofs.YtmhoejmgjbgddaaGreat
open Go.RowKit
theorem gzT_size (s : ByteArray) : (gzT s).size = 18 + (packT s).size := by
 have hp : plainT.size = 10 := rfl
 unfold gzT
 rw [size_app, size_app, sealT_size, hp]; omega
theorem gz_both (U : ByteArray) (hU : U.size ≤ 1000) : ∃ P : ByteArray, P = gzT U ∧ P.size ≤ 1100 ∧ 18 ≤ P.size ∧
  Hid (∀ wx, Calls Tryz.prog 10 #[.string U] wx fun e w' => e = .returned (.string P) ∧ Below wx.heap.size wx w') := by
 have hz := pack_size U (by omega)
 have hg := gzT_size U
 exact ⟨gzT U, rfl, by omega, by omega, Lib.hid fun wx => gzPack_any U (by omega) wx⟩
theorem gz_ans (b : ByteArray) (most : Int) (hb : b.size ≤ 281474976710656) (T : ByteArray) (x : Nat) (h : gzOpen b most = (T, x)) : Hid (∀ wx, Calls Tryz.prog 12 #[.string b, .int .i64 most] wx fun e w' => e = .returned (.tuple #[.string T, .int .i64 (x : Int)]) ∧ Below wx.heap.size wx w') := Lib.hid fun wx => by
 have C := gzOpen_any b most hb wx
 rw [h] at C
 exact C
set_option maxRecDepth 100000 in
theorem examples12_any (w : World) : Calls Tryz.prog 9 #[] w fun e w' => e = .returned (.bool true) ∧ Below w.heap.size w w' := by
 have hz : (⟨#[97, 98, 99]⟩ : ByteArray).size = 3 := rfl
 obtain ⟨P, hP, hP1, _, HP⟩ := gz_both ⟨#[97, 98, 99]⟩ (by rw [hz]; decide)
 have H1 := gz_ans P 3 (by omega) ⟨#[97, 98, 99]⟩ 0 (by rw [hP]; exact gz_self _ 3 (by rw [hz]; decide) (by decide))
 have H2 := gz_ans ⟨#[]⟩ 3 (by show 0 ≤ 281474976710656; decide) ⟨#[]⟩ 2 (gz_bad (.inl (by decide)) 3 (by decide))
 clear hP hP1 hz
 go_enter Tryz.func9, Tryz.ntmps9
 go_wp2_with fail
 refine (HP.out _).mono ?_
 rintro e w1 ⟨rfl, b1⟩
 go_wp2_with fail
 refine (H1.out _).mono ?_
 rintro e w2 ⟨rfl, b2⟩
 have b2 := b1.trans (b2.mono b1.size)
 clear b1
 go_wp2_with fail
 refine (H2.out _).mono ?_
 rintro e w3 ⟨rfl, b3⟩
 have b3 := b2.trans (b3.mono b2.size)
 clear b2
 go_wp2_with fail
 go_ret
 exact ⟨rfl, b3⟩
end Go.Proofs.YtmhoejmgjbgddaaGreat
/- Chapter 12's laws in numbers, no walk: what is behind, cut, turned. -/
namespace Go.Proofs.YtmhoejmgjbgddaaGreat
open Go.RowKit
theorem gz_more (s more : ByteArray) (M : Nat) (hM : s.size ≤ M) (hm : M ≤ 1048576) : gzOpen (gzT s ++ more) (M : Int) = if more.size = 0 then (s, 0) else (⟨#[]⟩, 2) := by
 have e : gzT s ++ more = plainT ++ (packT s ++ (sealT s ++ more)) := by rw [gzT_eq, ByteArray.append_assoc, ByteArray.append_assoc]
 rw [e, gz_plain s _ M hM hm, size_app, sealT_size]
 by_cases h : more.size = 0
 ·have hn : more = ByteArray.empty := ByteArray.size_eq_zero_iff.1 h
  rw [if_neg (by omega), if_pos h, hn, ByteArray.append_empty, if_pos rfl]
 ·rw [if_pos (by omega), if_neg h]
theorem gz_cut (s : ByteArray) (M : Nat) (hM : s.size ≤ M) (hm : M ≤ 1048576) : gzOpen ((gzT s).extract 0 ((gzT s).size - 1)) (M : Int) = (⟨#[]⟩, 2) := by
 have hz := sealT_size s
 have hp : plainT.size = 10 := rfl
 have e : (gzT s).extract 0 ((gzT s).size - 1) = plainT ++ (packT s ++ (sealT s).extract 0 7) := by
  refine text_same (by rw [ByteArray.size_extract, gzT_eq, size_app, size_app, size_app, size_app, ByteArray.size_extract]; omega) fun j hj => ?_
  rw [ByteArray.size_extract, gzT_eq, size_app, size_app] at hj
  rw [byteS_ext _ 0 _ j (by omega) (by rw [gzT_eq, size_app, size_app]; omega), Nat.zero_add, gzT_eq, byteS_app, byteS_app, byteS_app, byteS_app]
  split
  ·rfl
  ·split
   ·rfl
   ·rw [byteS_ext _ 0 7 _ (by omega) (by omega), Nat.zero_add]
 rw [e, gz_plain s _ M hM hm, if_pos (by rw [ByteArray.size_extract]; omega)]
theorem gz_room (s : ByteArray) (M : Nat) (hM : M < s.size) (hs : s.size ≤ 1048576) : gzOpen (gzT s) (M : Int) = (⟨#[]⟩, 9) := by
 have e1 : (plainT ++ (packT s ++ sealT s)).extract plainT.size (plainT ++ (packT s ++ sealT s)).size = packT s ++ sealT s := by
  rw [size_app]; exact ByteArray.extract_append_eq_right rfl rfl
 unfold gzOpen
 rw [if_neg (by omega), gzT_eq, body_plain]
 dsimp only
 rw [if_neg (fun h => h rfl), e1, open_room s _ hs M hM]
 exact if_pos (by decide)
theorem gz_turned (s : ByteArray) (Q v : Nat) (hQ : Q < 8) (hv : v < 256) (hne : v ≠ byteS (sealT s) Q) (p : Nat) (hp : p = (gzT s).size - 8 + Q) (M : Nat) (hM : s.size ≤ M) (hm : M ≤ 1048576) :
  gzOpen (textN (gzT s).size fun j => if j = p then v else byteS (gzT s) j) (M : Int) = (⟨#[]⟩, 8) := by
 have hz := sealT_size s
 have hg := gzT_size s
 have h10 : plainT.size = 10 := rfl
 have hl : ∀ j, (if j = p then v else byteS (gzT s) j) < 256 := fun j => by split; exact hv; exact byteS_lt _ _
 have hl8 : ∀ j, (if j = Q then v else byteS (sealT s) j) < 256 := fun j => by split; exact hv; exact byteS_lt _ _
 have e : (textN (gzT s).size fun j => if j = p then v else byteS (gzT s) j) = plainT ++ (packT s ++ textN 8 fun j => if j = Q then v else byteS (sealT s) j) := by
  refine text_same (by rw [textN_size, size_app, size_app, textN_size]; omega) fun j hj => ?_
  rw [textN_size] at hj
  rw [byteS_textN _ _ j hj (hl j), gzT_eq, byteS_app, byteS_app, byteS_app, byteS_app]
  by_cases h1 : j < plainT.size
  ·rw [if_neg (by omega), if_pos h1, if_pos h1]
  ·rw [if_neg h1, if_neg h1]
   by_cases h2 : j - plainT.size < (packT s).size
   ·rw [if_neg (by omega), if_pos h2, if_pos h2]
   ·rw [if_neg h2, if_neg h2, byteS_textN 8 (fun j => if j = Q then v else byteS (sealT s) j) _ (by omega) (hl8 _)]
    by_cases h3 : j = p
    ·rw [if_pos h3, if_pos (by omega)]
    ·rw [if_neg h3, if_neg (by omega)]
 rw [e, gz_plain s _ M hM hm, if_neg (by rw [textN_size]; decide), if_neg]
 intro k
 have := congrArg (fun t => byteS t Q) k
 rw [byteS_textN 8 _ Q hQ (hl8 Q), if_pos rfl] at this
 exact hne this
theorem gz_first (s : ByteArray) (p v : Nat) (hp : p < 3) (hv : v < 256) (M : Nat) (hM : s.size ≤ M) (hm : M ≤ 1048576) :
  gzOpen (textN (gzT s).size fun j => if j = p then v else byteS (gzT s) j) (M : Int) = if v = byteS startT p then (s, 0) else (⟨#[]⟩, 2) := by
 have hg := gzT_size s
 have h10 : plainT.size = 10 := rfl
 have hl : ∀ j, (if j = p then v else byteS (gzT s) j) < 256 := fun j => by split; exact hv; exact byteS_lt _ _
 have h0 : byteS (gzT s) p = byteS startT p := by
  rw [gzT_eq, byteS_app, if_pos (by omega)]
  have : p = 0 ∨ p = 1 ∨ p = 2 := by omega
  rcases this with rfl | rfl | rfl <;> rfl
 by_cases h : v = byteS startT p
 ·have e : (textN (gzT s).size fun j => if j = p then v else byteS (gzT s) j) = gzT s := textN_is rfl fun j _ => by
   by_cases hj : j = p
   ·rw [if_pos hj, hj, h0, h]
   ·rw [if_neg hj]
  rw [if_pos h, e, gz_self s M hM hm]
 ·rw [if_neg h]
  refine gz_bad (.inr (.inl fun k => h ?_)) _ (by omega)
  have := congrArg (fun t => byteS t p) k
  rwa [byteS_ext _ 0 3 p (by rw [textN_size]; omega) (by omega), Nat.zero_add, byteS_textN _ _ p (by omega) (hl p), if_pos rfl] at this
theorem gz_flags (s : ByteArray) (v : Nat) (hv : v < 256) (h32 : 32 ≤ v) (most : Int) (h0 : ¬ (most < 0 ∨ most > 1048576)) :
  gzOpen (textN (gzT s).size fun j => if j = 3 then v else byteS (gzT s) j) most = (⟨#[]⟩, 2) := by
 have hg := gzT_size s
 have hl : ∀ j, (if j = 3 then v else byteS (gzT s) j) < 256 := fun j => by split; exact hv; exact byteS_lt _ _
 refine gz_bad (.inr (.inr ?_)) _ h0
 rw [byteS_textN _ _ 3 (by omega) (hl 3), if_pos rfl]
 exact h32
theorem lit_empty {s : ByteArray} (h : s.size = 0) : (s.toList == []) = true ∧ s.toList.isEmpty = true := by
 have : s = ByteArray.empty := ByteArray.size_eq_zero_iff.1 h
 subst this
 exact ⟨by decide +kernel, by decide +kernel⟩
theorem lit_some {s : ByteArray} (h : ¬ s.size = 0) : (s.toList == []) = false ∧ s.toList.isEmpty = false := by
 have hn : s.toList ≠ [] := fun e => h (by
  have h2 : s.data.toList.length = s.size := Array.length_toList
  rw [ByteArray.toList_eq] at e
  rw [e] at h2
  exact h2.symm)
 refine ⟨by rw [beq_eq_false_iff_ne]; exact hn, ?_⟩
 cases e : s.toList with
 | nil => exact absurd e hn
 | cons x l => rfl
theorem turn_text (P : ByteArray) (p v : Nat) (hp : p < P.size) (hv : v < 256) (w : World) : ∃ cap W1, (convert 9 25 (.string P)).run Tryz.prog w = .ok (.slice (some ⟨w.heap.size, 0, none⟩) P.size cap) W1 ∧
  W1.cell? ⟨w.heap.size, p, none⟩ = some (.int .u8 (byteS P p : Int)) ∧ W1.frozen? ⟨w.heap.size, p, none⟩ = false ∧
  (convert 25 9 (.slice (some ⟨w.heap.size, 0, none⟩) P.size cap)).run Tryz.prog (W1.setCell ⟨w.heap.size, p, none⟩ (.int .u8 (v : Int))) = .ok (.string (textN P.size fun j => if j = p then v else byteS P j)) (W1.setCell ⟨w.heap.size, p, none⟩ (.int .u8 (v : Int))) ∧
  Below w.heap.size w (W1.setCell ⟨w.heap.size, p, none⟩ (.int .u8 (v : Int))) := by
 obtain ⟨cap, W1, h1, h2, h3⟩ := bytesN_start P w rfl
 exact ⟨cap, W1, h1, h2.c p hp, h2.fz p hp, bytesN_end (h2.put p v) (fun j => by split; exact hv; exact byteS_lt _ _) cap, h3.setCell (Nat.le_refl _) _⟩
end Go.Proofs.YtmhoejmgjbgddaaGreat
