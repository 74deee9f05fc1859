/- Chapter 11's reference: same. -/
import Derived.Test.YtjdfdiejlmeeoaaNC
import Derived.Test.YtjdfdiejlmeeoaaNA
import Derived.Test.YtjdfdiejlmeeoaaND
import Derived.Test.YtjdfdiejlmeeoaaEn
import Derived.BigQuiet
namespace Go.Proofs.Ytjdfdiejlmeeoaa
open Go.RowKit
set_option maxRecDepth 100000 in
set_option maxHeartbeats 8000000 in
theorem rsame_any (s : ByteArray) (x y to M : Nat) (w : World) (hxy : x ≤ y) (hyt : y ≤ to) (hts : to ≤ s.size) (hs : s.size ≤ 281474976710656) (hM : M = min (to - y) 258) :
    Calls Try.prog 17 #[.string s, .int .i64 (x : Int), .int .i64 (y : Int), .int .i64 (to : Int)] w fun e w' => e = .returned (.int .i64 (sameN (byteS s) x y M : Int)) ∧ ∃ nq, w' = w.drewN nq := by
  have HB := Lib.hid (⟨hxy, hyt, hts, hs, hM⟩ : x ≤ y ∧ y ≤ to ∧ to ≤ s.size ∧ s.size ≤ 281474976710656 ∧ M = min (to - y) 258)
  clear hxy hyt hts hs hM
  go_enter Try.func17, Try.ntmps17
  go_wp2_with fail
  go_loopw [9] (fun k wr => ∃ i nq : Nat, k = .int .i64 (i : Int) ∧ i ≤ M ∧ Hid (sameG (byteS s) x y i (M - i) = sameN (byteS s) x y M) ∧ wr = w.drewN nq) (fun k _ => M - (intOf k).toNat)
  case atStart => exact ⟨0, 0, rfl, Nat.zero_le _, Lib.hid rfl, rfl⟩
  case round =>
    obtain ⟨i, nq, rfl, hi, HA, rfl⟩ := hrel
    have hb := HB.out
    obtain ⟨xi, hxi⟩ : ∃ j, j = x + i := ⟨_, rfl⟩
    obtain ⟨yi, hyi⟩ : ∃ j, j = y + i := ⟨_, rfl⟩
    have hwx : IntKind.i64.wrap ((x : Int) + (i : Int)) = (xi : Int) := by rw [IntWalk.i64_in _ (by omega)]; omega
    have hwy : IntKind.i64.wrap ((y : Int) + (i : Int)) = (yi : Int) := by rw [IntWalk.i64_in _ (by omega)]; omega
    have hkw : IntKind.i64.wrap ((i : Int) + 1) = ((i + 1 : Nat) : Int) := by rw [IntWalk.i64_in _ (by omega)]; rfl
    by_cases h258 : i < 258
    · have h258i : (i : Int) < 258 := by omega
      by_cases hyt : yi < to
      · have hyti : (yi : Int) < (to : Int) := by omega
        have hsx : xi < s.size := by omega
        have hsy : yi < s.size := by omega
        have hsxi : (xi : Int) < (s.size : Int) := by omega
        have hsyi : (yi : Int) < (s.size : Int) := by omega
        have HIM : Hid (i < M) := Lib.hid (by omega)
        have HS : Hid (M - i = (M - (i + 1)) + 1) := Lib.hid (by omega)
        obtain ⟨bx, hbx⟩ : ∃ bx, bx = byteS s (x + i) := ⟨_, rfl⟩
        obtain ⟨by_, hby⟩ : ∃ by_, by_ = byteS s (y + i) := ⟨_, rfl⟩
        have HBX : Hid ((s[xi]'hsx).toNat = bx) := Lib.hid (by rw [hbx, ← hxi]; exact byteS_at s xi hsx)
        have HBY : Hid ((s[yi]'hsy).toNat = by_) := Lib.hid (by rw [hby, ← hyi]; exact byteS_at s yi hsy)
        by_cases he : bx = by_
        · have HA2 : Hid (sameG (byteS s) x y (i + 1) (M - (i + 1)) = sameN (byteS s) x y M) := Lib.hid (by
            rw [← HA.out, HS.out]
            show _ = if byteS s (x + i) = byteS s (y + i) then _ else _
            rw [if_pos (by rw [← hbx, ← hby]; exact he)])
          have HE : Hid (((bx : Int) == (by_ : Int)) = true) := Lib.hid (beq_iff_eq.2 (by omega))
          clear he HA HS hxi hyi hb h258 hyt hbx hby
          go_wp2_with fail
          refine wp_region_anyL (Two 1000 1001 fun _ _ wx => wx = w.drewN (nq + 1)) (by kernel_rfl) rfl ?_
          refine anyL_take (i := 0) (v := ?_) rfl (by kernel_rfl) (by kernel_rfl) (by kernel_rfl) (yl_other (by decide) (by decide) rfl (fun f1 f2 wx hT => ?_)) ?_; rotate_left
          · refine lands_value (w := wx) ?_ hT; go_simp <;> rfl
          simp only [pu]
          refine anyL_take (i := 1) (v := .bool true) rfl (by kernel_rfl) (by kernel_rfl) (by kernel_rfl) (yl_other (by decide) (by decide) rfl (fun f1 f2 wx hT => ?_)) ?_
          · refine lands_value (w := wx) ?_ hT; go_simp; skip
          simp only [pu]
          refine anyL_take (i := 2) (v := ?_) rfl (by kernel_rfl) (by kernel_rfl) (by kernel_rfl) (yl_other (by decide) (by decide) rfl (fun f1 f2 wx hT => ?_)) ?_; rotate_left
          · refine lands_value (w := wx) ?_ hT; go_simp <;> rfl
          simp only [pu]
          refine anyL_take (i := 3) (v := ?_) rfl (by kernel_rfl) (by kernel_rfl) (by kernel_rfl) (yl_other (by decide) (by decide) rfl (fun f1 f2 wx hT => ?_)) ?_; rotate_left
          · refine lands_value (w := wx) ?_ hT; go_simp <;> rfl
          simp only [pu]
          refine anyL_take (i := 4) (v := ?_) rfl (by kernel_rfl) (by kernel_rfl) (by kernel_rfl) (yl_other (by decide) (by decide) rfl (fun f1 f2 wx hT => ?_)) ?_; rotate_left
          · refine lands_value (w := wx) ?_ hT; go_simp <;> rfl
          simp only [pu]
          refine anyL_take (i := 5) (v := .int .i64 (yi : Int)) rfl (by kernel_rfl) (by kernel_rfl) (by kernel_rfl) (yl_other (by decide) (by decide) rfl (fun f1 f2 wx hT => ?_)) ?_
          · refine lands_value (w := wx) ?_ hT; go_simp; skip
          simp only [pu]
          refine anyL_take (i := 6) (v := ?_) rfl (by kernel_rfl) (by kernel_rfl) (by kernel_rfl) (yl_other (by decide) (by decide) rfl (fun f1 f2 wx hT => ?_)) ?_; rotate_left
          · refine lands_value (w := wx) ?_ hT; go_simp <;> rfl
          simp only [pu]
          refine anyL_take (i := 7) (v := .bool true) rfl (by kernel_rfl) (by kernel_rfl) (by kernel_rfl) (yl_other (by decide) (by decide) rfl (fun f1 f2 wx hT => ?_)) ?_
          · refine lands_value (w := wx) ?_ hT; go_simp; skip
          simp only [pu]
          refine anyL_take (i := 8) (v := .bool true) rfl (by kernel_rfl) (by kernel_rfl) (by kernel_rfl) (yl_other (by decide) (by decide) rfl (fun f1 f2 wx hT => ?_)) ?_
          · refine lands_value (w := wx) ?_ hT; go_simp; skip
          simp only [pu]
          refine anyL_take (i := 9) (v := ?_) rfl (by kernel_rfl) (by kernel_rfl) (by kernel_rfl) (yl_other (by decide) (by decide) rfl (fun f1 f2 wx hT => ?_)) ?_; rotate_left
          · refine lands_value (w := wx) ?_ hT; go_simp <;> rfl
          simp only [pu]
          refine anyL_take (i := 10) (v := ?_) rfl (by kernel_rfl) (by kernel_rfl) (by kernel_rfl) (yl_other (by decide) (by decide) rfl (fun f1 f2 wx hT => ?_)) ?_; rotate_left
          · refine lands_value (w := wx) ?_ hT; go_simp <;> rfl
          simp only [pu]
          refine anyL_take (i := 11) (v := ?_) rfl (by kernel_rfl) (by kernel_rfl) (by kernel_rfl) (yl_other (by decide) (by decide) rfl (fun f1 f2 wx hT => ?_)) ?_; rotate_left
          · refine lands_value (w := wx) ?_ hT; go_simp <;> rfl
          simp only [pu]
          refine anyL_take (i := 12) (v := ?_) rfl (by kernel_rfl) (by kernel_rfl) (by kernel_rfl) (yl_other (by decide) (by decide) rfl (fun f1 f2 wx hT => ?_)) ?_; rotate_left
          · refine lands_value (w := wx) ?_ hT; go_simp <;> rfl
          simp only [pu]
          refine anyL_take (i := 13) (v := .int .i64 (xi : Int)) rfl (by kernel_rfl) (by kernel_rfl) (by kernel_rfl) (yl_other (by decide) (by decide) rfl (fun f1 f2 wx hT => ?_)) ?_
          · refine lands_value (w := wx) ?_ hT; go_simp; skip
          simp only [pu]
          refine anyL_take (i := 14) (v := .int .u8 (bx : Int)) rfl (by kernel_rfl) (by kernel_rfl) (by kernel_rfl) (yl_other (by decide) (by decide) rfl (fun f1 f2 wx hT => ?_)) ?_
          · have cc := HBX.out; refine lands_value (w := wx) ?_ hT; go_simp; skip
          simp only [pu]
          refine anyL_take (i := 15) (v := ?_) rfl (by kernel_rfl) (by kernel_rfl) (by kernel_rfl) (yl_other (by decide) (by decide) rfl (fun f1 f2 wx hT => ?_)) ?_; rotate_left
          · refine lands_value (w := wx) ?_ hT; go_simp <;> rfl
          simp only [pu]
          refine anyL_take (i := 16) (v := ?_) rfl (by kernel_rfl) (by kernel_rfl) (by kernel_rfl) (yl_other (by decide) (by decide) rfl (fun f1 f2 wx hT => ?_)) ?_; rotate_left
          · refine lands_value (w := wx) ?_ hT; go_simp <;> rfl
          simp only [pu]
          refine anyL_take (i := 17) (v := ?_) rfl (by kernel_rfl) (by kernel_rfl) (by kernel_rfl) (yl_other (by decide) (by decide) rfl (fun f1 f2 wx hT => ?_)) ?_; rotate_left
          · refine lands_value (w := wx) ?_ hT; go_simp <;> rfl
          simp only [pu]
          refine anyL_take (i := 18) (v := .int .i64 (yi : Int)) rfl (by kernel_rfl) (by kernel_rfl) (by kernel_rfl) (yl_other (by decide) (by decide) rfl (fun f1 f2 wx hT => ?_)) ?_
          · refine lands_value (w := wx) ?_ hT; go_simp; skip
          simp only [pu]
          refine anyL_take (i := 19) (v := .int .u8 (by_ : Int)) rfl (by kernel_rfl) (by kernel_rfl) (by kernel_rfl) (yl_other (by decide) (by decide) rfl (fun f1 f2 wx hT => ?_)) ?_
          · have cc := HBY.out; refine lands_value (w := wx) ?_ hT; go_simp; skip
          simp only [pu]
          refine anyL_take (i := 20) (v := .bool true) rfl (by kernel_rfl) (by kernel_rfl) (by kernel_rfl) (yl_other (by decide) (by decide) rfl (fun f1 f2 wx hT => ?_)) ?_
          · have hE := HE.out; refine lands_value (w := wx) ?_ hT; go_simp; skip
          simp only [pu]
          refine anyL_take (i := 21) (v := .bool true) rfl (by kernel_rfl) (by kernel_rfl) (by kernel_rfl) (yl_other (by decide) (by decide) rfl (fun f1 f2 wx hT => ?_)) ?_
          · refine lands_value (w := wx) ?_ hT; go_simp; skip
          simp only [pu]
          refine anyL_done rfl ?_ _
          intro w2 hT2
          subst hT2
          go_wp2_with fail
          exact ⟨⟨i + 1, nq + 1, by go_num, by have := HIM.out; omega, HA2, rfl⟩, by simp only [intOf]; have := HIM.out; omega⟩
        · have HR : Hid (sameN (byteS s) x y M = i) := Lib.hid (by
            rw [← HA.out, HS.out]
            show (if byteS s (x + i) = byteS s (y + i) then _ else _) = _
            rw [if_neg (by rw [← hbx, ← hby]; exact he)])
          have HE : Hid (((bx : Int) == (by_ : Int)) = false) := Lib.hid (Bool.eq_false_iff.2 fun h => he (by have := eq_of_beq h; omega))
          clear he HA HS hxi hyi hb h258 hyt hbx hby
          go_wp2_with fail
          refine wp_region_anyL (Two 1000 1001 fun _ _ wx => wx = w.drewN (nq + 1)) (by kernel_rfl) rfl ?_
          refine anyL_take (i := 0) (v := ?_) rfl (by kernel_rfl) (by kernel_rfl) (by kernel_rfl) (yl_other (by decide) (by decide) rfl (fun f1 f2 wx hT => ?_)) ?_; rotate_left
          · refine lands_value (w := wx) ?_ hT; go_simp <;> rfl
          simp only [pu]
          refine anyL_take (i := 1) (v := .bool true) rfl (by kernel_rfl) (by kernel_rfl) (by kernel_rfl) (yl_other (by decide) (by decide) rfl (fun f1 f2 wx hT => ?_)) ?_
          · refine lands_value (w := wx) ?_ hT; go_simp; skip
          simp only [pu]
          refine anyL_take (i := 2) (v := ?_) rfl (by kernel_rfl) (by kernel_rfl) (by kernel_rfl) (yl_other (by decide) (by decide) rfl (fun f1 f2 wx hT => ?_)) ?_; rotate_left
          · refine lands_value (w := wx) ?_ hT; go_simp <;> rfl
          simp only [pu]
          refine anyL_take (i := 3) (v := ?_) rfl (by kernel_rfl) (by kernel_rfl) (by kernel_rfl) (yl_other (by decide) (by decide) rfl (fun f1 f2 wx hT => ?_)) ?_; rotate_left
          · refine lands_value (w := wx) ?_ hT; go_simp <;> rfl
          simp only [pu]
          refine anyL_take (i := 4) (v := ?_) rfl (by kernel_rfl) (by kernel_rfl) (by kernel_rfl) (yl_other (by decide) (by decide) rfl (fun f1 f2 wx hT => ?_)) ?_; rotate_left
          · refine lands_value (w := wx) ?_ hT; go_simp <;> rfl
          simp only [pu]
          refine anyL_take (i := 5) (v := .int .i64 (yi : Int)) rfl (by kernel_rfl) (by kernel_rfl) (by kernel_rfl) (yl_other (by decide) (by decide) rfl (fun f1 f2 wx hT => ?_)) ?_
          · refine lands_value (w := wx) ?_ hT; go_simp; skip
          simp only [pu]
          refine anyL_take (i := 6) (v := ?_) rfl (by kernel_rfl) (by kernel_rfl) (by kernel_rfl) (yl_other (by decide) (by decide) rfl (fun f1 f2 wx hT => ?_)) ?_; rotate_left
          · refine lands_value (w := wx) ?_ hT; go_simp <;> rfl
          simp only [pu]
          refine anyL_take (i := 7) (v := .bool true) rfl (by kernel_rfl) (by kernel_rfl) (by kernel_rfl) (yl_other (by decide) (by decide) rfl (fun f1 f2 wx hT => ?_)) ?_
          · refine lands_value (w := wx) ?_ hT; go_simp; skip
          simp only [pu]
          refine anyL_take (i := 8) (v := .bool true) rfl (by kernel_rfl) (by kernel_rfl) (by kernel_rfl) (yl_other (by decide) (by decide) rfl (fun f1 f2 wx hT => ?_)) ?_
          · refine lands_value (w := wx) ?_ hT; go_simp; skip
          simp only [pu]
          refine anyL_take (i := 9) (v := ?_) rfl (by kernel_rfl) (by kernel_rfl) (by kernel_rfl) (yl_other (by decide) (by decide) rfl (fun f1 f2 wx hT => ?_)) ?_; rotate_left
          · refine lands_value (w := wx) ?_ hT; go_simp <;> rfl
          simp only [pu]
          refine anyL_take (i := 10) (v := ?_) rfl (by kernel_rfl) (by kernel_rfl) (by kernel_rfl) (yl_other (by decide) (by decide) rfl (fun f1 f2 wx hT => ?_)) ?_; rotate_left
          · refine lands_value (w := wx) ?_ hT; go_simp <;> rfl
          simp only [pu]
          refine anyL_take (i := 11) (v := ?_) rfl (by kernel_rfl) (by kernel_rfl) (by kernel_rfl) (yl_other (by decide) (by decide) rfl (fun f1 f2 wx hT => ?_)) ?_; rotate_left
          · refine lands_value (w := wx) ?_ hT; go_simp <;> rfl
          simp only [pu]
          refine anyL_take (i := 12) (v := ?_) rfl (by kernel_rfl) (by kernel_rfl) (by kernel_rfl) (yl_other (by decide) (by decide) rfl (fun f1 f2 wx hT => ?_)) ?_; rotate_left
          · refine lands_value (w := wx) ?_ hT; go_simp <;> rfl
          simp only [pu]
          refine anyL_take (i := 13) (v := .int .i64 (xi : Int)) rfl (by kernel_rfl) (by kernel_rfl) (by kernel_rfl) (yl_other (by decide) (by decide) rfl (fun f1 f2 wx hT => ?_)) ?_
          · refine lands_value (w := wx) ?_ hT; go_simp; skip
          simp only [pu]
          refine anyL_take (i := 14) (v := .int .u8 (bx : Int)) rfl (by kernel_rfl) (by kernel_rfl) (by kernel_rfl) (yl_other (by decide) (by decide) rfl (fun f1 f2 wx hT => ?_)) ?_
          · have cc := HBX.out; refine lands_value (w := wx) ?_ hT; go_simp; skip
          simp only [pu]
          refine anyL_take (i := 15) (v := ?_) rfl (by kernel_rfl) (by kernel_rfl) (by kernel_rfl) (yl_other (by decide) (by decide) rfl (fun f1 f2 wx hT => ?_)) ?_; rotate_left
          · refine lands_value (w := wx) ?_ hT; go_simp <;> rfl
          simp only [pu]
          refine anyL_take (i := 16) (v := ?_) rfl (by kernel_rfl) (by kernel_rfl) (by kernel_rfl) (yl_other (by decide) (by decide) rfl (fun f1 f2 wx hT => ?_)) ?_; rotate_left
          · refine lands_value (w := wx) ?_ hT; go_simp <;> rfl
          simp only [pu]
          refine anyL_take (i := 17) (v := ?_) rfl (by kernel_rfl) (by kernel_rfl) (by kernel_rfl) (yl_other (by decide) (by decide) rfl (fun f1 f2 wx hT => ?_)) ?_; rotate_left
          · refine lands_value (w := wx) ?_ hT; go_simp <;> rfl
          simp only [pu]
          refine anyL_take (i := 18) (v := .int .i64 (yi : Int)) rfl (by kernel_rfl) (by kernel_rfl) (by kernel_rfl) (yl_other (by decide) (by decide) rfl (fun f1 f2 wx hT => ?_)) ?_
          · refine lands_value (w := wx) ?_ hT; go_simp; skip
          simp only [pu]
          refine anyL_take (i := 19) (v := .int .u8 (by_ : Int)) rfl (by kernel_rfl) (by kernel_rfl) (by kernel_rfl) (yl_other (by decide) (by decide) rfl (fun f1 f2 wx hT => ?_)) ?_
          · have cc := HBY.out; refine lands_value (w := wx) ?_ hT; go_simp; skip
          simp only [pu]
          refine anyL_take (i := 20) (v := .bool false) rfl (by kernel_rfl) (by kernel_rfl) (by kernel_rfl) (yl_other (by decide) (by decide) rfl (fun f1 f2 wx hT => ?_)) ?_
          · have hE := HE.out; refine lands_value (w := wx) ?_ hT; go_simp; skip
          simp only [pu]
          refine anyL_take (i := 21) (v := .bool false) rfl (by kernel_rfl) (by kernel_rfl) (by kernel_rfl) (yl_other (by decide) (by decide) rfl (fun f1 f2 wx hT => ?_)) ?_
          · refine lands_value (w := wx) ?_ hT; go_simp; skip
          simp only [pu]
          refine anyL_done rfl ?_ _
          intro w2 hT2
          subst hT2
          go_wp2_with fail
          go_ret
          exact ⟨by rw [HR.out]; rfl, nq + 1, rfl⟩
      · have hyti : ¬ (yi : Int) < (to : Int) := by omega
        have hyt2 : to ≤ yi := by omega
        have HR : Hid (sameN (byteS s) x y M = i) := Lib.hid (by rw [← HA.out, show M - i = 0 by omega]; rfl)
        clear HA hxi hyi hb h258 hyt
        go_wp2_with fail
        refine wp_region_anyL (Two 1000 1001 fun _ _ wx => wx = w.drewN (nq + 1)) (by kernel_rfl) rfl ?_
        refine anyL_take (i := 0) (v := ?_) rfl (by kernel_rfl) (by kernel_rfl) (by kernel_rfl) (yl_other (by decide) (by decide) rfl (fun f1 f2 wx hT => ?_)) ?_; rotate_left
        · refine lands_value (w := wx) ?_ hT; go_simp <;> rfl
        simp only [pu]
        refine anyL_take (i := 1) (v := .bool true) rfl (by kernel_rfl) (by kernel_rfl) (by kernel_rfl) (yl_other (by decide) (by decide) rfl (fun f1 f2 wx hT => ?_)) ?_
        · refine lands_value (w := wx) ?_ hT; go_simp; skip
        simp only [pu]
        refine anyL_take (i := 2) (v := ?_) rfl (by kernel_rfl) (by kernel_rfl) (by kernel_rfl) (yl_other (by decide) (by decide) rfl (fun f1 f2 wx hT => ?_)) ?_; rotate_left
        · refine lands_value (w := wx) ?_ hT; go_simp <;> rfl
        simp only [pu]
        refine anyL_take (i := 3) (v := ?_) rfl (by kernel_rfl) (by kernel_rfl) (by kernel_rfl) (yl_other (by decide) (by decide) rfl (fun f1 f2 wx hT => ?_)) ?_; rotate_left
        · refine lands_value (w := wx) ?_ hT; go_simp <;> rfl
        simp only [pu]
        refine anyL_take (i := 4) (v := ?_) rfl (by kernel_rfl) (by kernel_rfl) (by kernel_rfl) (yl_other (by decide) (by decide) rfl (fun f1 f2 wx hT => ?_)) ?_; rotate_left
        · refine lands_value (w := wx) ?_ hT; go_simp <;> rfl
        simp only [pu]
        refine anyL_take (i := 5) (v := .int .i64 (yi : Int)) rfl (by kernel_rfl) (by kernel_rfl) (by kernel_rfl) (yl_other (by decide) (by decide) rfl (fun f1 f2 wx hT => ?_)) ?_
        · refine lands_value (w := wx) ?_ hT; go_simp; skip
        simp only [pu]
        refine anyL_take (i := 6) (v := ?_) rfl (by kernel_rfl) (by kernel_rfl) (by kernel_rfl) (yl_other (by decide) (by decide) rfl (fun f1 f2 wx hT => ?_)) ?_; rotate_left
        · refine lands_value (w := wx) ?_ hT; go_simp <;> rfl
        simp only [pu]
        refine anyL_take (i := 7) (v := .bool false) rfl (by kernel_rfl) (by kernel_rfl) (by kernel_rfl) (yl_other (by decide) (by decide) rfl (fun f1 f2 wx hT => ?_)) ?_
        · refine lands_value (w := wx) ?_ hT; go_simp; skip
        simp only [pu]
        refine anyL_take (i := 8) (v := .bool false) rfl (by kernel_rfl) (by kernel_rfl) (by kernel_rfl) (yl_other (by decide) (by decide) rfl (fun f1 f2 wx hT => ?_)) ?_
        · refine lands_value (w := wx) ?_ hT; go_simp; skip
        simp only [pu]
        refine anyL_take (i := 9) (v := ?_) rfl (by kernel_rfl) (by kernel_rfl) (by kernel_rfl) (yl_other (by decide) (by decide) rfl (fun f1 f2 wx hT => ?_)) ?_; rotate_left
        · refine lands_value (w := wx) ?_ hT; go_simp <;> rfl
        simp only [pu]
        refine anyL_take (i := 10) (v := undef) rfl (by kernel_rfl) (by kernel_rfl) (by kernel_rfl) (yl_skip (by decide) (by decide) rfl) ?_
        simp only [pu]
        refine anyL_take (i := 11) (v := undef) rfl (by kernel_rfl) (by kernel_rfl) (by kernel_rfl) (yl_skip (by decide) (by decide) rfl) ?_
        simp only [pu]
        refine anyL_take (i := 12) (v := undef) rfl (by kernel_rfl) (by kernel_rfl) (by kernel_rfl) (yl_skip (by decide) (by decide) rfl) ?_
        simp only [pu]
        refine anyL_take (i := 13) (v := undef) rfl (by kernel_rfl) (by kernel_rfl) (by kernel_rfl) (yl_skip (by decide) (by decide) rfl) ?_
        simp only [pu]
        refine anyL_take (i := 14) (v := undef) rfl (by kernel_rfl) (by kernel_rfl) (by kernel_rfl) (yl_skip (by decide) (by decide) rfl) ?_
        simp only [pu]
        refine anyL_take (i := 15) (v := undef) rfl (by kernel_rfl) (by kernel_rfl) (by kernel_rfl) (yl_skip (by decide) (by decide) rfl) ?_
        simp only [pu]
        refine anyL_take (i := 16) (v := undef) rfl (by kernel_rfl) (by kernel_rfl) (by kernel_rfl) (yl_skip (by decide) (by decide) rfl) ?_
        simp only [pu]
        refine anyL_take (i := 17) (v := undef) rfl (by kernel_rfl) (by kernel_rfl) (by kernel_rfl) (yl_skip (by decide) (by decide) rfl) ?_
        simp only [pu]
        refine anyL_take (i := 18) (v := undef) rfl (by kernel_rfl) (by kernel_rfl) (by kernel_rfl) (yl_skip (by decide) (by decide) rfl) ?_
        simp only [pu]
        refine anyL_take (i := 19) (v := undef) rfl (by kernel_rfl) (by kernel_rfl) (by kernel_rfl) (yl_skip (by decide) (by decide) rfl) ?_
        simp only [pu]
        refine anyL_take (i := 20) (v := undef) rfl (by kernel_rfl) (by kernel_rfl) (by kernel_rfl) (yl_skip (by decide) (by decide) rfl) ?_
        simp only [pu]
        refine anyL_take (i := 21) (v := .bool false) rfl (by kernel_rfl) (by kernel_rfl) (by kernel_rfl) (yl_other (by decide) (by decide) rfl (fun f1 f2 wx hT => ?_)) ?_
        · refine lands_value (w := wx) ?_ hT; go_simp; skip
        simp only [pu]
        refine anyL_done rfl ?_ _
        intro w2 hT2
        subst hT2
        go_wp2_with fail
        go_ret
        exact ⟨by rw [HR.out]; rfl, nq + 1, rfl⟩
    · have h258i : ¬ (i : Int) < 258 := by omega
      have h2582 : 258 ≤ i := by omega
      have HR : Hid (sameN (byteS s) x y M = i) := Lib.hid (by rw [← HA.out, show M - i = 0 by omega]; rfl)
      clear HA hxi hyi hb h258
      go_wp2_with fail
      refine wp_region_anyL (Two 1000 1001 fun _ _ wx => wx = w.drewN (nq + 1)) (by kernel_rfl) rfl ?_
      refine anyL_take (i := 0) (v := ?_) rfl (by kernel_rfl) (by kernel_rfl) (by kernel_rfl) (yl_other (by decide) (by decide) rfl (fun f1 f2 wx hT => ?_)) ?_; rotate_left
      · refine lands_value (w := wx) ?_ hT; go_simp <;> rfl
      simp only [pu]
      refine anyL_take (i := 1) (v := .bool false) rfl (by kernel_rfl) (by kernel_rfl) (by kernel_rfl) (yl_other (by decide) (by decide) rfl (fun f1 f2 wx hT => ?_)) ?_
      · refine lands_value (w := wx) ?_ hT; go_simp; skip
      simp only [pu]
      refine anyL_take (i := 2) (v := ?_) rfl (by kernel_rfl) (by kernel_rfl) (by kernel_rfl) (yl_other (by decide) (by decide) rfl (fun f1 f2 wx hT => ?_)) ?_; rotate_left
      · refine lands_value (w := wx) ?_ hT; go_simp <;> rfl
      simp only [pu]
      refine anyL_take (i := 3) (v := undef) rfl (by kernel_rfl) (by kernel_rfl) (by kernel_rfl) (yl_skip (by decide) (by decide) rfl) ?_
      simp only [pu]
      refine anyL_take (i := 4) (v := undef) rfl (by kernel_rfl) (by kernel_rfl) (by kernel_rfl) (yl_skip (by decide) (by decide) rfl) ?_
      simp only [pu]
      refine anyL_take (i := 5) (v := undef) rfl (by kernel_rfl) (by kernel_rfl) (by kernel_rfl) (yl_skip (by decide) (by decide) rfl) ?_
      simp only [pu]
      refine anyL_take (i := 6) (v := undef) rfl (by kernel_rfl) (by kernel_rfl) (by kernel_rfl) (yl_skip (by decide) (by decide) rfl) ?_
      simp only [pu]
      refine anyL_take (i := 7) (v := undef) rfl (by kernel_rfl) (by kernel_rfl) (by kernel_rfl) (yl_skip (by decide) (by decide) rfl) ?_
      simp only [pu]
      refine anyL_take (i := 8) (v := .bool false) rfl (by kernel_rfl) (by kernel_rfl) (by kernel_rfl) (yl_other (by decide) (by decide) rfl (fun f1 f2 wx hT => ?_)) ?_
      · refine lands_value (w := wx) ?_ hT; go_simp; skip
      simp only [pu]
      refine anyL_take (i := 9) (v := ?_) rfl (by kernel_rfl) (by kernel_rfl) (by kernel_rfl) (yl_other (by decide) (by decide) rfl (fun f1 f2 wx hT => ?_)) ?_; rotate_left
      · refine lands_value (w := wx) ?_ hT; go_simp <;> rfl
      simp only [pu]
      refine anyL_take (i := 10) (v := undef) rfl (by kernel_rfl) (by kernel_rfl) (by kernel_rfl) (yl_skip (by decide) (by decide) rfl) ?_
      simp only [pu]
      refine anyL_take (i := 11) (v := undef) rfl (by kernel_rfl) (by kernel_rfl) (by kernel_rfl) (yl_skip (by decide) (by decide) rfl) ?_
      simp only [pu]
      refine anyL_take (i := 12) (v := undef) rfl (by kernel_rfl) (by kernel_rfl) (by kernel_rfl) (yl_skip (by decide) (by decide) rfl) ?_
      simp only [pu]
      refine anyL_take (i := 13) (v := undef) rfl (by kernel_rfl) (by kernel_rfl) (by kernel_rfl) (yl_skip (by decide) (by decide) rfl) ?_
      simp only [pu]
      refine anyL_take (i := 14) (v := undef) rfl (by kernel_rfl) (by kernel_rfl) (by kernel_rfl) (yl_skip (by decide) (by decide) rfl) ?_
      simp only [pu]
      refine anyL_take (i := 15) (v := undef) rfl (by kernel_rfl) (by kernel_rfl) (by kernel_rfl) (yl_skip (by decide) (by decide) rfl) ?_
      simp only [pu]
      refine anyL_take (i := 16) (v := undef) rfl (by kernel_rfl) (by kernel_rfl) (by kernel_rfl) (yl_skip (by decide) (by decide) rfl) ?_
      simp only [pu]
      refine anyL_take (i := 17) (v := undef) rfl (by kernel_rfl) (by kernel_rfl) (by kernel_rfl) (yl_skip (by decide) (by decide) rfl) ?_
      simp only [pu]
      refine anyL_take (i := 18) (v := undef) rfl (by kernel_rfl) (by kernel_rfl) (by kernel_rfl) (yl_skip (by decide) (by decide) rfl) ?_
      simp only [pu]
      refine anyL_take (i := 19) (v := undef) rfl (by kernel_rfl) (by kernel_rfl) (by kernel_rfl) (yl_skip (by decide) (by decide) rfl) ?_
      simp only [pu]
      refine anyL_take (i := 20) (v := undef) rfl (by kernel_rfl) (by kernel_rfl) (by kernel_rfl) (yl_skip (by decide) (by decide) rfl) ?_
      simp only [pu]
      refine anyL_take (i := 21) (v := .bool false) rfl (by kernel_rfl) (by kernel_rfl) (by kernel_rfl) (yl_other (by decide) (by decide) rfl (fun f1 f2 wx hT => ?_)) ?_
      · refine lands_value (w := wx) ?_ hT; go_simp; skip
      simp only [pu]
      refine anyL_done rfl ?_ _
      intro w2 hT2
      subst hT2
      go_wp2_with fail
      go_ret
      exact ⟨by rw [HR.out]; rfl, nq + 1, rfl⟩
end Go.Proofs.Ytjdfdiejlmeeoaa
/- Chapter 11's reference: Tokens. -/
namespace Go.Proofs.Ytjdfdiejlmeeoaa
open Go.RowKit
/-- engrosserref11.Token: in the table of types. -/
theorem infoTr : (Try.prog.info? 29).map (fun i => (i.zero, i.size, i.bytes)) = some (some (.agg #[.int .i64 0, .int .i64 0]), 2, 16) := by kernel_rfl
/-- append(s, x..): more of them. -/
theorem wpList_moreTr {ops : Array Oper} {rest : List Oper} {o : Oper} {a : Act} {Q : Exit → Act → World → Prop} {B : Nat} {w0 w : World} {l : List (List Value)} {v : Value} (hgd : o.guard = none) (s x : Operand) (T : TypeId) (hT : Try.prog.underlying T = Try.prog.underlying 25)
    (ho : o.op = .call { callee := .builtin .append, args := #[s, x], argTypes := #[T, T] }) (hs : a.eval s = v) (h : LS 29 2 B w0 l v w) (ad : Addr) (m c : Nat) (xs : List (List Value))
    (hx : a.eval x = .slice (some ad) m c) (hm : xs.length = m) (hz : Each 2 xs) (hc : ∀ j u, xs.flatten[j]? = some u → w.cell? (ad.add j) = some u) (hm0 : 0 < m) (hn : l.length + m ≤ 1000000000000)
    (k : ∀ v' w', LS 29 2 B w0 (l ++ xs) v' w' → Gr v w v' w' → wpList Try.prog ops Q rest (a.put o.dst v') w') :
    wpList Try.prog ops Q (o :: rest) a w := by
  obtain ⟨i0, hi, hz0, hz1, hz2⟩ := info_parts infoTr
  refine wpList_append_lies _ hgd s x T ho B 29 i0 (.agg #[.int .i64 0, .int .i64 0]) 2 16 (hT.trans Try.underlying25) hi hz0 hz1 hz2 rfl (by decide) v l.length _ hs h.own ad m c xs.flatten hx (by rw [hz.len, hm]) hc hz.one hm0 (by unfold maxLen; omega) (by omega) h.lo _ rfl ?_
  intro q cap w2 hown hg hat hlt
  have hG : Gr v w (.slice (some ⟨q, 0, none⟩) (l.length + m) cap) w2 := ⟨hg.os, hg.tape, hg.output, hg.size, fun i hi hv => hg.block i hi (fun e => hv e.symm), fun i e => by
    have e : q = i := by injection e
    rcases hat with h1 | h1
    · exact .inl (by rw [h1, e])
    · right; omega⟩
  refine k _ w2 ⟨?_, h.each.app hz, below_gr h.b hG (fun i e => (h.ownB i e).1) h.lo, Nat.le_trans h.lo hg.size⟩ hG
  rw [List.length_append, List.flatten_append, hm]; exact hown
/-- append(s, x): one more, that was laid just now. -/
theorem wpList_oneTr {ops : Array Oper} {rest : List Oper} {o : Oper} {a : Act} {Q : Exit → Act → World → Prop} {B : Nat} {w0 w : World} {l : List (List Value)} {v : Value} (hgd : o.guard = none) (s x : Operand) (T : TypeId) (hT : Try.prog.underlying T = Try.prog.underlying 25)
    (ho : o.op = .call { callee := .builtin .append, args := #[s, x], argTypes := #[T, T] }) (hs : a.eval s = v) (h : LS 29 2 B w0 l v w) (c0 : Int) (c1 : Int)
    (hx : a.eval x = .slice (some ⟨w.heap.size, 0, none⟩) 1 1) (hn : l.length ≤ 999999999999)
    (k : ∀ v' w', LS 29 2 B w0 (l ++ [encTk c0 c1]) v' w' → Gr v w v' w' → wpList Try.prog ops Q rest (a.put o.dst v') w') :
    wpList Try.prog ops Q (o :: rest) a (w.alloc (.cells #[.int .i64 c0, .int .i64 c1] 29)) :=
  wpList_moreTr hgd s x T hT ho hs (h.below ((Below.refl _ _).alloc (Nat.le_refl _) _)) ⟨w.heap.size, 0, none⟩ 1 1 [encTk c0 c1] hx rfl (eachTk c0 c1) (fun j u hu => new_cells w #[.int .i64 c0, .int .i64 c1] 29 j u (by simpa [encTk] using hu)) (by decide) (by omega) fun v' w' h2 h3 => k v' w' h2 ((Gr.of ((Below.refl _ _).alloc (Nat.le_refl _) _)).trans h3)
theorem text_beq {a b : ByteArray} (h : a = b) : (a.toList == b.toList) = true := by rw [h]; exact beq_self_eq_true _
theorem text_bne {a b : ByteArray} (h : a ≠ b) : (a.toList == b.toList) = false := beq_eq_false_iff_ne.2 fun e => h (by
  rw [ByteArray.toList_eq, ByteArray.toList_eq] at e
  cases a; cases b
  exact congrArg ByteArray.mk (Array.toList_inj.1 e))
theorem tokenR_size : (Try.prog.info? 29).map (·.size) = some 2 := by kernel_rfl
theorem rTokens_not (s : ByteArray) (from_ to : Int) (w : World) (h : from_ < 0 ∨ to < from_ ∨ to > (s.size : Int)) :
    Calls Try.prog 10 #[.string s, .int .i64 from_, .int .i64 to] w fun e w' => e = .returned (.slice none 0 0) ∧ w = w' := by
  by_cases h1 : from_ < 0
  · clear h
    go_enter Try.func10, Try.ntmps10
    go_wp2_with fail
    go_ret
    exact ⟨rfl, rfl⟩
  · by_cases h2 : to < from_
    · clear h
      go_enter Try.func10, Try.ntmps10
      go_wp2_with fail
      go_ret
      exact ⟨rfl, rfl⟩
    · have h3 : to > (s.size : Int) := by omega
      clear h
      go_enter Try.func10, Try.ntmps10
      go_wp2_with fail
      go_ret
      exact ⟨rfl, rfl⟩
set_option maxRecDepth 100000 in
set_option maxHeartbeats 16000000 in
theorem rTokens_any (s : ByteArray) (from_ to : Nat) (w : World) (h1 : from_ ≤ to) (h2 : to ≤ s.size) (hs : s.size ≤ 281474976710656) (hd : to - from_ < 1000000) :
    Calls Try.prog 10 #[.string s, .int .i64 (from_ : Int), .int .i64 (to : Int)] w fun e w' => ∃ v, e = .returned v ∧ LS 29 2 w.heap.size w ((toksV (byteS (s.extract 0 to)) from_ to).map encT) v w' := by
  obtain ⟨S, hS⟩ : ∃ S, S = s.extract 0 to := ⟨_, rfl⟩
  have hSz : S.size = to := by rw [hS, ByteArray.size_extract]; omega
  obtain ⟨lo, hlo⟩ : ∃ lo, lo = from_ - 32768 := ⟨_, rfl⟩
  have HTV : Hid (toksV (byteS S) from_ to = toksG (byteS S) lo to (to - from_) from_) := Lib.hid (by unfold toksV; rw [← hlo])
  rw [← hS]
  have hf0 : ¬ (from_ : Int) < 0 := by omega
  have hf1 : ¬ (to : Int) < (from_ : Int) := by omega
  have hf2 : ¬ (to : Int) > (s.size : Int) := by omega
  have HTB := Lib.hid (⟨h1, h2, hs, hd, hlo⟩ : from_ ≤ to ∧ to ≤ s.size ∧ s.size ≤ 281474976710656 ∧ to - from_ < 1000000 ∧ lo = from_ - 32768)
  have HSZ := Lib.hid tokenR_size
  have HS := Lib.hid hS
  have HBS : Hid (∀ j, j < to → byteS s j = byteS S j) := Lib.hid fun j hj => by rw [hS, byteS_ext s 0 to j h2 (by omega), Nat.zero_add]
  have HL0 : Hid (LS 29 2 w.heap.size w [] (.slice none 0 0) w) := Lib.hid (LS.nil (Below.refl _ _) (Nat.le_refl _))
  clear hS hlo hSz h1 h2 hs hd
  go_enter Try.func10, Try.ntmps10
  go_wp2_with fail
  clear hf0 hf1 hf2
  go_loopg [7, 8] (to - from_) (fun gk u7 u8 wr => ∃ (a : Nat) (v : Value) (l : List (List Value)), v = u7 ∧ gk = to - a ∧ u8 = .int .i64 (a : Int) ∧ a ≤ to ∧ from_ ≤ a ∧ l.length + from_ ≤ a ∧ Hid ((toksV (byteS S) from_ to).map encT = l ++ (toksG (byteS S) lo to (to - a) a).map encT) ∧ Hid (LS 29 2 w.heap.size w l v wr))
  case atStart => exact ⟨from_, _, [], rfl, rfl, rfl, HTB.out.1, Nat.le_refl _, by simp, Lib.hid (by rw [HTV.out]; rfl), HL0⟩
  case round =>
    obtain ⟨a, v, l, rfl, hgk, rfl, ha, hfa, hll, HK, HR⟩ := hrel
    clear HL0
    by_cases hlt : a < to
    · have hlti : (a : Int) < (to : Int) := by omega
      have hok := bestS_ok (byteS_lt S) lo (to := to) hlt
      have HK2 : Hid ((toksV (byteS S) from_ to).map encT = (l ++ [encT (bestS (byteS S) lo to a)]) ++ (toksG (byteS S) lo to (to - (a + (bestS (byteS S) lo to a).1)) (a + (bestS (byteS S) lo to a).1)).map encT) := Lib.hid (by
        rw [HK.out, show to - a = to - a - 1 + 1 by omega, toksG_one hlt, toksG_more (byteS_lt S) lo to (to - a - 1) (to - (a + (bestS (byteS S) lo to a).1)) _ (by have := hok.1; omega) (by omega)]
        simp)
      have HSK0 : Hid (seekG (byteS S) to a a 0 (1, 0) = bestS (byteS S) lo to a) := Lib.hid (seek_best (by have := HTB.out; omega))
      generalize bestS (byteS S) lo to a = bt at hok HK2 HSK0
      obtain ⟨X, Y⟩ := bt
      have hx1 : 1 ≤ X ∧ a + X ≤ to ∧ X ≤ 258 := ⟨hok.1, hok.2.1, hok.2.2.1⟩
      dsimp only at HK2
      have HX := Lib.hid (⟨hx1, hlt, hgk, hfa, hll⟩ : (1 ≤ X ∧ a + X ≤ to ∧ X ≤ 258) ∧ a < to ∧ gk = to - a ∧ from_ ≤ a ∧ l.length + from_ ≤ a)
      have hw : IntKind.i64.wrap ((a : Int) + (X : Int)) = ((a + X : Nat) : Int) := by have := HTB.out; rw [IntWalk.i64_in _ (by omega)]; rfl
      have hwa1 : IntKind.i64.wrap ((a : Int) - 1) = (a : Int) - 1 := by have := HTB.out; exact IntWalk.i64_in _ (by omega)
      have hwa2 : IntKind.i64.wrap ((a : Int) - 32768) = (a : Int) - 32768 := by have := HTB.out; exact IntWalk.i64_in _ (by omega)
      have HLN : Hid (l.length ≤ 999999999999) := Lib.hid (by have := HTB.out; omega)
      have HZ := Lib.hid (Blk.new wr 29 #[.int .i64 0, .int .i64 0])
      have HZ2 := Lib.hid (HZ.out.row_ #[.int .i64 1, .int .i64 0])
      have HB2 := Lib.hid (below_setRow' ((Below.refl _ wr).alloc (Nat.le_refl _) (.cells #[.int .i64 0, .int .i64 0] 29)) (Nat.le_refl _) #[.int .i64 1, .int .i64 0])
      obtain ⟨W2, hW2⟩ : ∃ W2, W2 = (wr.alloc (.cells #[.int .i64 0, .int .i64 0] 29)).setRow wr.heap.size #[.int .i64 1, .int .i64 0] := ⟨_, rfl⟩
      rw [← hW2] at HZ2 HB2
      have HWE := Lib.hid hW2
      obtain ⟨q, hq⟩ : ∃ q, q = wr.heap.size := ⟨_, rfl⟩
      rw [← hq] at HZ2 HB2
      have HQE := Lib.hid hq
      clear hok hx1 hlt hgk hll hW2 hq HK
      go_wp2_with (refine wpList_store_row rfl 29 _ _ rfl wr.heap.size #[.int .i64 1, .int .i64 0] rfl rfl 29 _ HZ.out HSZ.out rfl (two_one2 _ _) ?_; rw [← HWE.out, ← HQE.out])
      clear HZ HWE
      obtain ⟨wo, hwo⟩ : ∃ wo, wo = wr := ⟨_, rfl⟩
      rw [← hwo] at HB2 HQE HR
      clear hwo
      go_loopw [10, 11] (fun u10 u11 wk => ∃ (met kk x y : Nat) (z : Int), u10 = .int .i64 (met : Int) ∧ u11 = .int .i64 z ∧ z = (kk : Int) - 1 ∧ kk ≤ a ∧ met ≤ 16 ∧ Hid (seekG (byteS S) to a kk met (x, y) = (X, Y)) ∧ Hid (Below q wo wk) ∧ Hid (Blk wk q 29 #[.int .i64 (x : Int), .int .i64 (y : Int)]) ∧ x ≤ 258) (fun _ u _ => (intOf u + 1).toNat)
      case atStart => exact ⟨0, a, 1, 0, (a : Int) - 1, rfl, rfl, rfl, Nat.le_refl _, by decide, HSK0, HB2, HZ2, by decide⟩
      case round =>
        obtain ⟨met, kk, x, y, z, rfl, rfl, hz, hka, hmet, HSK, HBW, HQ, hxb⟩ := hrel
        clear HZ2 HB2 HSK0
        have hTB := HTB.out
        rcases kk with _ | k
        · obtain rfl : z = -1 := by omega
          clear hz
          have hz1 : ¬ (-1 : Int) ≥ 0 := by decide
          have hz2 : ¬ (0 : Int) ≤ -1 := by decide
          have HXY : Hid (X = x ∧ Y = y) := Lib.hid (by
            have h := HSK.out
          
            exact ⟨(congrArg Prod.fst h).symm, (congrArg Prod.snd h).symm⟩)
          have HLS : Hid (LS 29 2 w.heap.size w l v wr) := Lib.hid (HR.out.below (by have := HBW.out; rwa [HQE.out] at this))
          have HQN : Hid (v.ownBlock ≠ some q) := Lib.hid fun e => by have := (HR.out.ownB _ e).2; have := HQE.out; omega
          obtain rfl : X = x := HXY.out.1
          obtain rfl : Y = y := HXY.out.2
          clear HSK HBW HR
          go_wp2_with (first | (refine wpList_load_row rfl 29 (.tmp 9) rfl q rfl 29 _ (0, 0) _ HQ.out Try.underlying29 rfl HSZ.out ?_) | (at_builtin; refine wpList_oneTr rfl (.tmp 80) (.tmp 82) 25 rfl rfl rfl HLS.out (X : Int) (Y : Int) rfl HLN.out ?_; intro v9 w9 h9 g9; have H9 : Hid (LS 29 2 w.heap.size w (l ++ [encT (X, Y)]) v9 w9) := Lib.hid h9; have c9 : w9.cell? ⟨q, 0, none⟩ = some (.int .i64 (X : Int)) := (HQ.out.gr g9 HQN.out).cell 0; clear h9 g9))
          go_roundg (to - (a + X))
          case measure => have := HX.out; omega
          case rel => exact ⟨a + X, _, l ++ [encT (X, Y)], rfl, rfl, by go_num, by have := HX.out; omega, by have := HX.out; omega, by rw [List.length_append]; have := HX.out; show l.length + 1 + from_ ≤ a + X; omega, HK2, H9⟩
        · obtain rfl : z = (k : Int) := by omega
          clear hz
          have hz0 : (k : Int) ≥ 0 := by omega
          by_cases hA : a ≤ k + 32768
          · by_cases hM : met < 16
            · by_cases hT3 : a + 3 ≤ to
              · have hAi : (k : Int) ≥ (a : Int) - 32768 := by omega
                have hMi : (met : Int) < 16 := by omega
                have hT3i : ((a + 3 : Nat) : Int) ≤ (to : Int) := by omega
                have hw3 : IntKind.i64.wrap ((a : Int) + 3) = ((a + 3 : Nat) : Int) := by rw [IntWalk.i64_in _ (by omega)]; rfl
                have hwk3 : IntKind.i64.wrap ((k : Int) + 3) = ((k + 3 : Nat) : Int) := by rw [IntWalk.i64_in _ (by omega)]; rfl
                have hwk1 : IntKind.i64.wrap ((k : Int) - 1) = (k : Int) - 1 := IntWalk.i64_in _ (by omega)
                have hwm : IntKind.i64.wrap ((met : Int) + 1) = ((met + 1 : Nat) : Int) := by rw [IntWalk.i64_in _ (by omega)]; rfl
                have hwak : IntKind.i64.wrap ((a : Int) - (k : Int)) = ((a - k : Nat) : Int) := by rw [IntWalk.i64_in _ (by omega)]; omega
                have hs1 : (k : Int) ≤ ((k + 3 : Nat) : Int) := by omega
                have hs2 : ((k + 3 : Nat) : Int) ≤ (s.size : Int) := by omega
                have hs3 : (a : Int) ≤ ((a + 3 : Nat) : Int) := by omega
                have hs4 : ((a + 3 : Nat) : Int) ≤ (s.size : Int) := by omega
                have hs5 : (0 : Int) ≤ ((k + 3 : Nat) : Int) := by omega
                have hs6 : (0 : Int) ≤ ((a + 3 : Nat) : Int) := by omega
                have hs7 : k ≤ k + 3 ∧ k + 3 ≤ s.size ∧ a + 3 ≤ s.size := by omega
                have HTHQ := Lib.hid (cut_th (k := k) (i := a) HS.out (by omega) (by omega) hT3)
                by_cases hth : th (byteS S) k = th (byteS S) a
                · have HE : Hid (((s.extract k (k + 3)).toList == (s.extract a (a + 3)).toList) = true) := Lib.hid (text_beq (HTHQ.out.2 hth))
                  have hE := HE.out
                  go_wp2_with fail
                  go_quiet (fail)
                  have HBn : Hid (Below q wo (wr.drewN nq)) := Lib.hid (belowN HBW.out _)
                  obtain ⟨m, hm⟩ : ∃ m, m = sameN (byteS S) k a (min (to - a) 258) := ⟨_, rfl⟩
                  have HMN := Lib.hid hm
                  have HMB : Hid (m ≤ 258) := Lib.hid (by rw [hm]; have := sameN_le (byteS S) k a (min (to - a) 258); omega)
                  have C := rsame_any s k a to (min (to - a) 258) (wr.drewN nq) (by omega) (by omega) (by omega) (by omega) rfl
                  rw [sameN_congr HBS.out (show k ≤ a by omega) (show a + min (to - a) 258 ≤ to by omega), ← hm] at C
                  clear hm hE HE
                  go_wp2_with fail
                  refine C.mono ?_
                  rintro e w5 ⟨rfl, n5, rfl⟩
                  replace HBn : Hid (Below q wo ((wr.drewN nq).drewN n5)) := Lib.hid (belowN HBn.out _)
                  have HQn : Hid (Blk ((wr.drewN nq).drewN n5) q 29 #[.int .i64 (x : Int), .int .i64 (y : Int)]) := Lib.hid (HQ.out.drewN_ (nq + n5))
                  clear C HBW HQ
                  generalize (wr.drewN nq).drewN n5 = wn at HBn HQn ⊢
                  by_cases hb : x < m
                  · have hg : (m : Int) > (x : Int) := by omega
                    have HSK2 : Hid (seekG (byteS S) to a k (met + 1) (m, a - k) = (X, Y)) := Lib.hid (by
                      have h := HSK.out
                      unfold seekG at h
                      rw [if_pos ⟨hA, hM, hT3⟩, if_pos hth, ← HMN.out, if_pos (show x < m by omega)] at h
                      exact h)
                    have c0 : wn.cell? ⟨q, 0, none⟩ = some (.int .i64 (x : Int)) := HQn.out.cell 0
                    clear HSK hth
                    go_wp2_with (refine wpList_store_row rfl 29 _ _ rfl q #[.int .i64 (m : Int), .int .i64 ((a - k : Nat) : Int)] rfl rfl 29 _ HQn.out HSZ.out rfl (two_one2 _ _) ?_)
                    exact ⟨⟨met + 1, k, m, a - k, (k : Int) - 1, by go_num, by go_num, rfl, by omega, by omega, HSK2, Lib.hid (below_setRow' HBn.out (Nat.le_refl _) _), Lib.hid (HQn.out.row_ _), HMB.out⟩, by simp only [intOf]; omega⟩
                  · have hg : ¬ (m : Int) > (x : Int) := by omega
                    have HSK2 : Hid (seekG (byteS S) to a k (met + 1) (x, y) = (X, Y)) := Lib.hid (by
                      have h := HSK.out
                      unfold seekG at h
                      rw [if_pos ⟨hA, hM, hT3⟩, if_pos hth, ← HMN.out, if_neg (show ¬ x < m by omega)] at h
                      exact h)
                    have c0 : wn.cell? ⟨q, 0, none⟩ = some (.int .i64 (x : Int)) := HQn.out.cell 0
                    clear HSK hth
                    go_wp2_with fail
                    exact ⟨⟨met + 1, k, x, y, (k : Int) - 1, by go_num, by go_num, rfl, by omega, by omega, HSK2, HBn, HQn, hxb⟩, by simp only [intOf]; omega⟩
                · have HE : Hid (((s.extract k (k + 3)).toList == (s.extract a (a + 3)).toList) = false) := Lib.hid (text_bne fun h => hth (HTHQ.out.1 h))
                  have hE := HE.out
                  have HSK2 : Hid (seekG (byteS S) to a k met (x, y) = (X, Y)) := Lib.hid (by
                    have h := HSK.out
                    unfold seekG at h
                    rw [if_pos ⟨hA, hM, hT3⟩, if_neg hth] at h
                    exact h)
                  clear HSK hth
                  go_wp2_with fail
                  go_quiet (fail)
                  go_wp2_with fail
                  exact ⟨⟨met, k, x, y, (k : Int) - 1, rfl, by go_num, rfl, by omega, hmet, HSK2, Lib.hid (belowN HBW.out _), Lib.hid (HQ.out.drewN_ _), hxb⟩, by simp only [intOf]; omega⟩
              · have hAi : (k : Int) ≥ (a : Int) - 32768 := by omega
                have hMi : (met : Int) < 16 := by omega
                have hw3 : IntKind.i64.wrap ((a : Int) + 3) = ((a + 3 : Nat) : Int) := by rw [IntWalk.i64_in _ (by omega)]; rfl
                have hT3i : ¬ ((a + 3 : Nat) : Int) ≤ (to : Int) := by omega
                have HXY : Hid (X = x ∧ Y = y) := Lib.hid (by
                  have h := HSK.out
                  unfold seekG at h
                  rw [if_neg (fun hh => hT3 hh.2.2)] at h
                  exact ⟨(congrArg Prod.fst h).symm, (congrArg Prod.snd h).symm⟩)
                have HLS : Hid (LS 29 2 w.heap.size w l v wr) := Lib.hid (HR.out.below (by have := HBW.out; rwa [HQE.out] at this))
                have HQN : Hid (v.ownBlock ≠ some q) := Lib.hid fun e => by have := (HR.out.ownB _ e).2; have := HQE.out; omega
                obtain rfl : X = x := HXY.out.1
                obtain rfl : Y = y := HXY.out.2
                clear HSK HBW HR
                go_wp2_with (first | (refine wpList_load_row rfl 29 (.tmp 9) rfl q rfl 29 _ (0, 0) _ HQ.out Try.underlying29 rfl HSZ.out ?_) | (at_builtin; refine wpList_oneTr rfl (.tmp 80) (.tmp 82) 25 rfl rfl rfl HLS.out (X : Int) (Y : Int) rfl HLN.out ?_; intro v9 w9 h9 g9; have H9 : Hid (LS 29 2 w.heap.size w (l ++ [encT (X, Y)]) v9 w9) := Lib.hid h9; have c9 : w9.cell? ⟨q, 0, none⟩ = some (.int .i64 (X : Int)) := (HQ.out.gr g9 HQN.out).cell 0; clear h9 g9))
                go_roundg (to - (a + X))
                case measure => have := HX.out; omega
                case rel => exact ⟨a + X, _, l ++ [encT (X, Y)], rfl, rfl, by go_num, by have := HX.out; omega, by have := HX.out; omega, by rw [List.length_append]; have := HX.out; show l.length + 1 + from_ ≤ a + X; omega, HK2, H9⟩
            · have hAi : (k : Int) ≥ (a : Int) - 32768 := by omega
              have hMi : ¬ (met : Int) < 16 := by omega
              have HXY : Hid (X = x ∧ Y = y) := Lib.hid (by
                have h := HSK.out
                unfold seekG at h
                rw [if_neg (fun hh => hM hh.2.1)] at h
                exact ⟨(congrArg Prod.fst h).symm, (congrArg Prod.snd h).symm⟩)
              have HLS : Hid (LS 29 2 w.heap.size w l v wr) := Lib.hid (HR.out.below (by have := HBW.out; rwa [HQE.out] at this))
              have HQN : Hid (v.ownBlock ≠ some q) := Lib.hid fun e => by have := (HR.out.ownB _ e).2; have := HQE.out; omega
              obtain rfl : X = x := HXY.out.1
              obtain rfl : Y = y := HXY.out.2
              clear HSK HBW HR
              go_wp2_with (first | (refine wpList_load_row rfl 29 (.tmp 9) rfl q rfl 29 _ (0, 0) _ HQ.out Try.underlying29 rfl HSZ.out ?_) | (at_builtin; refine wpList_oneTr rfl (.tmp 80) (.tmp 82) 25 rfl rfl rfl HLS.out (X : Int) (Y : Int) rfl HLN.out ?_; intro v9 w9 h9 g9; have H9 : Hid (LS 29 2 w.heap.size w (l ++ [encT (X, Y)]) v9 w9) := Lib.hid h9; have c9 : w9.cell? ⟨q, 0, none⟩ = some (.int .i64 (X : Int)) := (HQ.out.gr g9 HQN.out).cell 0; clear h9 g9))
              go_roundg (to - (a + X))
              case measure => have := HX.out; omega
              case rel => exact ⟨a + X, _, l ++ [encT (X, Y)], rfl, rfl, by go_num, by have := HX.out; omega, by have := HX.out; omega, by rw [List.length_append]; have := HX.out; show l.length + 1 + from_ ≤ a + X; omega, HK2, H9⟩
          · have hAi : ¬ (k : Int) ≥ (a : Int) - 32768 := by omega
            have HXY : Hid (X = x ∧ Y = y) := Lib.hid (by
              have h := HSK.out
              unfold seekG at h
              rw [if_neg (fun hh => hA hh.1)] at h
              exact ⟨(congrArg Prod.fst h).symm, (congrArg Prod.snd h).symm⟩)
            have HLS : Hid (LS 29 2 w.heap.size w l v wr) := Lib.hid (HR.out.below (by have := HBW.out; rwa [HQE.out] at this))
            have HQN : Hid (v.ownBlock ≠ some q) := Lib.hid fun e => by have := (HR.out.ownB _ e).2; have := HQE.out; omega
            obtain rfl : X = x := HXY.out.1
            obtain rfl : Y = y := HXY.out.2
            clear HSK HBW HR
            go_wp2_with (first | (refine wpList_load_row rfl 29 (.tmp 9) rfl q rfl 29 _ (0, 0) _ HQ.out Try.underlying29 rfl HSZ.out ?_) | (at_builtin; refine wpList_oneTr rfl (.tmp 80) (.tmp 82) 25 rfl rfl rfl HLS.out (X : Int) (Y : Int) rfl HLN.out ?_; intro v9 w9 h9 g9; have H9 : Hid (LS 29 2 w.heap.size w (l ++ [encT (X, Y)]) v9 w9) := Lib.hid h9; have c9 : w9.cell? ⟨q, 0, none⟩ = some (.int .i64 (X : Int)) := (HQ.out.gr g9 HQN.out).cell 0; clear h9 g9))
            go_roundg (to - (a + X))
            case measure => have := HX.out; omega
            case rel => exact ⟨a + X, _, l ++ [encT (X, Y)], rfl, rfl, by go_num, by have := HX.out; omega, by have := HX.out; omega, by rw [List.length_append]; have := HX.out; show l.length + 1 + from_ ≤ a + X; omega, HK2, H9⟩
    · obtain rfl : a = to := by omega
      have hlti : ¬ (a : Int) < (a : Int) := by omega
      have HE : Hid ((toksV (byteS S) from_ a).map encT = l) := Lib.hid (by rw [HK.out, Nat.sub_self]; simp [toksG])
      clear HK
      go_wp2_with fail
      go_ret
      rw [HE.out]
      exact ⟨_, rfl, HR.out⟩
end Go.Proofs.Ytjdfdiejlmeeoaa
