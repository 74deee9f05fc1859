/- Chapter 11's reference: run. -/
import Derived.Test.YtjdfdiejlmeeoaaNA
import Derived.Test.YtjdfdiejlmeeoaaNB
namespace Go.Proofs.Ytjdfdiejlmeeoaa
open Go.RowKit
set_option maxRecDepth 100000 in
set_option maxHeartbeats 8000000 in
theorem rrun_any (p : Option Addr) (n cap : Nat) (f : Nat → Int) (a most : Nat) (w : World) (h : IS p n cap f w) (ha : a < n) (hn : n ≤ 17592186044416) (hm : most ≤ 1000) :
    Calls Try.prog 19 #[.slice p n cap, .int .i64 (a : Int), .int .i64 (most : Int)] w fun e w' => e = .returned (.int .i64 (ali f n a most : Int)) ∧ ∃ nq, w' = w.drewN nq := by
  have HI := Lib.hid h
  have HB := Lib.hid (⟨ha, hn, hm⟩ : a < n ∧ n ≤ 17592186044416 ∧ most ≤ 1000)
  obtain ⟨pa, rfl⟩ : ∃ b, p = some b := by
    cases p with
    | none => have := (h.nil_ rfl).1; omega
    | some b => exact ⟨b, rfl⟩
  clear h ha hn hm
  go_enter Try.func19, Try.ntmps19
  go_wp2_with fail
  go_loopw [7] (fun k wr => ∃ i nq : Nat, k = .int .i64 (i : Int) ∧ i ≤ most ∧ Hid (aliG f n a i (most - i) = ali f n a most) ∧ wr = w.drewN nq) (fun k _ => most - (intOf k).toNat)
  case atStart => exact ⟨0, 0, rfl, Nat.zero_le _, Lib.hid rfl, rfl⟩
  case round =>
    obtain ⟨i, nq, rfl, hi, HA, rfl⟩ := hrel
    have hb := HB.out
    obtain ⟨j, hj⟩ : ∃ j, j = a + i := ⟨_, rfl⟩
    have hw : IntKind.i64.wrap ((a : Int) + (i : Int)) = (j : Int) := by rw [IntWalk.i64_in _ (by omega)]; omega
    have hkw : IntKind.i64.wrap ((i : Int) + 1) = ((i + 1 : Nat) : Int) := by rw [IntWalk.i64_in _ (by omega)]; rfl
    have hai : (a : Int) < (n : Int) := by omega
    have HCA : Hid (w.cell? (pa.add a) = some (.int .i64 (f a))) := Lib.hid (HI.out.cell pa rfl a hb.1)
    have HCJ : Hid (j < n → w.cell? (pa.add j) = some (.int .i64 (f j))) := Lib.hid fun h => HI.out.cell pa rfl j h
    by_cases hjn : j < n
    · have hjni : (j : Int) < (n : Int) := by omega
      replace HCJ := Lib.hid (HCJ.out hjn)
      by_cases him : i < most
      · have himi : (i : Int) < (most : Int) := by omega
        have HS : Hid (most - i = (most - (i + 1)) + 1) := Lib.hid (by omega)
        have HIM := Lib.hid him
        by_cases he : f j = f a
        · have HA2 : Hid (aliG f n a (i + 1) (most - (i + 1)) = ali f n a most) := Lib.hid (by rw [← HA.out, HS.out]; show _ = if a + i < n ∧ f (a + i) = f a then _ else _; rw [if_pos (by rw [← hj]; exact ⟨hjn, he⟩)])
          have HE : Hid ((f j == f a) = true) := Lib.hid (beq_iff_eq.2 he)
          clear he HA HS hj hb hjn him
          go_wp2_with fail
          refine wp_region_anyL (Two 1000 1001 fun _ _ wx => wx = w.drewN (nq + 1)) (by kernel_rfl) rfl ?_
          refine anyL_take (i := 0) (v := ?_) rfl (by kernel_rfl) (by kernel_rfl) (by kernel_rfl) (yl_other (by decide) (by decide) rfl (fun f1 f2 wx hT => ?_)) ?_; rotate_left
          · refine lands_value (w := wx) ?_ hT; go_simp <;> rfl
          simp only [pu]
          refine anyL_take (i := 1) (v := ?_) rfl (by kernel_rfl) (by kernel_rfl) (by kernel_rfl) (yl_other (by decide) (by decide) rfl (fun f1 f2 wx hT => ?_)) ?_; rotate_left
          · refine lands_value (w := wx) ?_ hT; go_simp <;> rfl
          simp only [pu]
          refine anyL_take (i := 2) (v := .int .i64 (j : Int)) rfl (by kernel_rfl) (by kernel_rfl) (by kernel_rfl) (yl_other (by decide) (by decide) rfl (fun f1 f2 wx hT => ?_)) ?_
          · refine lands_value (w := wx) ?_ hT; go_simp; skip
          simp only [pu]
          refine anyL_take (i := 3) (v := ?_) rfl (by kernel_rfl) (by kernel_rfl) (by kernel_rfl) (yl_other (by decide) (by decide) rfl (fun f1 f2 wx hT => ?_)) ?_; rotate_left
          · refine lands_value (w := wx) ?_ hT; go_simp <;> rfl
          simp only [pu]
          refine anyL_take (i := 4) (v := ?_) rfl (by kernel_rfl) (by kernel_rfl) (by kernel_rfl) (yl_other (by decide) (by decide) rfl (fun f1 f2 wx hT => ?_)) ?_; rotate_left
          · refine lands_value (w := wx) ?_ hT; go_simp <;> rfl
          simp only [pu]
          refine anyL_take (i := 5) (v := .bool true) rfl (by kernel_rfl) (by kernel_rfl) (by kernel_rfl) (yl_other (by decide) (by decide) rfl (fun f1 f2 wx hT => ?_)) ?_
          · refine lands_value (w := wx) ?_ hT; go_simp; skip
          simp only [pu]
          refine anyL_take (i := 6) (v := ?_) rfl (by kernel_rfl) (by kernel_rfl) (by kernel_rfl) (yl_other (by decide) (by decide) rfl (fun f1 f2 wx hT => ?_)) ?_; rotate_left
          · refine lands_value (w := wx) ?_ hT; go_simp <;> rfl
          simp only [pu]
          refine anyL_take (i := 7) (v := ?_) rfl (by kernel_rfl) (by kernel_rfl) (by kernel_rfl) (yl_other (by decide) (by decide) rfl (fun f1 f2 wx hT => ?_)) ?_; rotate_left
          · refine lands_value (w := wx) ?_ hT; go_simp <;> rfl
          simp only [pu]
          refine anyL_take (i := 8) (v := ?_) rfl (by kernel_rfl) (by kernel_rfl) (by kernel_rfl) (yl_other (by decide) (by decide) rfl (fun f1 f2 wx hT => ?_)) ?_; rotate_left
          · refine lands_value (w := wx) ?_ hT; go_simp <;> rfl
          simp only [pu]
          refine anyL_take (i := 9) (v := .bool true) rfl (by kernel_rfl) (by kernel_rfl) (by kernel_rfl) (yl_other (by decide) (by decide) rfl (fun f1 f2 wx hT => ?_)) ?_
          · refine lands_value (w := wx) ?_ hT; go_simp; skip
          simp only [pu]
          refine anyL_take (i := 10) (v := .bool true) rfl (by kernel_rfl) (by kernel_rfl) (by kernel_rfl) (yl_other (by decide) (by decide) rfl (fun f1 f2 wx hT => ?_)) ?_
          · refine lands_value (w := wx) ?_ hT; go_simp; skip
          simp only [pu]
          refine anyL_take (i := 11) (v := ?_) rfl (by kernel_rfl) (by kernel_rfl) (by kernel_rfl) (yl_other (by decide) (by decide) rfl (fun f1 f2 wx hT => ?_)) ?_; rotate_left
          · refine lands_value (w := wx) ?_ hT; go_simp <;> rfl
          simp only [pu]
          refine anyL_take (i := 12) (v := ?_) rfl (by kernel_rfl) (by kernel_rfl) (by kernel_rfl) (yl_other (by decide) (by decide) rfl (fun f1 f2 wx hT => ?_)) ?_; rotate_left
          · refine lands_value (w := wx) ?_ hT; go_simp <;> rfl
          simp only [pu]
          refine anyL_take (i := 13) (v := ?_) rfl (by kernel_rfl) (by kernel_rfl) (by kernel_rfl) (yl_other (by decide) (by decide) rfl (fun f1 f2 wx hT => ?_)) ?_; rotate_left
          · refine lands_value (w := wx) ?_ hT; go_simp <;> rfl
          simp only [pu]
          refine anyL_take (i := 14) (v := ?_) rfl (by kernel_rfl) (by kernel_rfl) (by kernel_rfl) (yl_other (by decide) (by decide) rfl (fun f1 f2 wx hT => ?_)) ?_; rotate_left
          · refine lands_value (w := wx) ?_ hT; go_simp <;> rfl
          simp only [pu]
          refine anyL_take (i := 15) (v := .int .i64 (j : Int)) rfl (by kernel_rfl) (by kernel_rfl) (by kernel_rfl) (yl_other (by decide) (by decide) rfl (fun f1 f2 wx hT => ?_)) ?_
          · refine lands_value (w := wx) ?_ hT; go_simp; skip
          simp only [pu]
          refine anyL_take (i := 16) (v := .pointer (some (pa.add j))) rfl (by kernel_rfl) (by kernel_rfl) (by kernel_rfl) (yl_other (by decide) (by decide) rfl (fun f1 f2 wx hT => ?_)) ?_
          · refine lands_value (w := wx) ?_ hT; go_simp; skip
          simp only [pu]
          refine anyL_take (i := 17) (v := .int .i64 (f j)) rfl (by kernel_rfl) (by kernel_rfl) (by kernel_rfl) (yl_other (by decide) (by decide) rfl (fun f1 f2 wx hT => ?_)) ?_
          · have cc := HCJ.out; refine lands_value (w := wx) ?_ hT; go_simp; skip
          simp only [pu]
          refine anyL_take (i := 18) (v := ?_) rfl (by kernel_rfl) (by kernel_rfl) (by kernel_rfl) (yl_other (by decide) (by decide) rfl (fun f1 f2 wx hT => ?_)) ?_; rotate_left
          · refine lands_value (w := wx) ?_ hT; go_simp <;> rfl
          simp only [pu]
          refine anyL_take (i := 19) (v := ?_) rfl (by kernel_rfl) (by kernel_rfl) (by kernel_rfl) (yl_other (by decide) (by decide) rfl (fun f1 f2 wx hT => ?_)) ?_; rotate_left
          · refine lands_value (w := wx) ?_ hT; go_simp <;> rfl
          simp only [pu]
          refine anyL_take (i := 20) (v := .pointer (some (pa.add a))) rfl (by kernel_rfl) (by kernel_rfl) (by kernel_rfl) (yl_other (by decide) (by decide) rfl (fun f1 f2 wx hT => ?_)) ?_
          · refine lands_value (w := wx) ?_ hT; go_simp; skip
          simp only [pu]
          refine anyL_take (i := 21) (v := .int .i64 (f a)) rfl (by kernel_rfl) (by kernel_rfl) (by kernel_rfl) (yl_other (by decide) (by decide) rfl (fun f1 f2 wx hT => ?_)) ?_
          · have cc := HCA.out; refine lands_value (w := wx) ?_ hT; go_simp; skip
          simp only [pu]
          refine anyL_take (i := 22) (v := .bool true) rfl (by kernel_rfl) (by kernel_rfl) (by kernel_rfl) (yl_other (by decide) (by decide) rfl (fun f1 f2 wx hT => ?_)) ?_
          · have hE := HE.out; refine lands_value (w := wx) ?_ hT; go_simp; skip
          simp only [pu]
          refine anyL_take (i := 23) (v := .bool true) rfl (by kernel_rfl) (by kernel_rfl) (by kernel_rfl) (yl_other (by decide) (by decide) rfl (fun f1 f2 wx hT => ?_)) ?_
          · refine lands_value (w := wx) ?_ hT; go_simp; skip
          simp only [pu]
          refine anyL_done rfl ?_ _
          intro w2 hT2
          subst hT2
          go_wp2_with fail
          exact ⟨⟨i + 1, nq + 1, by go_num, by have := HIM.out; omega, HA2, rfl⟩, by simp only [intOf]; have := HIM.out; omega⟩
        · have HR : Hid (ali f n a most = i) := Lib.hid (by rw [← HA.out, HS.out]; show (if a + i < n ∧ f (a + i) = f a then _ else _) = _; rw [if_neg (by rw [← hj]; exact fun h => he h.2)])
          have HE : Hid ((f j == f a) = false) := Lib.hid (Bool.eq_false_iff.2 fun h => he (beq_iff_eq.1 h))
          clear he HA HS hj hb hjn him
          go_wp2_with fail
          refine wp_region_anyL (Two 1000 1001 fun _ _ wx => wx = w.drewN (nq + 1)) (by kernel_rfl) rfl ?_
          refine anyL_take (i := 0) (v := ?_) rfl (by kernel_rfl) (by kernel_rfl) (by kernel_rfl) (yl_other (by decide) (by decide) rfl (fun f1 f2 wx hT => ?_)) ?_; rotate_left
          · refine lands_value (w := wx) ?_ hT; go_simp <;> rfl
          simp only [pu]
          refine anyL_take (i := 1) (v := ?_) rfl (by kernel_rfl) (by kernel_rfl) (by kernel_rfl) (yl_other (by decide) (by decide) rfl (fun f1 f2 wx hT => ?_)) ?_; rotate_left
          · refine lands_value (w := wx) ?_ hT; go_simp <;> rfl
          simp only [pu]
          refine anyL_take (i := 2) (v := .int .i64 (j : Int)) rfl (by kernel_rfl) (by kernel_rfl) (by kernel_rfl) (yl_other (by decide) (by decide) rfl (fun f1 f2 wx hT => ?_)) ?_
          · refine lands_value (w := wx) ?_ hT; go_simp; skip
          simp only [pu]
          refine anyL_take (i := 3) (v := ?_) rfl (by kernel_rfl) (by kernel_rfl) (by kernel_rfl) (yl_other (by decide) (by decide) rfl (fun f1 f2 wx hT => ?_)) ?_; rotate_left
          · refine lands_value (w := wx) ?_ hT; go_simp <;> rfl
          simp only [pu]
          refine anyL_take (i := 4) (v := ?_) rfl (by kernel_rfl) (by kernel_rfl) (by kernel_rfl) (yl_other (by decide) (by decide) rfl (fun f1 f2 wx hT => ?_)) ?_; rotate_left
          · refine lands_value (w := wx) ?_ hT; go_simp <;> rfl
          simp only [pu]
          refine anyL_take (i := 5) (v := .bool true) rfl (by kernel_rfl) (by kernel_rfl) (by kernel_rfl) (yl_other (by decide) (by decide) rfl (fun f1 f2 wx hT => ?_)) ?_
          · refine lands_value (w := wx) ?_ hT; go_simp; skip
          simp only [pu]
          refine anyL_take (i := 6) (v := ?_) rfl (by kernel_rfl) (by kernel_rfl) (by kernel_rfl) (yl_other (by decide) (by decide) rfl (fun f1 f2 wx hT => ?_)) ?_; rotate_left
          · refine lands_value (w := wx) ?_ hT; go_simp <;> rfl
          simp only [pu]
          refine anyL_take (i := 7) (v := ?_) rfl (by kernel_rfl) (by kernel_rfl) (by kernel_rfl) (yl_other (by decide) (by decide) rfl (fun f1 f2 wx hT => ?_)) ?_; rotate_left
          · refine lands_value (w := wx) ?_ hT; go_simp <;> rfl
          simp only [pu]
          refine anyL_take (i := 8) (v := ?_) rfl (by kernel_rfl) (by kernel_rfl) (by kernel_rfl) (yl_other (by decide) (by decide) rfl (fun f1 f2 wx hT => ?_)) ?_; rotate_left
          · refine lands_value (w := wx) ?_ hT; go_simp <;> rfl
          simp only [pu]
          refine anyL_take (i := 9) (v := .bool true) rfl (by kernel_rfl) (by kernel_rfl) (by kernel_rfl) (yl_other (by decide) (by decide) rfl (fun f1 f2 wx hT => ?_)) ?_
          · refine lands_value (w := wx) ?_ hT; go_simp; skip
          simp only [pu]
          refine anyL_take (i := 10) (v := .bool true) rfl (by kernel_rfl) (by kernel_rfl) (by kernel_rfl) (yl_other (by decide) (by decide) rfl (fun f1 f2 wx hT => ?_)) ?_
          · refine lands_value (w := wx) ?_ hT; go_simp; skip
          simp only [pu]
          refine anyL_take (i := 11) (v := ?_) rfl (by kernel_rfl) (by kernel_rfl) (by kernel_rfl) (yl_other (by decide) (by decide) rfl (fun f1 f2 wx hT => ?_)) ?_; rotate_left
          · refine lands_value (w := wx) ?_ hT; go_simp <;> rfl
          simp only [pu]
          refine anyL_take (i := 12) (v := ?_) rfl (by kernel_rfl) (by kernel_rfl) (by kernel_rfl) (yl_other (by decide) (by decide) rfl (fun f1 f2 wx hT => ?_)) ?_; rotate_left
          · refine lands_value (w := wx) ?_ hT; go_simp <;> rfl
          simp only [pu]
          refine anyL_take (i := 13) (v := ?_) rfl (by kernel_rfl) (by kernel_rfl) (by kernel_rfl) (yl_other (by decide) (by decide) rfl (fun f1 f2 wx hT => ?_)) ?_; rotate_left
          · refine lands_value (w := wx) ?_ hT; go_simp <;> rfl
          simp only [pu]
          refine anyL_take (i := 14) (v := ?_) rfl (by kernel_rfl) (by kernel_rfl) (by kernel_rfl) (yl_other (by decide) (by decide) rfl (fun f1 f2 wx hT => ?_)) ?_; rotate_left
          · refine lands_value (w := wx) ?_ hT; go_simp <;> rfl
          simp only [pu]
          refine anyL_take (i := 15) (v := .int .i64 (j : Int)) rfl (by kernel_rfl) (by kernel_rfl) (by kernel_rfl) (yl_other (by decide) (by decide) rfl (fun f1 f2 wx hT => ?_)) ?_
          · refine lands_value (w := wx) ?_ hT; go_simp; skip
          simp only [pu]
          refine anyL_take (i := 16) (v := .pointer (some (pa.add j))) rfl (by kernel_rfl) (by kernel_rfl) (by kernel_rfl) (yl_other (by decide) (by decide) rfl (fun f1 f2 wx hT => ?_)) ?_
          · refine lands_value (w := wx) ?_ hT; go_simp; skip
          simp only [pu]
          refine anyL_take (i := 17) (v := .int .i64 (f j)) rfl (by kernel_rfl) (by kernel_rfl) (by kernel_rfl) (yl_other (by decide) (by decide) rfl (fun f1 f2 wx hT => ?_)) ?_
          · have cc := HCJ.out; refine lands_value (w := wx) ?_ hT; go_simp; skip
          simp only [pu]
          refine anyL_take (i := 18) (v := ?_) rfl (by kernel_rfl) (by kernel_rfl) (by kernel_rfl) (yl_other (by decide) (by decide) rfl (fun f1 f2 wx hT => ?_)) ?_; rotate_left
          · refine lands_value (w := wx) ?_ hT; go_simp <;> rfl
          simp only [pu]
          refine anyL_take (i := 19) (v := ?_) rfl (by kernel_rfl) (by kernel_rfl) (by kernel_rfl) (yl_other (by decide) (by decide) rfl (fun f1 f2 wx hT => ?_)) ?_; rotate_left
          · refine lands_value (w := wx) ?_ hT; go_simp <;> rfl
          simp only [pu]
          refine anyL_take (i := 20) (v := .pointer (some (pa.add a))) rfl (by kernel_rfl) (by kernel_rfl) (by kernel_rfl) (yl_other (by decide) (by decide) rfl (fun f1 f2 wx hT => ?_)) ?_
          · refine lands_value (w := wx) ?_ hT; go_simp; skip
          simp only [pu]
          refine anyL_take (i := 21) (v := .int .i64 (f a)) rfl (by kernel_rfl) (by kernel_rfl) (by kernel_rfl) (yl_other (by decide) (by decide) rfl (fun f1 f2 wx hT => ?_)) ?_
          · have cc := HCA.out; refine lands_value (w := wx) ?_ hT; go_simp; skip
          simp only [pu]
          refine anyL_take (i := 22) (v := .bool false) rfl (by kernel_rfl) (by kernel_rfl) (by kernel_rfl) (yl_other (by decide) (by decide) rfl (fun f1 f2 wx hT => ?_)) ?_
          · have hE := HE.out; refine lands_value (w := wx) ?_ hT; go_simp; skip
          simp only [pu]
          refine anyL_take (i := 23) (v := .bool false) rfl (by kernel_rfl) (by kernel_rfl) (by kernel_rfl) (yl_other (by decide) (by decide) rfl (fun f1 f2 wx hT => ?_)) ?_
          · refine lands_value (w := wx) ?_ hT; go_simp; skip
          simp only [pu]
          refine anyL_done rfl ?_ _
          intro w2 hT2
          subst hT2
          go_wp2_with fail
          go_ret
          exact ⟨by rw [HR.out]; rfl, nq + 1, rfl⟩
      · have himi : ¬ (i : Int) < (most : Int) := by omega
        have him2 : most ≤ i := by omega
        have HR : Hid (ali f n a most = i) := Lib.hid (by rw [← HA.out, show most - i = 0 by omega]; rfl)
        clear HA hj hb hjn him
        go_wp2_with fail
        refine wp_region_anyL (Two 1000 1001 fun _ _ wx => wx = w.drewN (nq + 1)) (by kernel_rfl) rfl ?_
        refine anyL_take (i := 0) (v := ?_) rfl (by kernel_rfl) (by kernel_rfl) (by kernel_rfl) (yl_other (by decide) (by decide) rfl (fun f1 f2 wx hT => ?_)) ?_; rotate_left
        · refine lands_value (w := wx) ?_ hT; go_simp <;> rfl
        simp only [pu]
        refine anyL_take (i := 1) (v := ?_) rfl (by kernel_rfl) (by kernel_rfl) (by kernel_rfl) (yl_other (by decide) (by decide) rfl (fun f1 f2 wx hT => ?_)) ?_; rotate_left
        · refine lands_value (w := wx) ?_ hT; go_simp <;> rfl
        simp only [pu]
        refine anyL_take (i := 2) (v := .int .i64 (j : Int)) rfl (by kernel_rfl) (by kernel_rfl) (by kernel_rfl) (yl_other (by decide) (by decide) rfl (fun f1 f2 wx hT => ?_)) ?_
        · refine lands_value (w := wx) ?_ hT; go_simp; skip
        simp only [pu]
        refine anyL_take (i := 3) (v := ?_) rfl (by kernel_rfl) (by kernel_rfl) (by kernel_rfl) (yl_other (by decide) (by decide) rfl (fun f1 f2 wx hT => ?_)) ?_; rotate_left
        · refine lands_value (w := wx) ?_ hT; go_simp <;> rfl
        simp only [pu]
        refine anyL_take (i := 4) (v := ?_) rfl (by kernel_rfl) (by kernel_rfl) (by kernel_rfl) (yl_other (by decide) (by decide) rfl (fun f1 f2 wx hT => ?_)) ?_; rotate_left
        · refine lands_value (w := wx) ?_ hT; go_simp <;> rfl
        simp only [pu]
        refine anyL_take (i := 5) (v := .bool true) rfl (by kernel_rfl) (by kernel_rfl) (by kernel_rfl) (yl_other (by decide) (by decide) rfl (fun f1 f2 wx hT => ?_)) ?_
        · refine lands_value (w := wx) ?_ hT; go_simp; skip
        simp only [pu]
        refine anyL_take (i := 6) (v := ?_) rfl (by kernel_rfl) (by kernel_rfl) (by kernel_rfl) (yl_other (by decide) (by decide) rfl (fun f1 f2 wx hT => ?_)) ?_; rotate_left
        · refine lands_value (w := wx) ?_ hT; go_simp <;> rfl
        simp only [pu]
        refine anyL_take (i := 7) (v := ?_) rfl (by kernel_rfl) (by kernel_rfl) (by kernel_rfl) (yl_other (by decide) (by decide) rfl (fun f1 f2 wx hT => ?_)) ?_; rotate_left
        · refine lands_value (w := wx) ?_ hT; go_simp <;> rfl
        simp only [pu]
        refine anyL_take (i := 8) (v := ?_) rfl (by kernel_rfl) (by kernel_rfl) (by kernel_rfl) (yl_other (by decide) (by decide) rfl (fun f1 f2 wx hT => ?_)) ?_; rotate_left
        · refine lands_value (w := wx) ?_ hT; go_simp <;> rfl
        simp only [pu]
        refine anyL_take (i := 9) (v := .bool false) rfl (by kernel_rfl) (by kernel_rfl) (by kernel_rfl) (yl_other (by decide) (by decide) rfl (fun f1 f2 wx hT => ?_)) ?_
        · refine lands_value (w := wx) ?_ hT; go_simp; skip
        simp only [pu]
        refine anyL_take (i := 10) (v := .bool false) rfl (by kernel_rfl) (by kernel_rfl) (by kernel_rfl) (yl_other (by decide) (by decide) rfl (fun f1 f2 wx hT => ?_)) ?_
        · refine lands_value (w := wx) ?_ hT; go_simp; skip
        simp only [pu]
        refine anyL_take (i := 11) (v := ?_) rfl (by kernel_rfl) (by kernel_rfl) (by kernel_rfl) (yl_other (by decide) (by decide) rfl (fun f1 f2 wx hT => ?_)) ?_; rotate_left
        · refine lands_value (w := wx) ?_ hT; go_simp <;> rfl
        simp only [pu]
        refine anyL_take (i := 12) (v := undef) rfl (by kernel_rfl) (by kernel_rfl) (by kernel_rfl) (yl_skip (by decide) (by decide) rfl) ?_
        simp only [pu]
        refine anyL_take (i := 13) (v := undef) rfl (by kernel_rfl) (by kernel_rfl) (by kernel_rfl) (yl_skip (by decide) (by decide) rfl) ?_
        simp only [pu]
        refine anyL_take (i := 14) (v := undef) rfl (by kernel_rfl) (by kernel_rfl) (by kernel_rfl) (yl_skip (by decide) (by decide) rfl) ?_
        simp only [pu]
        refine anyL_take (i := 15) (v := undef) rfl (by kernel_rfl) (by kernel_rfl) (by kernel_rfl) (yl_skip (by decide) (by decide) rfl) ?_
        simp only [pu]
        refine anyL_take (i := 16) (v := undef) rfl (by kernel_rfl) (by kernel_rfl) (by kernel_rfl) (yl_skip (by decide) (by decide) rfl) ?_
        simp only [pu]
        refine anyL_take (i := 17) (v := undef) rfl (by kernel_rfl) (by kernel_rfl) (by kernel_rfl) (yl_skip (by decide) (by decide) rfl) ?_
        simp only [pu]
        refine anyL_take (i := 18) (v := undef) rfl (by kernel_rfl) (by kernel_rfl) (by kernel_rfl) (yl_skip (by decide) (by decide) rfl) ?_
        simp only [pu]
        refine anyL_take (i := 19) (v := undef) rfl (by kernel_rfl) (by kernel_rfl) (by kernel_rfl) (yl_skip (by decide) (by decide) rfl) ?_
        simp only [pu]
        refine anyL_take (i := 20) (v := undef) rfl (by kernel_rfl) (by kernel_rfl) (by kernel_rfl) (yl_skip (by decide) (by decide) rfl) ?_
        simp only [pu]
        refine anyL_take (i := 21) (v := undef) rfl (by kernel_rfl) (by kernel_rfl) (by kernel_rfl) (yl_skip (by decide) (by decide) rfl) ?_
        simp only [pu]
        refine anyL_take (i := 22) (v := undef) rfl (by kernel_rfl) (by kernel_rfl) (by kernel_rfl) (yl_skip (by decide) (by decide) rfl) ?_
        simp only [pu]
        refine anyL_take (i := 23) (v := .bool false) rfl (by kernel_rfl) (by kernel_rfl) (by kernel_rfl) (yl_other (by decide) (by decide) rfl (fun f1 f2 wx hT => ?_)) ?_
        · refine lands_value (w := wx) ?_ hT; go_simp; skip
        simp only [pu]
        refine anyL_done rfl ?_ _
        intro w2 hT2
        subst hT2
        go_wp2_with fail
        go_ret
        exact ⟨by rw [HR.out]; rfl, nq + 1, rfl⟩
    · have hjni : ¬ (j : Int) < (n : Int) := by omega
      have hjn2 : n ≤ j := by omega
      have HR : Hid (ali f n a most = i) := Lib.hid (by
        rw [← HA.out]
        cases most - i with
        | zero => rfl
        | succ k => show (if a + i < n ∧ f (a + i) = f a then _ else _) = _; rw [if_neg (by rw [← hj]; exact fun h => hjn h.1)])
      clear HA hj hb hjn
      go_wp2_with fail
      refine wp_region_anyL (Two 1000 1001 fun _ _ wx => wx = w.drewN (nq + 1)) (by kernel_rfl) rfl ?_
      refine anyL_take (i := 0) (v := ?_) rfl (by kernel_rfl) (by kernel_rfl) (by kernel_rfl) (yl_other (by decide) (by decide) rfl (fun f1 f2 wx hT => ?_)) ?_; rotate_left
      · refine lands_value (w := wx) ?_ hT; go_simp <;> rfl
      simp only [pu]
      refine anyL_take (i := 1) (v := ?_) rfl (by kernel_rfl) (by kernel_rfl) (by kernel_rfl) (yl_other (by decide) (by decide) rfl (fun f1 f2 wx hT => ?_)) ?_; rotate_left
      · refine lands_value (w := wx) ?_ hT; go_simp <;> rfl
      simp only [pu]
      refine anyL_take (i := 2) (v := .int .i64 (j : Int)) rfl (by kernel_rfl) (by kernel_rfl) (by kernel_rfl) (yl_other (by decide) (by decide) rfl (fun f1 f2 wx hT => ?_)) ?_
      · refine lands_value (w := wx) ?_ hT; go_simp; skip
      simp only [pu]
      refine anyL_take (i := 3) (v := ?_) rfl (by kernel_rfl) (by kernel_rfl) (by kernel_rfl) (yl_other (by decide) (by decide) rfl (fun f1 f2 wx hT => ?_)) ?_; rotate_left
      · refine lands_value (w := wx) ?_ hT; go_simp <;> rfl
      simp only [pu]
      refine anyL_take (i := 4) (v := ?_) rfl (by kernel_rfl) (by kernel_rfl) (by kernel_rfl) (yl_other (by decide) (by decide) rfl (fun f1 f2 wx hT => ?_)) ?_; rotate_left
      · refine lands_value (w := wx) ?_ hT; go_simp <;> rfl
      simp only [pu]
      refine anyL_take (i := 5) (v := .bool false) rfl (by kernel_rfl) (by kernel_rfl) (by kernel_rfl) (yl_other (by decide) (by decide) rfl (fun f1 f2 wx hT => ?_)) ?_
      · refine lands_value (w := wx) ?_ hT; go_simp; skip
      simp only [pu]
      refine anyL_take (i := 6) (v := ?_) rfl (by kernel_rfl) (by kernel_rfl) (by kernel_rfl) (yl_other (by decide) (by decide) rfl (fun f1 f2 wx hT => ?_)) ?_; rotate_left
      · refine lands_value (w := wx) ?_ hT; go_simp <;> rfl
      simp only [pu]
      refine anyL_take (i := 7) (v := undef) rfl (by kernel_rfl) (by kernel_rfl) (by kernel_rfl) (yl_skip (by decide) (by decide) rfl) ?_
      simp only [pu]
      refine anyL_take (i := 8) (v := undef) rfl (by kernel_rfl) (by kernel_rfl) (by kernel_rfl) (yl_skip (by decide) (by decide) rfl) ?_
      simp only [pu]
      refine anyL_take (i := 9) (v := undef) rfl (by kernel_rfl) (by kernel_rfl) (by kernel_rfl) (yl_skip (by decide) (by decide) rfl) ?_
      simp only [pu]
      refine anyL_take (i := 10) (v := .bool false) rfl (by kernel_rfl) (by kernel_rfl) (by kernel_rfl) (yl_other (by decide) (by decide) rfl (fun f1 f2 wx hT => ?_)) ?_
      · refine lands_value (w := wx) ?_ hT; go_simp; skip
      simp only [pu]
      refine anyL_take (i := 11) (v := ?_) rfl (by kernel_rfl) (by kernel_rfl) (by kernel_rfl) (yl_other (by decide) (by decide) rfl (fun f1 f2 wx hT => ?_)) ?_; rotate_left
      · refine lands_value (w := wx) ?_ hT; go_simp <;> rfl
      simp only [pu]
      refine anyL_take (i := 12) (v := undef) rfl (by kernel_rfl) (by kernel_rfl) (by kernel_rfl) (yl_skip (by decide) (by decide) rfl) ?_
      simp only [pu]
      refine anyL_take (i := 13) (v := undef) rfl (by kernel_rfl) (by kernel_rfl) (by kernel_rfl) (yl_skip (by decide) (by decide) rfl) ?_
      simp only [pu]
      refine anyL_take (i := 14) (v := undef) rfl (by kernel_rfl) (by kernel_rfl) (by kernel_rfl) (yl_skip (by decide) (by decide) rfl) ?_
      simp only [pu]
      refine anyL_take (i := 15) (v := undef) rfl (by kernel_rfl) (by kernel_rfl) (by kernel_rfl) (yl_skip (by decide) (by decide) rfl) ?_
      simp only [pu]
      refine anyL_take (i := 16) (v := undef) rfl (by kernel_rfl) (by kernel_rfl) (by kernel_rfl) (yl_skip (by decide) (by decide) rfl) ?_
      simp only [pu]
      refine anyL_take (i := 17) (v := undef) rfl (by kernel_rfl) (by kernel_rfl) (by kernel_rfl) (yl_skip (by decide) (by decide) rfl) ?_
      simp only [pu]
      refine anyL_take (i := 18) (v := undef) rfl (by kernel_rfl) (by kernel_rfl) (by kernel_rfl) (yl_skip (by decide) (by decide) rfl) ?_
      simp only [pu]
      refine anyL_take (i := 19) (v := undef) rfl (by kernel_rfl) (by kernel_rfl) (by kernel_rfl) (yl_skip (by decide) (by decide) rfl) ?_
      simp only [pu]
      refine anyL_take (i := 20) (v := undef) rfl (by kernel_rfl) (by kernel_rfl) (by kernel_rfl) (yl_skip (by decide) (by decide) rfl) ?_
      simp only [pu]
      refine anyL_take (i := 21) (v := undef) rfl (by kernel_rfl) (by kernel_rfl) (by kernel_rfl) (yl_skip (by decide) (by decide) rfl) ?_
      simp only [pu]
      refine anyL_take (i := 22) (v := undef) rfl (by kernel_rfl) (by kernel_rfl) (by kernel_rfl) (yl_skip (by decide) (by decide) rfl) ?_
      simp only [pu]
      refine anyL_take (i := 23) (v := .bool false) rfl (by kernel_rfl) (by kernel_rfl) (by kernel_rfl) (yl_other (by decide) (by decide) rfl (fun f1 f2 wx hT => ?_)) ?_
      · refine lands_value (w := wx) ?_ hT; go_simp; skip
      simp only [pu]
      refine anyL_done rfl ?_ _
      intro w2 hT2
      subst hT2
      go_wp2_with fail
      go_ret
      exact ⟨by rw [HR.out]; rfl, nq + 1, rfl⟩
end Go.Proofs.Ytjdfdiejlmeeoaa
/- Chapter 11's reference: Runs. -/
namespace Go.Proofs.Ytjdfdiejlmeeoaa
open Go.RowKit
theorem runA_one (l : List (Int × Nat × Nat)) (x : Int × Nat × Nat) : runA (l ++ [x]) = runA l ++ [encI x.1] := by unfold runA; rw [List.map_append]; rfl
theorem runB_one (l : List (Int × Nat × Nat)) (x : Int × Nat × Nat) : runB (l ++ [x]) = runB l ++ [encI (x.2.1 : Int)] := by unfold runB; rw [List.map_append]; rfl
set_option maxRecDepth 100000 in
set_option maxHeartbeats 16000000 in
theorem rRuns_any (p : Option Addr) (n cap : Nat) (f : Nat → Int) (w : World) (h : IS p n cap f w) (hn : n ≤ 1000000000) :
    Calls Try.prog 12 #[.slice p n cap] w fun e w' => ∃ v1 v2, e = .returned (.tuple #[v1, v2]) ∧ LS 3 1 w.heap.size w (runA (runsV f n)) v1 w' ∧ LS 3 1 w.heap.size w (runB (runsV f n)) v2 w' := by
  have HI : Hid (∀ wx, Below w.heap.size w wx → IS p n cap f wx) := Lib.hid fun wx hb => h.below hb
  have HL0 : Hid (LS 3 1 w.heap.size w (runA []) (.slice none 0 0) w) := Lib.hid (LS.nil (Below.refl _ _) (Nat.le_refl _))
  clear h
  go_enter Try.func12, Try.ntmps12
  go_wp2_with fail
  go_loopg [4, 5, 6] n (fun gk v1 v2 u wr => ∃ (k : Nat) (x1 x2 : Value) (l : List (Int × Nat × Nat)), gk = n - k ∧ x1 = v1 ∧ x2 = v2 ∧ u = .int .i64 (k : Int) ∧ k ≤ n ∧ l.length ≤ k ∧ Hid (runsV f n = l ++ runsG f n (n - k) k) ∧ Hid (LS 3 1 w.heap.size w (runA l) x1 wr ∧ LS 3 1 w.heap.size w (runB l) x2 wr ∧ (∀ i, x1.ownBlock = some i → x2.ownBlock ≠ some i)))
  case atStart => exact ⟨0, _, _, [], rfl, rfl, rfl, rfl, by omega, by decide, Lib.hid rfl, Lib.hid ⟨HL0.out, HL0.out, fun i e => by cases e⟩⟩
  case round =>
    obtain ⟨k, x1, x2, l, hgk, rfl, rfl, rfl, hk, hl, HK, HL⟩ := hrel
    clear HL0
    by_cases hlt : k < n
    · have hlti : (k : Int) < (n : Int) := by omega
      have hI := HI.out wr HL.out.1.b
      obtain ⟨pa, rfl⟩ : ∃ a, p = some a := by
        cases p with
        | none => have := (hI.nil_ rfl).1; omega
        | some a => exact ⟨a, rfl⟩
      have HC0 := Lib.hid (hI.cell pa rfl k hlt)
      have HLN : Hid ((runA l).length ≤ 999999999999 ∧ (runB l).length ≤ 999999999999) := Lib.hid (by unfold runA runB; simp only [List.length_map]; omega)
      have HKN := Lib.hid (⟨hlt, hgk, hn, hl⟩ : k < n ∧ gk = n - k ∧ n ≤ 1000000000 ∧ l.length ≤ k)
      have HV : Hid (runV f n k = _) := Lib.hid (runV.eq_1 f n k)
      have HPV := Lib.hid (⟨runV_pos f n k, @runV_in f n k hlt⟩ : 0 < (runV f n k).2 ∧ k + (runV f n k).2 ≤ n)
      by_cases hz : f k = 0
      · have C := rrun_any (some pa) n cap f k 138 wr hI hlt (by omega) (by decide)
        have htl := ali_le f n k 138
        obtain ⟨t, ht⟩ : ∃ t, t = ali f n k 138 := ⟨_, rfl⟩
        rw [← ht] at C htl
        have HTT := Lib.hid ht
        clear ht hI
        have cc : wr.cell? (pa.add k) = some (.int .i64 (f k)) := HC0.out
        have HE : Hid ((f k == 0) = true) := Lib.hid (beq_iff_eq.2 hz)
        have hE := HE.out
        have HZ := Lib.hid hz
        clear hz
        go_wp2_with fail
        refine C.mono ?_
        rintro e w1 ⟨rfl, nq, rfl⟩
        clear C cc
        by_cases hc : 11 ≤ t
        · have hgi : (t : Int) ≥ 11 := by omega
          have HN : Hid (runV f n k = ((18, t - 11, 7), t)) := Lib.hid (by rw [HV.out, if_pos HZ.out, ← HTT.out, if_pos hc])
          have HP : Hid (0 < t ∧ k + t ≤ n) := Lib.hid (by have := HPV.out; rw [HN.out] at this; exact this)
          have hw : IntKind.i64.wrap ((t : Int) - 11) = ((t - 11 : Nat) : Int) := by rw [IntWalk.i64_in _ (by omega)]; omega
          have hw2 : (t : Int) - 11 = ((t - 11 : Nat) : Int) := by omega
          clear HV HPV HTT
          have HT : Hid (runsV f n = (l ++ [(18, t - 11, 7)]) ++ runsG f n (n - (k + t)) (k + t)) := Lib.hid (by
            have h1 := HKN.out.1
            have h2 := HKN.out.2
            rw [HK.out, show n - k = n - k - 1 + 1 by omega, runsG_one HKN.out.1, HN.out, runsG_more f n (n - k - 1) (n - (k + t)) _ (by have := HP.out; omega) (by have := HP.out; omega)]
            simp)
          have H0 : Hid (LS 3 1 w.heap.size w (runA l) x1 (wr.drewN (nq)) ∧ LS 3 1 w.heap.size w (runB l) x2 (wr.drewN (nq)) ∧ (∀ i, x1.ownBlock = some i → x2.ownBlock ≠ some i)) := Lib.hid ⟨HL.out.1.below (belowN (Below.refl _ wr) _), HL.out.2.1.below (belowN (Below.refl _ wr) _), HL.out.2.2⟩
          have hkw : IntKind.i64.wrap ((k : Int) + (t : Int)) = ((k + t : Nat) : Int) := by have := HKN.out; have := HP.out; rw [IntWalk.i64_in _ (by omega)]; omega
          generalize wr.drewN (nq) = wz at H0 ⊢
          clear HL HK HN
          go_wp2_with (first | (at_builtin; refine wpList_oneI rfl (.tmp 61) (.tmp 63) 31 rfl rfl rfl H0.out.1 (18) rfl HLN.out.1 ?_; intro v9 w9 h9 g9; have H9 : Hid (LS 3 1 w.heap.size w (runA (l ++ [(18, t - 11, 7)])) v9 w9 ∧ LS 3 1 w.heap.size w (runB l) x2 w9 ∧ (∀ i, v9.ownBlock = some i → x2.ownBlock ≠ some i)) := Lib.hid ⟨by rw [runA_one]; exact h9, H0.out.2.1.gr g9 (ne_sym H0.out.2.2) (fun i e => (H0.out.1.ownB i e).1), ne_sym (ne_gr g9 (ne_sym H0.out.2.2) (fun i e => (H0.out.2.1.ownB i e).2))⟩; clear h9 g9) | (at_builtin; refine wpList_oneI rfl (.tmp 65) (.tmp 67) 31 rfl rfl rfl H9.out.2.1 ((t - 11 : Nat) : Int) rfl HLN.out.2 ?_; intro v10 w10 h10 g10; have H10 : Hid (LS 3 1 w.heap.size w (runA (l ++ [(18, t - 11, 7)])) v9 w10 ∧ LS 3 1 w.heap.size w (runB (l ++ [(18, t - 11, 7)])) v10 w10 ∧ (∀ i, v9.ownBlock = some i → v10.ownBlock ≠ some i)) := Lib.hid ⟨H9.out.1.gr g10 H9.out.2.2 (fun i e => (H9.out.2.1.ownB i e).1), by rw [runB_one]; exact h10, ne_gr g10 H9.out.2.2 (fun i e => (H9.out.1.ownB i e).2)⟩; clear h10 g10))
          go_roundg (n - (k + t))
          case measure => have := HKN.out; have := HP.out; omega
          case rel => exact ⟨k + t, _, _, l ++ [(18, t - 11, 7)], rfl, rfl, rfl, by go_num, by have := HP.out; omega, by rw [List.length_append]; have := HKN.out; have := HP.out; show l.length + 1 ≤ k + t; omega, HT, H10⟩
        · by_cases hd : 3 ≤ t
          · have hgi : ¬ (t : Int) ≥ 11 := by omega
            have hgi3 : (t : Int) ≥ 3 := by omega
            have hgi4 : ¬ (11 : Int) ≤ (t : Int) := by omega
            have HN : Hid (runV f n k = ((17, t - 3, 3), t)) := Lib.hid (by
              have e := ali_min f n k 10 138 (by decide)
              rw [← HTT.out, show min t 10 = t by omega] at e
              rw [HV.out, if_pos HZ.out, ← HTT.out, if_neg hc, e, if_pos hd])
            have HP : Hid (0 < t ∧ k + t ≤ n) := Lib.hid (by have := HPV.out; rw [HN.out] at this; exact this)
            have hw : IntKind.i64.wrap ((t : Int) - 3) = ((t - 3 : Nat) : Int) := by rw [IntWalk.i64_in _ (by omega)]; omega
            have hw2 : (t : Int) - 3 = ((t - 3 : Nat) : Int) := by omega
            clear HV HPV HTT
            have HT : Hid (runsV f n = (l ++ [(17, t - 3, 3)]) ++ runsG f n (n - (k + t)) (k + t)) := Lib.hid (by
              have h1 := HKN.out.1
              have h2 := HKN.out.2
              rw [HK.out, show n - k = n - k - 1 + 1 by omega, runsG_one HKN.out.1, HN.out, runsG_more f n (n - k - 1) (n - (k + t)) _ (by have := HP.out; omega) (by have := HP.out; omega)]
              simp)
            have H0 : Hid (LS 3 1 w.heap.size w (runA l) x1 (wr.drewN (nq)) ∧ LS 3 1 w.heap.size w (runB l) x2 (wr.drewN (nq)) ∧ (∀ i, x1.ownBlock = some i → x2.ownBlock ≠ some i)) := Lib.hid ⟨HL.out.1.below (belowN (Below.refl _ wr) _), HL.out.2.1.below (belowN (Below.refl _ wr) _), HL.out.2.2⟩
            have hkw : IntKind.i64.wrap ((k : Int) + (t : Int)) = ((k + t : Nat) : Int) := by have := HKN.out; have := HP.out; rw [IntWalk.i64_in _ (by omega)]; omega
            generalize wr.drewN (nq) = wz at H0 ⊢
            clear HL HK HN
            go_wp2_with (first | (at_builtin; refine wpList_oneI rfl (.tmp 61) (.tmp 63) 31 rfl rfl rfl H0.out.1 (17) rfl HLN.out.1 ?_; intro v9 w9 h9 g9; have H9 : Hid (LS 3 1 w.heap.size w (runA (l ++ [(17, t - 3, 3)])) v9 w9 ∧ LS 3 1 w.heap.size w (runB l) x2 w9 ∧ (∀ i, v9.ownBlock = some i → x2.ownBlock ≠ some i)) := Lib.hid ⟨by rw [runA_one]; exact h9, H0.out.2.1.gr g9 (ne_sym H0.out.2.2) (fun i e => (H0.out.1.ownB i e).1), ne_sym (ne_gr g9 (ne_sym H0.out.2.2) (fun i e => (H0.out.2.1.ownB i e).2))⟩; clear h9 g9) | (at_builtin; refine wpList_oneI rfl (.tmp 65) (.tmp 67) 31 rfl rfl rfl H9.out.2.1 ((t - 3 : Nat) : Int) rfl HLN.out.2 ?_; intro v10 w10 h10 g10; have H10 : Hid (LS 3 1 w.heap.size w (runA (l ++ [(17, t - 3, 3)])) v9 w10 ∧ LS 3 1 w.heap.size w (runB (l ++ [(17, t - 3, 3)])) v10 w10 ∧ (∀ i, v9.ownBlock = some i → v10.ownBlock ≠ some i)) := Lib.hid ⟨H9.out.1.gr g10 H9.out.2.2 (fun i e => (H9.out.2.1.ownB i e).1), by rw [runB_one]; exact h10, ne_gr g10 H9.out.2.2 (fun i e => (H9.out.1.ownB i e).2)⟩; clear h10 g10))
            go_roundg (n - (k + t))
            case measure => have := HKN.out; have := HP.out; omega
            case rel => exact ⟨k + t, _, _, l ++ [(17, t - 3, 3)], rfl, rfl, rfl, by go_num, by have := HP.out; omega, by rw [List.length_append]; have := HKN.out; have := HP.out; show l.length + 1 ≤ k + t; omega, HT, H10⟩
          · have hgi : ¬ (t : Int) ≥ 11 := by omega
            have hgi3 : ¬ (t : Int) ≥ 3 := by omega
            have hgi5 : ¬ (3 : Int) ≤ (t : Int) := by omega
            have hgi4 : ¬ (11 : Int) ≤ (t : Int) := by omega
            have HN : Hid (runV f n k = ((f k, 0, 0), 1)) := Lib.hid (by
              have e := ali_min f n k 10 138 (by decide)
              rw [← HTT.out, show min t 10 = t by omega] at e
              rw [HV.out, if_pos HZ.out, ← HTT.out, if_neg hc, e, if_neg hd])
            have HP : Hid (0 < 1 ∧ k + 1 ≤ n) := Lib.hid (by have := HPV.out; rw [HN.out] at this; exact this)
            clear HV HPV HTT
            have HT : Hid (runsV f n = (l ++ [(f k, 0, 0)]) ++ runsG f n (n - (k + 1)) (k + 1)) := Lib.hid (by
              have h1 := HKN.out.1
              have h2 := HKN.out.2
              rw [HK.out, show n - k = n - k - 1 + 1 by omega, runsG_one HKN.out.1, HN.out, runsG_more f n (n - k - 1) (n - (k + 1)) _ (by have := HP.out; omega) (by have := HP.out; omega)]
              simp)
            have H0 : Hid (LS 3 1 w.heap.size w (runA l) x1 (wr.drewN (nq)) ∧ LS 3 1 w.heap.size w (runB l) x2 (wr.drewN (nq)) ∧ (∀ i, x1.ownBlock = some i → x2.ownBlock ≠ some i)) := Lib.hid ⟨HL.out.1.below (belowN (Below.refl _ wr) _), HL.out.2.1.below (belowN (Below.refl _ wr) _), HL.out.2.2⟩
            have hkw : IntKind.i64.wrap ((k : Int) + 1) = ((k + 1 : Nat) : Int) := by have := HKN.out; have := HP.out; rw [IntWalk.i64_in _ (by omega)]; omega
            generalize wr.drewN (nq) = wz at H0 ⊢
            clear HL HK HN
            go_wp2_with (first | (at_builtin; refine wpList_oneI rfl (.tmp 61) (.tmp 63) 31 rfl rfl rfl H0.out.1 (f k) rfl HLN.out.1 ?_; intro v9 w9 h9 g9; have H9 : Hid (LS 3 1 w.heap.size w (runA (l ++ [(f k, 0, 0)])) v9 w9 ∧ LS 3 1 w.heap.size w (runB l) x2 w9 ∧ (∀ i, v9.ownBlock = some i → x2.ownBlock ≠ some i)) := Lib.hid ⟨by rw [runA_one]; exact h9, H0.out.2.1.gr g9 (ne_sym H0.out.2.2) (fun i e => (H0.out.1.ownB i e).1), ne_sym (ne_gr g9 (ne_sym H0.out.2.2) (fun i e => (H0.out.2.1.ownB i e).2))⟩; clear h9 g9) | (at_builtin; refine wpList_oneI rfl (.tmp 65) (.tmp 67) 31 rfl rfl rfl H9.out.2.1 ((0 : Nat) : Int) rfl HLN.out.2 ?_; intro v10 w10 h10 g10; have H10 : Hid (LS 3 1 w.heap.size w (runA (l ++ [(f k, 0, 0)])) v9 w10 ∧ LS 3 1 w.heap.size w (runB (l ++ [(f k, 0, 0)])) v10 w10 ∧ (∀ i, v9.ownBlock = some i → v10.ownBlock ≠ some i)) := Lib.hid ⟨H9.out.1.gr g10 H9.out.2.2 (fun i e => (H9.out.2.1.ownB i e).1), by rw [runB_one]; exact h10, ne_gr g10 H9.out.2.2 (fun i e => (H9.out.1.ownB i e).2)⟩; clear h10 g10))
            go_roundg (n - (k + 1))
            case measure => have := HKN.out; have := HP.out; omega
            case rel => exact ⟨k + 1, _, _, l ++ [(f k, 0, 0)], rfl, rfl, rfl, by go_num, by have := HP.out; omega, by rw [List.length_append]; have := HKN.out; have := HP.out; show l.length + 1 ≤ k + 1; omega, HT, H10⟩
      · have HE0 : Hid ((f k == 0) = false) := Lib.hid (beq_eq_false_iff_ne.2 hz)
        by_cases h0 : 0 < k
        · by_cases hs : f (k - 1) = f k
          · by_cases hq : 3 ≤ ali f n k 6
            · have hk0 : (k : Int) > 0 := by omega
              have hk1 : (0 : Int) < (k : Int) := by omega
              have hk2 : IntKind.i64.wrap ((k : Int) - 1) = ((k - 1 : Nat) : Int) := by rw [IntWalk.i64_in _ (by omega)]; omega
              have hk3 : ((k - 1 : Nat) : Int) < (n : Int) := by omega
              have HC1 := Lib.hid (hI.cell pa rfl (k - 1) (by omega))
              have HE : Hid ((f (k - 1) == f k) = true) := Lib.hid (beq_iff_eq.2 hs)
              have htl := ali_le f n k 6
              obtain ⟨t, ht⟩ : ∃ t, t = ali f n k 6 := ⟨_, rfl⟩
              have HC : Hid (∀ nx, Calls Try.prog 19 #[.slice (some pa) n cap, .int .i64 (k : Int), .int .i64 6] (wr.drewN nx) fun e w' => e = .returned (.int .i64 (t : Int)) ∧ ∃ nq, w' = wr.drewN nq) := Lib.hid fun nx => by
                rw [ht]
                refine (rrun_any (some pa) n cap f k 6 (wr.drewN nx) (hI.below (belowN (Below.refl _ wr) nx)) hlt (by omega) (by decide)).mono ?_
                rintro e w' ⟨h1, nq, h2⟩
                exact ⟨h1, nx + nq, by rw [h2, World.drewN_drewN]⟩
              rw [← ht] at htl
              have hg3 : (t : Int) ≥ 3 := by omega
              have HN : Hid (runV f n k = ((16, t - 3, 2), t)) := Lib.hid (by rw [HV.out, if_neg hz, if_pos ⟨by omega, hs, by omega⟩, ← ht])
              have hw : IntKind.i64.wrap ((t : Int) - 3) = ((t - 3 : Nat) : Int) := by rw [IntWalk.i64_in _ (by omega)]; omega
              have hw2 : (t : Int) - 3 = ((t - 3 : Nat) : Int) := by omega
              have HP : Hid (0 < t ∧ k + t ≤ n) := Lib.hid (by have := HPV.out; rw [HN.out] at this; exact this)
              have cc : wr.cell? (pa.add k) = some (.int .i64 (f k)) := HC0.out
              have hE0 := HE0.out
              clear ht
              clear HV HPV hI
              go_wp2_with fail
              refine wp_region_anyL (Two 1000 1001 fun _ _ wx => ∃ nx, wx = wr.drewN nx) (by kernel_rfl) ⟨1, rfl⟩ ?_
              refine anyL_take (i := 0) (v := ?_) rfl (by kernel_rfl) (by kernel_rfl) (by kernel_rfl) (yl_other (by decide) (by decide) rfl (fun f1 f2 wx hT => ?_)) ?_; rotate_left
              · obtain ⟨nx, hx⟩ := hT; subst hx; refine lands_value (w := wr.drewN nx) ?_ ⟨nx, rfl⟩; go_simp <;> rfl
              simp only [pu]
              refine anyL_take (i := 1) (v := .bool true) rfl (by kernel_rfl) (by kernel_rfl) (by kernel_rfl) (yl_other (by decide) (by decide) rfl (fun f1 f2 wx hT => ?_)) ?_
              · obtain ⟨nx, hx⟩ := hT; subst hx; refine lands_value (w := wr.drewN nx) ?_ ⟨nx, rfl⟩; go_simp; skip
              simp only [pu]
              refine anyL_take (i := 2) (v := ?_) rfl (by kernel_rfl) (by kernel_rfl) (by kernel_rfl) (yl_other (by decide) (by decide) rfl (fun f1 f2 wx hT => ?_)) ?_; rotate_left
              · obtain ⟨nx, hx⟩ := hT; subst hx; refine lands_value (w := wr.drewN nx) ?_ ⟨nx, rfl⟩; go_simp <;> rfl
              simp only [pu]
              refine anyL_take (i := 3) (v := ?_) rfl (by kernel_rfl) (by kernel_rfl) (by kernel_rfl) (yl_other (by decide) (by decide) rfl (fun f1 f2 wx hT => ?_)) ?_; rotate_left
              · obtain ⟨nx, hx⟩ := hT; subst hx; refine lands_value (w := wr.drewN nx) ?_ ⟨nx, rfl⟩; go_simp <;> rfl
              simp only [pu]
              refine anyL_take (i := 4) (v := ?_) rfl (by kernel_rfl) (by kernel_rfl) (by kernel_rfl) (yl_other (by decide) (by decide) rfl (fun f1 f2 wx hT => ?_)) ?_; rotate_left
              · obtain ⟨nx, hx⟩ := hT; subst hx; refine lands_value (w := wr.drewN nx) ?_ ⟨nx, rfl⟩; go_simp <;> rfl
              simp only [pu]
              refine anyL_take (i := 5) (v := .int .i64 ((k - 1 : Nat) : Int)) rfl (by kernel_rfl) (by kernel_rfl) (by kernel_rfl) (yl_other (by decide) (by decide) rfl (fun f1 f2 wx hT => ?_)) ?_
              · obtain ⟨nx, hx⟩ := hT; subst hx; refine lands_value (w := wr.drewN nx) ?_ ⟨nx, rfl⟩; go_simp; skip
              simp only [pu]
              refine anyL_take (i := 6) (v := .pointer (some (pa.add (k - 1)))) rfl (by kernel_rfl) (by kernel_rfl) (by kernel_rfl) (yl_other (by decide) (by decide) rfl (fun f1 f2 wx hT => ?_)) ?_
              · obtain ⟨nx, hx⟩ := hT; subst hx; refine lands_value (w := wr.drewN nx) ?_ ⟨nx, rfl⟩; go_simp; skip
              simp only [pu]
              refine anyL_take (i := 7) (v := .int .i64 (f (k - 1))) rfl (by kernel_rfl) (by kernel_rfl) (by kernel_rfl) (yl_other (by decide) (by decide) rfl (fun f1 f2 wx hT => ?_)) ?_
              · have cc := HC1.out; obtain ⟨nx, hx⟩ := hT; subst hx; refine lands_value (w := wr.drewN nx) ?_ ⟨nx, rfl⟩; go_simp; skip
              simp only [pu]
              refine anyL_take (i := 8) (v := ?_) rfl (by kernel_rfl) (by kernel_rfl) (by kernel_rfl) (yl_other (by decide) (by decide) rfl (fun f1 f2 wx hT => ?_)) ?_; rotate_left
              · obtain ⟨nx, hx⟩ := hT; subst hx; refine lands_value (w := wr.drewN nx) ?_ ⟨nx, rfl⟩; go_simp <;> rfl
              simp only [pu]
              refine anyL_take (i := 9) (v := ?_) rfl (by kernel_rfl) (by kernel_rfl) (by kernel_rfl) (yl_other (by decide) (by decide) rfl (fun f1 f2 wx hT => ?_)) ?_; rotate_left
              · obtain ⟨nx, hx⟩ := hT; subst hx; refine lands_value (w := wr.drewN nx) ?_ ⟨nx, rfl⟩; go_simp <;> rfl
              simp only [pu]
              refine anyL_take (i := 10) (v := .pointer (some (pa.add k))) rfl (by kernel_rfl) (by kernel_rfl) (by kernel_rfl) (yl_other (by decide) (by decide) rfl (fun f1 f2 wx hT => ?_)) ?_
              · obtain ⟨nx, hx⟩ := hT; subst hx; refine lands_value (w := wr.drewN nx) ?_ ⟨nx, rfl⟩; go_simp; skip
              simp only [pu]
              refine anyL_take (i := 11) (v := .int .i64 (f k)) rfl (by kernel_rfl) (by kernel_rfl) (by kernel_rfl) (yl_other (by decide) (by decide) rfl (fun f1 f2 wx hT => ?_)) ?_
              · have cc := HC0.out; obtain ⟨nx, hx⟩ := hT; subst hx; refine lands_value (w := wr.drewN nx) ?_ ⟨nx, rfl⟩; go_simp; skip
              simp only [pu]
              refine anyL_take (i := 12) (v := .bool true) rfl (by kernel_rfl) (by kernel_rfl) (by kernel_rfl) (yl_other (by decide) (by decide) rfl (fun f1 f2 wx hT => ?_)) ?_
              · have hE := HE.out; obtain ⟨nx, hx⟩ := hT; subst hx; refine lands_value (w := wr.drewN nx) ?_ ⟨nx, rfl⟩; go_simp; skip
              simp only [pu]
              refine anyL_take (i := 13) (v := .bool true) rfl (by kernel_rfl) (by kernel_rfl) (by kernel_rfl) (yl_other (by decide) (by decide) rfl (fun f1 f2 wx hT => ?_)) ?_
              · obtain ⟨nx, hx⟩ := hT; subst hx; refine lands_value (w := wr.drewN nx) ?_ ⟨nx, rfl⟩; go_simp; skip
              simp only [pu]
              refine anyL_take (i := 14) (v := ?_) rfl (by kernel_rfl) (by kernel_rfl) (by kernel_rfl) (yl_other (by decide) (by decide) rfl (fun f1 f2 wx hT => ?_)) ?_; rotate_left
              · obtain ⟨nx, hx⟩ := hT; subst hx; refine lands_value (w := wr.drewN nx) ?_ ⟨nx, rfl⟩; go_simp <;> rfl
              simp only [pu]
              refine anyL_take (i := 15) (v := ?_) rfl (by kernel_rfl) (by kernel_rfl) (by kernel_rfl) (yl_other (by decide) (by decide) rfl (fun f1 f2 wx hT => ?_)) ?_; rotate_left
              · obtain ⟨nx, hx⟩ := hT; subst hx; refine lands_value (w := wr.drewN nx) ?_ ⟨nx, rfl⟩; go_simp <;> rfl
              simp only [pu]
              refine anyL_take (i := 16) (v := ?_) rfl (by kernel_rfl) (by kernel_rfl) (by kernel_rfl) (yl_other (by decide) (by decide) rfl (fun f1 f2 wx hT => ?_)) ?_; rotate_left
              · obtain ⟨nx, hx⟩ := hT; subst hx; refine lands_value (w := wr.drewN nx) ?_ ⟨nx, rfl⟩; go_simp <;> rfl
              simp only [pu]
              refine anyL_take (i := 17) (v := .int .i64 (t : Int)) rfl (by kernel_rfl) (by kernel_rfl) (by kernel_rfl) (yl_other (by decide) (by decide) rfl (fun f1 f2 wx hT => ?_)) ?_
              · obtain ⟨nx, hx⟩ := hT; subst hx; refine lands_calls (f := 19) ((HC.out nx).mono fun e w' ⟨he, hq⟩ => ⟨he, hq⟩) ?_; go_simp; skip
              simp only [pu]
              refine anyL_take (i := 18) (v := .bool true) rfl (by kernel_rfl) (by kernel_rfl) (by kernel_rfl) (yl_other (by decide) (by decide) rfl (fun f1 f2 wx hT => ?_)) ?_
              · obtain ⟨nx, hx⟩ := hT; subst hx; refine lands_value (w := wr.drewN nx) ?_ ⟨nx, rfl⟩; go_simp; skip
              simp only [pu]
              refine anyL_take (i := 19) (v := .bool true) rfl (by kernel_rfl) (by kernel_rfl) (by kernel_rfl) (yl_other (by decide) (by decide) rfl (fun f1 f2 wx hT => ?_)) ?_
              · obtain ⟨nx, hx⟩ := hT; subst hx; refine lands_value (w := wr.drewN nx) ?_ ⟨nx, rfl⟩; go_simp; skip
              simp only [pu]
              refine anyL_done rfl ?_ _
              rintro w2 ⟨nx, rfl⟩
              clear hk2 hk3 HC1 HE cc
              have HC2 := Lib.hid (HC.out nx)
              clear HC
              go_wp2_with fail
              refine HC2.out.mono ?_
              rintro e w3 ⟨rfl, ny, rfl⟩
              have HT : Hid (runsV f n = (l ++ [(16, t - 3, 2)]) ++ runsG f n (n - (k + t)) (k + t)) := Lib.hid (by
                have h1 := HKN.out.1
                have h2 := HKN.out.2
                rw [HK.out, show n - k = n - k - 1 + 1 by omega, runsG_one HKN.out.1, HN.out, runsG_more f n (n - k - 1) (n - (k + t)) _ (by have := HP.out; omega) (by have := HP.out; omega)]
                simp)
              have H0 : Hid (LS 3 1 w.heap.size w (runA l) x1 (wr.drewN (ny)) ∧ LS 3 1 w.heap.size w (runB l) x2 (wr.drewN (ny)) ∧ (∀ i, x1.ownBlock = some i → x2.ownBlock ≠ some i)) := Lib.hid ⟨HL.out.1.below (belowN (Below.refl _ wr) _), HL.out.2.1.below (belowN (Below.refl _ wr) _), HL.out.2.2⟩
              have hkw : IntKind.i64.wrap ((k : Int) + (t : Int)) = ((k + t : Nat) : Int) := by have := HKN.out; have := HP.out; rw [IntWalk.i64_in _ (by omega)]; omega
              generalize wr.drewN (ny) = wz at H0 ⊢
              clear HL HK HN
              go_wp2_with (first | (at_builtin; refine wpList_oneI rfl (.tmp 61) (.tmp 63) 31 rfl rfl rfl H0.out.1 (16) rfl HLN.out.1 ?_; intro v9 w9 h9 g9; have H9 : Hid (LS 3 1 w.heap.size w (runA (l ++ [(16, t - 3, 2)])) v9 w9 ∧ LS 3 1 w.heap.size w (runB l) x2 w9 ∧ (∀ i, v9.ownBlock = some i → x2.ownBlock ≠ some i)) := Lib.hid ⟨by rw [runA_one]; exact h9, H0.out.2.1.gr g9 (ne_sym H0.out.2.2) (fun i e => (H0.out.1.ownB i e).1), ne_sym (ne_gr g9 (ne_sym H0.out.2.2) (fun i e => (H0.out.2.1.ownB i e).2))⟩; clear h9 g9) | (at_builtin; refine wpList_oneI rfl (.tmp 65) (.tmp 67) 31 rfl rfl rfl H9.out.2.1 ((t - 3 : Nat) : Int) rfl HLN.out.2 ?_; intro v10 w10 h10 g10; have H10 : Hid (LS 3 1 w.heap.size w (runA (l ++ [(16, t - 3, 2)])) v9 w10 ∧ LS 3 1 w.heap.size w (runB (l ++ [(16, t - 3, 2)])) v10 w10 ∧ (∀ i, v9.ownBlock = some i → v10.ownBlock ≠ some i)) := Lib.hid ⟨H9.out.1.gr g10 H9.out.2.2 (fun i e => (H9.out.2.1.ownB i e).1), by rw [runB_one]; exact h10, ne_gr g10 H9.out.2.2 (fun i e => (H9.out.1.ownB i e).2)⟩; clear h10 g10))
              go_roundg (n - (k + t))
              case measure => have := HKN.out; have := HP.out; omega
              case rel => exact ⟨k + t, _, _, l ++ [(16, t - 3, 2)], rfl, rfl, rfl, by go_num, by have := HP.out; omega, by rw [List.length_append]; have := HKN.out; have := HP.out; show l.length + 1 ≤ k + t; omega, HT, H10⟩
            · have hk0 : (k : Int) > 0 := by omega
              have hk1 : (0 : Int) < (k : Int) := by omega
              have hk2 : IntKind.i64.wrap ((k : Int) - 1) = ((k - 1 : Nat) : Int) := by rw [IntWalk.i64_in _ (by omega)]; omega
              have hk3 : ((k - 1 : Nat) : Int) < (n : Int) := by omega
              have HC1 := Lib.hid (hI.cell pa rfl (k - 1) (by omega))
              have HE : Hid ((f (k - 1) == f k) = true) := Lib.hid (beq_iff_eq.2 hs)
              have htl := ali_le f n k 6
              obtain ⟨t, ht⟩ : ∃ t, t = ali f n k 6 := ⟨_, rfl⟩
              have HC : Hid (∀ nx, Calls Try.prog 19 #[.slice (some pa) n cap, .int .i64 (k : Int), .int .i64 6] (wr.drewN nx) fun e w' => e = .returned (.int .i64 (t : Int)) ∧ ∃ nq, w' = wr.drewN nq) := Lib.hid fun nx => by
                rw [ht]
                refine (rrun_any (some pa) n cap f k 6 (wr.drewN nx) (hI.below (belowN (Below.refl _ wr) nx)) hlt (by omega) (by decide)).mono ?_
                rintro e w' ⟨h1, nq, h2⟩
                exact ⟨h1, nx + nq, by rw [h2, World.drewN_drewN]⟩
              rw [← ht] at htl
              have hg3 : ¬ (t : Int) ≥ 3 := by omega
              have hg4 : ¬ (3 : Int) ≤ (t : Int) := by omega
              have HN : Hid (runV f n k = ((f k, 0, 0), 1)) := Lib.hid (by rw [HV.out, if_neg hz, if_neg (fun h => by have := h.2.2; omega)])
              have HP : Hid (0 < 1 ∧ k + 1 ≤ n) := Lib.hid (by have := HPV.out; rw [HN.out] at this; exact this)
              have cc : wr.cell? (pa.add k) = some (.int .i64 (f k)) := HC0.out
              have hE0 := HE0.out
              clear ht
              clear HV HPV hI
              go_wp2_with fail
              refine wp_region_anyL (Two 1000 1001 fun _ _ wx => ∃ nx, wx = wr.drewN nx) (by kernel_rfl) ⟨1, rfl⟩ ?_
              refine anyL_take (i := 0) (v := ?_) rfl (by kernel_rfl) (by kernel_rfl) (by kernel_rfl) (yl_other (by decide) (by decide) rfl (fun f1 f2 wx hT => ?_)) ?_; rotate_left
              · obtain ⟨nx, hx⟩ := hT; subst hx; refine lands_value (w := wr.drewN nx) ?_ ⟨nx, rfl⟩; go_simp <;> rfl
              simp only [pu]
              refine anyL_take (i := 1) (v := .bool true) rfl (by kernel_rfl) (by kernel_rfl) (by kernel_rfl) (yl_other (by decide) (by decide) rfl (fun f1 f2 wx hT => ?_)) ?_
              · obtain ⟨nx, hx⟩ := hT; subst hx; refine lands_value (w := wr.drewN nx) ?_ ⟨nx, rfl⟩; go_simp; skip
              simp only [pu]
              refine anyL_take (i := 2) (v := ?_) rfl (by kernel_rfl) (by kernel_rfl) (by kernel_rfl) (yl_other (by decide) (by decide) rfl (fun f1 f2 wx hT => ?_)) ?_; rotate_left
              · obtain ⟨nx, hx⟩ := hT; subst hx; refine lands_value (w := wr.drewN nx) ?_ ⟨nx, rfl⟩; go_simp <;> rfl
              simp only [pu]
              refine anyL_take (i := 3) (v := ?_) rfl (by kernel_rfl) (by kernel_rfl) (by kernel_rfl) (yl_other (by decide) (by decide) rfl (fun f1 f2 wx hT => ?_)) ?_; rotate_left
              · obtain ⟨nx, hx⟩ := hT; subst hx; refine lands_value (w := wr.drewN nx) ?_ ⟨nx, rfl⟩; go_simp <;> rfl
              simp only [pu]
              refine anyL_take (i := 4) (v := ?_) rfl (by kernel_rfl) (by kernel_rfl) (by kernel_rfl) (yl_other (by decide) (by decide) rfl (fun f1 f2 wx hT => ?_)) ?_; rotate_left
              · obtain ⟨nx, hx⟩ := hT; subst hx; refine lands_value (w := wr.drewN nx) ?_ ⟨nx, rfl⟩; go_simp <;> rfl
              simp only [pu]
              refine anyL_take (i := 5) (v := .int .i64 ((k - 1 : Nat) : Int)) rfl (by kernel_rfl) (by kernel_rfl) (by kernel_rfl) (yl_other (by decide) (by decide) rfl (fun f1 f2 wx hT => ?_)) ?_
              · obtain ⟨nx, hx⟩ := hT; subst hx; refine lands_value (w := wr.drewN nx) ?_ ⟨nx, rfl⟩; go_simp; skip
              simp only [pu]
              refine anyL_take (i := 6) (v := .pointer (some (pa.add (k - 1)))) rfl (by kernel_rfl) (by kernel_rfl) (by kernel_rfl) (yl_other (by decide) (by decide) rfl (fun f1 f2 wx hT => ?_)) ?_
              · obtain ⟨nx, hx⟩ := hT; subst hx; refine lands_value (w := wr.drewN nx) ?_ ⟨nx, rfl⟩; go_simp; skip
              simp only [pu]
              refine anyL_take (i := 7) (v := .int .i64 (f (k - 1))) rfl (by kernel_rfl) (by kernel_rfl) (by kernel_rfl) (yl_other (by decide) (by decide) rfl (fun f1 f2 wx hT => ?_)) ?_
              · have cc := HC1.out; obtain ⟨nx, hx⟩ := hT; subst hx; refine lands_value (w := wr.drewN nx) ?_ ⟨nx, rfl⟩; go_simp; skip
              simp only [pu]
              refine anyL_take (i := 8) (v := ?_) rfl (by kernel_rfl) (by kernel_rfl) (by kernel_rfl) (yl_other (by decide) (by decide) rfl (fun f1 f2 wx hT => ?_)) ?_; rotate_left
              · obtain ⟨nx, hx⟩ := hT; subst hx; refine lands_value (w := wr.drewN nx) ?_ ⟨nx, rfl⟩; go_simp <;> rfl
              simp only [pu]
              refine anyL_take (i := 9) (v := ?_) rfl (by kernel_rfl) (by kernel_rfl) (by kernel_rfl) (yl_other (by decide) (by decide) rfl (fun f1 f2 wx hT => ?_)) ?_; rotate_left
              · obtain ⟨nx, hx⟩ := hT; subst hx; refine lands_value (w := wr.drewN nx) ?_ ⟨nx, rfl⟩; go_simp <;> rfl
              simp only [pu]
              refine anyL_take (i := 10) (v := .pointer (some (pa.add k))) rfl (by kernel_rfl) (by kernel_rfl) (by kernel_rfl) (yl_other (by decide) (by decide) rfl (fun f1 f2 wx hT => ?_)) ?_
              · obtain ⟨nx, hx⟩ := hT; subst hx; refine lands_value (w := wr.drewN nx) ?_ ⟨nx, rfl⟩; go_simp; skip
              simp only [pu]
              refine anyL_take (i := 11) (v := .int .i64 (f k)) rfl (by kernel_rfl) (by kernel_rfl) (by kernel_rfl) (yl_other (by decide) (by decide) rfl (fun f1 f2 wx hT => ?_)) ?_
              · have cc := HC0.out; obtain ⟨nx, hx⟩ := hT; subst hx; refine lands_value (w := wr.drewN nx) ?_ ⟨nx, rfl⟩; go_simp; skip
              simp only [pu]
              refine anyL_take (i := 12) (v := .bool true) rfl (by kernel_rfl) (by kernel_rfl) (by kernel_rfl) (yl_other (by decide) (by decide) rfl (fun f1 f2 wx hT => ?_)) ?_
              · have hE := HE.out; obtain ⟨nx, hx⟩ := hT; subst hx; refine lands_value (w := wr.drewN nx) ?_ ⟨nx, rfl⟩; go_simp; skip
              simp only [pu]
              refine anyL_take (i := 13) (v := .bool true) rfl (by kernel_rfl) (by kernel_rfl) (by kernel_rfl) (yl_other (by decide) (by decide) rfl (fun f1 f2 wx hT => ?_)) ?_
              · obtain ⟨nx, hx⟩ := hT; subst hx; refine lands_value (w := wr.drewN nx) ?_ ⟨nx, rfl⟩; go_simp; skip
              simp only [pu]
              refine anyL_take (i := 14) (v := ?_) rfl (by kernel_rfl) (by kernel_rfl) (by kernel_rfl) (yl_other (by decide) (by decide) rfl (fun f1 f2 wx hT => ?_)) ?_; rotate_left
              · obtain ⟨nx, hx⟩ := hT; subst hx; refine lands_value (w := wr.drewN nx) ?_ ⟨nx, rfl⟩; go_simp <;> rfl
              simp only [pu]
              refine anyL_take (i := 15) (v := ?_) rfl (by kernel_rfl) (by kernel_rfl) (by kernel_rfl) (yl_other (by decide) (by decide) rfl (fun f1 f2 wx hT => ?_)) ?_; rotate_left
              · obtain ⟨nx, hx⟩ := hT; subst hx; refine lands_value (w := wr.drewN nx) ?_ ⟨nx, rfl⟩; go_simp <;> rfl
              simp only [pu]
              refine anyL_take (i := 16) (v := ?_) rfl (by kernel_rfl) (by kernel_rfl) (by kernel_rfl) (yl_other (by decide) (by decide) rfl (fun f1 f2 wx hT => ?_)) ?_; rotate_left
              · obtain ⟨nx, hx⟩ := hT; subst hx; refine lands_value (w := wr.drewN nx) ?_ ⟨nx, rfl⟩; go_simp <;> rfl
              simp only [pu]
              refine anyL_take (i := 17) (v := .int .i64 (t : Int)) rfl (by kernel_rfl) (by kernel_rfl) (by kernel_rfl) (yl_other (by decide) (by decide) rfl (fun f1 f2 wx hT => ?_)) ?_
              · obtain ⟨nx, hx⟩ := hT; subst hx; refine lands_calls (f := 19) ((HC.out nx).mono fun e w' ⟨he, hq⟩ => ⟨he, hq⟩) ?_; go_simp; skip
              simp only [pu]
              refine anyL_take (i := 18) (v := .bool false) rfl (by kernel_rfl) (by kernel_rfl) (by kernel_rfl) (yl_other (by decide) (by decide) rfl (fun f1 f2 wx hT => ?_)) ?_
              · obtain ⟨nx, hx⟩ := hT; subst hx; refine lands_value (w := wr.drewN nx) ?_ ⟨nx, rfl⟩; go_simp; skip
              simp only [pu]
              refine anyL_take (i := 19) (v := .bool false) rfl (by kernel_rfl) (by kernel_rfl) (by kernel_rfl) (yl_other (by decide) (by decide) rfl (fun f1 f2 wx hT => ?_)) ?_
              · obtain ⟨nx, hx⟩ := hT; subst hx; refine lands_value (w := wr.drewN nx) ?_ ⟨nx, rfl⟩; go_simp; skip
              simp only [pu]
              refine anyL_done rfl ?_ _
              rintro w2 ⟨nx, rfl⟩
              clear cc
              have HT : Hid (runsV f n = (l ++ [(f k, 0, 0)]) ++ runsG f n (n - (k + 1)) (k + 1)) := Lib.hid (by
                have h1 := HKN.out.1
                have h2 := HKN.out.2
                rw [HK.out, show n - k = n - k - 1 + 1 by omega, runsG_one HKN.out.1, HN.out, runsG_more f n (n - k - 1) (n - (k + 1)) _ (by have := HP.out; omega) (by have := HP.out; omega)]
                simp)
              have H0 : Hid (LS 3 1 w.heap.size w (runA l) x1 (wr.drewN (nx)) ∧ LS 3 1 w.heap.size w (runB l) x2 (wr.drewN (nx)) ∧ (∀ i, x1.ownBlock = some i → x2.ownBlock ≠ some i)) := Lib.hid ⟨HL.out.1.below (belowN (Below.refl _ wr) _), HL.out.2.1.below (belowN (Below.refl _ wr) _), HL.out.2.2⟩
              have hkw : IntKind.i64.wrap ((k : Int) + 1) = ((k + 1 : Nat) : Int) := by have := HKN.out; have := HP.out; rw [IntWalk.i64_in _ (by omega)]; omega
              generalize wr.drewN (nx) = wz at H0 ⊢
              clear HL HK HN
              go_wp2_with (first | (at_builtin; refine wpList_oneI rfl (.tmp 61) (.tmp 63) 31 rfl rfl rfl H0.out.1 (f k) rfl HLN.out.1 ?_; intro v9 w9 h9 g9; have H9 : Hid (LS 3 1 w.heap.size w (runA (l ++ [(f k, 0, 0)])) v9 w9 ∧ LS 3 1 w.heap.size w (runB l) x2 w9 ∧ (∀ i, v9.ownBlock = some i → x2.ownBlock ≠ some i)) := Lib.hid ⟨by rw [runA_one]; exact h9, H0.out.2.1.gr g9 (ne_sym H0.out.2.2) (fun i e => (H0.out.1.ownB i e).1), ne_sym (ne_gr g9 (ne_sym H0.out.2.2) (fun i e => (H0.out.2.1.ownB i e).2))⟩; clear h9 g9) | (at_builtin; refine wpList_oneI rfl (.tmp 65) (.tmp 67) 31 rfl rfl rfl H9.out.2.1 ((0 : Nat) : Int) rfl HLN.out.2 ?_; intro v10 w10 h10 g10; have H10 : Hid (LS 3 1 w.heap.size w (runA (l ++ [(f k, 0, 0)])) v9 w10 ∧ LS 3 1 w.heap.size w (runB (l ++ [(f k, 0, 0)])) v10 w10 ∧ (∀ i, v9.ownBlock = some i → v10.ownBlock ≠ some i)) := Lib.hid ⟨H9.out.1.gr g10 H9.out.2.2 (fun i e => (H9.out.2.1.ownB i e).1), by rw [runB_one]; exact h10, ne_gr g10 H9.out.2.2 (fun i e => (H9.out.1.ownB i e).2)⟩; clear h10 g10))
              go_roundg (n - (k + 1))
              case measure => have := HKN.out; have := HP.out; omega
              case rel => exact ⟨k + 1, _, _, l ++ [(f k, 0, 0)], rfl, rfl, rfl, by go_num, by have := HP.out; omega, by rw [List.length_append]; have := HKN.out; have := HP.out; show l.length + 1 ≤ k + 1; omega, HT, H10⟩
          · have hk0 : (k : Int) > 0 := by omega
            have hk1 : (0 : Int) < (k : Int) := by omega
            have hk2 : IntKind.i64.wrap ((k : Int) - 1) = ((k - 1 : Nat) : Int) := by rw [IntWalk.i64_in _ (by omega)]; omega
            have hk3 : ((k - 1 : Nat) : Int) < (n : Int) := by omega
            have HC1 := Lib.hid (hI.cell pa rfl (k - 1) (by omega))
            have HE : Hid ((f (k - 1) == f k) = false) := Lib.hid (beq_eq_false_iff_ne.2 hs)
            have HN : Hid (runV f n k = ((f k, 0, 0), 1)) := Lib.hid (by rw [HV.out, if_neg hz, if_neg (fun h => hs h.2.1)])
            have HP : Hid (0 < 1 ∧ k + 1 ≤ n) := Lib.hid (by have := HPV.out; rw [HN.out] at this; exact this)
            have cc : wr.cell? (pa.add k) = some (.int .i64 (f k)) := HC0.out
            have hE0 := HE0.out
            clear HV HPV hI
            go_wp2_with fail
            refine wp_region_anyL (Two 1000 1001 fun _ _ wx => ∃ nx, wx = wr.drewN nx) (by kernel_rfl) ⟨1, rfl⟩ ?_
            refine anyL_take (i := 0) (v := ?_) rfl (by kernel_rfl) (by kernel_rfl) (by kernel_rfl) (yl_other (by decide) (by decide) rfl (fun f1 f2 wx hT => ?_)) ?_; rotate_left
            · obtain ⟨nx, hx⟩ := hT; subst hx; refine lands_value (w := wr.drewN nx) ?_ ⟨nx, rfl⟩; go_simp <;> rfl
            simp only [pu]
            refine anyL_take (i := 1) (v := .bool true) rfl (by kernel_rfl) (by kernel_rfl) (by kernel_rfl) (yl_other (by decide) (by decide) rfl (fun f1 f2 wx hT => ?_)) ?_
            · obtain ⟨nx, hx⟩ := hT; subst hx; refine lands_value (w := wr.drewN nx) ?_ ⟨nx, rfl⟩; go_simp; skip
            simp only [pu]
            refine anyL_take (i := 2) (v := ?_) rfl (by kernel_rfl) (by kernel_rfl) (by kernel_rfl) (yl_other (by decide) (by decide) rfl (fun f1 f2 wx hT => ?_)) ?_; rotate_left
            · obtain ⟨nx, hx⟩ := hT; subst hx; refine lands_value (w := wr.drewN nx) ?_ ⟨nx, rfl⟩; go_simp <;> rfl
            simp only [pu]
            refine anyL_take (i := 3) (v := ?_) rfl (by kernel_rfl) (by kernel_rfl) (by kernel_rfl) (yl_other (by decide) (by decide) rfl (fun f1 f2 wx hT => ?_)) ?_; rotate_left
            · obtain ⟨nx, hx⟩ := hT; subst hx; refine lands_value (w := wr.drewN nx) ?_ ⟨nx, rfl⟩; go_simp <;> rfl
            simp only [pu]
            refine anyL_take (i := 4) (v := ?_) rfl (by kernel_rfl) (by kernel_rfl) (by kernel_rfl) (yl_other (by decide) (by decide) rfl (fun f1 f2 wx hT => ?_)) ?_; rotate_left
            · obtain ⟨nx, hx⟩ := hT; subst hx; refine lands_value (w := wr.drewN nx) ?_ ⟨nx, rfl⟩; go_simp <;> rfl
            simp only [pu]
            refine anyL_take (i := 5) (v := .int .i64 ((k - 1 : Nat) : Int)) rfl (by kernel_rfl) (by kernel_rfl) (by kernel_rfl) (yl_other (by decide) (by decide) rfl (fun f1 f2 wx hT => ?_)) ?_
            · obtain ⟨nx, hx⟩ := hT; subst hx; refine lands_value (w := wr.drewN nx) ?_ ⟨nx, rfl⟩; go_simp; skip
            simp only [pu]
            refine anyL_take (i := 6) (v := .pointer (some (pa.add (k - 1)))) rfl (by kernel_rfl) (by kernel_rfl) (by kernel_rfl) (yl_other (by decide) (by decide) rfl (fun f1 f2 wx hT => ?_)) ?_
            · obtain ⟨nx, hx⟩ := hT; subst hx; refine lands_value (w := wr.drewN nx) ?_ ⟨nx, rfl⟩; go_simp; skip
            simp only [pu]
            refine anyL_take (i := 7) (v := .int .i64 (f (k - 1))) rfl (by kernel_rfl) (by kernel_rfl) (by kernel_rfl) (yl_other (by decide) (by decide) rfl (fun f1 f2 wx hT => ?_)) ?_
            · have cc := HC1.out; obtain ⟨nx, hx⟩ := hT; subst hx; refine lands_value (w := wr.drewN nx) ?_ ⟨nx, rfl⟩; go_simp; skip
            simp only [pu]
            refine anyL_take (i := 8) (v := ?_) rfl (by kernel_rfl) (by kernel_rfl) (by kernel_rfl) (yl_other (by decide) (by decide) rfl (fun f1 f2 wx hT => ?_)) ?_; rotate_left
            · obtain ⟨nx, hx⟩ := hT; subst hx; refine lands_value (w := wr.drewN nx) ?_ ⟨nx, rfl⟩; go_simp <;> rfl
            simp only [pu]
            refine anyL_take (i := 9) (v := ?_) rfl (by kernel_rfl) (by kernel_rfl) (by kernel_rfl) (yl_other (by decide) (by decide) rfl (fun f1 f2 wx hT => ?_)) ?_; rotate_left
            · obtain ⟨nx, hx⟩ := hT; subst hx; refine lands_value (w := wr.drewN nx) ?_ ⟨nx, rfl⟩; go_simp <;> rfl
            simp only [pu]
            refine anyL_take (i := 10) (v := .pointer (some (pa.add k))) rfl (by kernel_rfl) (by kernel_rfl) (by kernel_rfl) (yl_other (by decide) (by decide) rfl (fun f1 f2 wx hT => ?_)) ?_
            · obtain ⟨nx, hx⟩ := hT; subst hx; refine lands_value (w := wr.drewN nx) ?_ ⟨nx, rfl⟩; go_simp; skip
            simp only [pu]
            refine anyL_take (i := 11) (v := .int .i64 (f k)) rfl (by kernel_rfl) (by kernel_rfl) (by kernel_rfl) (yl_other (by decide) (by decide) rfl (fun f1 f2 wx hT => ?_)) ?_
            · have cc := HC0.out; obtain ⟨nx, hx⟩ := hT; subst hx; refine lands_value (w := wr.drewN nx) ?_ ⟨nx, rfl⟩; go_simp; skip
            simp only [pu]
            refine anyL_take (i := 12) (v := .bool false) rfl (by kernel_rfl) (by kernel_rfl) (by kernel_rfl) (yl_other (by decide) (by decide) rfl (fun f1 f2 wx hT => ?_)) ?_
            · have hE := HE.out; obtain ⟨nx, hx⟩ := hT; subst hx; refine lands_value (w := wr.drewN nx) ?_ ⟨nx, rfl⟩; go_simp; skip
            simp only [pu]
            refine anyL_take (i := 13) (v := .bool false) rfl (by kernel_rfl) (by kernel_rfl) (by kernel_rfl) (yl_other (by decide) (by decide) rfl (fun f1 f2 wx hT => ?_)) ?_
            · obtain ⟨nx, hx⟩ := hT; subst hx; refine lands_value (w := wr.drewN nx) ?_ ⟨nx, rfl⟩; go_simp; skip
            simp only [pu]
            refine anyL_take (i := 14) (v := ?_) rfl (by kernel_rfl) (by kernel_rfl) (by kernel_rfl) (yl_other (by decide) (by decide) rfl (fun f1 f2 wx hT => ?_)) ?_; rotate_left
            · obtain ⟨nx, hx⟩ := hT; subst hx; refine lands_value (w := wr.drewN nx) ?_ ⟨nx, rfl⟩; go_simp <;> rfl
            simp only [pu]
            refine anyL_take (i := 15) (v := undef) rfl (by kernel_rfl) (by kernel_rfl) (by kernel_rfl) (yl_skip (by decide) (by decide) rfl) ?_
            simp only [pu]
            refine anyL_take (i := 16) (v := undef) rfl (by kernel_rfl) (by kernel_rfl) (by kernel_rfl) (yl_skip (by decide) (by decide) rfl) ?_
            simp only [pu]
            refine anyL_take (i := 17) (v := undef) rfl (by kernel_rfl) (by kernel_rfl) (by kernel_rfl) (yl_skip (by decide) (by decide) rfl) ?_
            simp only [pu]
            refine anyL_take (i := 18) (v := undef) rfl (by kernel_rfl) (by kernel_rfl) (by kernel_rfl) (yl_skip (by decide) (by decide) rfl) ?_
            simp only [pu]
            refine anyL_take (i := 19) (v := .bool false) rfl (by kernel_rfl) (by kernel_rfl) (by kernel_rfl) (yl_other (by decide) (by decide) rfl (fun f1 f2 wx hT => ?_)) ?_
            · obtain ⟨nx, hx⟩ := hT; subst hx; refine lands_value (w := wr.drewN nx) ?_ ⟨nx, rfl⟩; go_simp; skip
            simp only [pu]
            refine anyL_done rfl ?_ _
            rintro w2 ⟨nx, rfl⟩
            clear cc
            have HT : Hid (runsV f n = (l ++ [(f k, 0, 0)]) ++ runsG f n (n - (k + 1)) (k + 1)) := Lib.hid (by
              have h1 := HKN.out.1
              have h2 := HKN.out.2
              rw [HK.out, show n - k = n - k - 1 + 1 by omega, runsG_one HKN.out.1, HN.out, runsG_more f n (n - k - 1) (n - (k + 1)) _ (by have := HP.out; omega) (by have := HP.out; omega)]
              simp)
            have H0 : Hid (LS 3 1 w.heap.size w (runA l) x1 (wr.drewN (nx)) ∧ LS 3 1 w.heap.size w (runB l) x2 (wr.drewN (nx)) ∧ (∀ i, x1.ownBlock = some i → x2.ownBlock ≠ some i)) := Lib.hid ⟨HL.out.1.below (belowN (Below.refl _ wr) _), HL.out.2.1.below (belowN (Below.refl _ wr) _), HL.out.2.2⟩
            have hkw : IntKind.i64.wrap ((k : Int) + 1) = ((k + 1 : Nat) : Int) := by have := HKN.out; have := HP.out; rw [IntWalk.i64_in _ (by omega)]; omega
            generalize wr.drewN (nx) = wz at H0 ⊢
            clear HL HK HN
            go_wp2_with (first | (at_builtin; refine wpList_oneI rfl (.tmp 61) (.tmp 63) 31 rfl rfl rfl H0.out.1 (f k) rfl HLN.out.1 ?_; intro v9 w9 h9 g9; have H9 : Hid (LS 3 1 w.heap.size w (runA (l ++ [(f k, 0, 0)])) v9 w9 ∧ LS 3 1 w.heap.size w (runB l) x2 w9 ∧ (∀ i, v9.ownBlock = some i → x2.ownBlock ≠ some i)) := Lib.hid ⟨by rw [runA_one]; exact h9, H0.out.2.1.gr g9 (ne_sym H0.out.2.2) (fun i e => (H0.out.1.ownB i e).1), ne_sym (ne_gr g9 (ne_sym H0.out.2.2) (fun i e => (H0.out.2.1.ownB i e).2))⟩; clear h9 g9) | (at_builtin; refine wpList_oneI rfl (.tmp 65) (.tmp 67) 31 rfl rfl rfl H9.out.2.1 ((0 : Nat) : Int) rfl HLN.out.2 ?_; intro v10 w10 h10 g10; have H10 : Hid (LS 3 1 w.heap.size w (runA (l ++ [(f k, 0, 0)])) v9 w10 ∧ LS 3 1 w.heap.size w (runB (l ++ [(f k, 0, 0)])) v10 w10 ∧ (∀ i, v9.ownBlock = some i → v10.ownBlock ≠ some i)) := Lib.hid ⟨H9.out.1.gr g10 H9.out.2.2 (fun i e => (H9.out.2.1.ownB i e).1), by rw [runB_one]; exact h10, ne_gr g10 H9.out.2.2 (fun i e => (H9.out.1.ownB i e).2)⟩; clear h10 g10))
            go_roundg (n - (k + 1))
            case measure => have := HKN.out; have := HP.out; omega
            case rel => exact ⟨k + 1, _, _, l ++ [(f k, 0, 0)], rfl, rfl, rfl, by go_num, by have := HP.out; omega, by rw [List.length_append]; have := HKN.out; have := HP.out; show l.length + 1 ≤ k + 1; omega, HT, H10⟩
        · have hk0 : ¬ (k : Int) > 0 := by omega
          have hk1 : ¬ (0 : Int) < (k : Int) := by omega
          have HN : Hid (runV f n k = ((f k, 0, 0), 1)) := Lib.hid (by rw [HV.out, if_neg hz, if_neg (fun h => by omega)])
          have HP : Hid (0 < 1 ∧ k + 1 ≤ n) := Lib.hid (by have := HPV.out; rw [HN.out] at this; exact this)
          have cc : wr.cell? (pa.add k) = some (.int .i64 (f k)) := HC0.out
          have hE0 := HE0.out
          clear HV HPV hI
          go_wp2_with fail
          refine wp_region_anyL (Two 1000 1001 fun _ _ wx => ∃ nx, wx = wr.drewN nx) (by kernel_rfl) ⟨1, rfl⟩ ?_
          refine anyL_take (i := 0) (v := ?_) rfl (by kernel_rfl) (by kernel_rfl) (by kernel_rfl) (yl_other (by decide) (by decide) rfl (fun f1 f2 wx hT => ?_)) ?_; rotate_left
          · obtain ⟨nx, hx⟩ := hT; subst hx; refine lands_value (w := wr.drewN nx) ?_ ⟨nx, rfl⟩; go_simp <;> rfl
          simp only [pu]
          refine anyL_take (i := 1) (v := .bool false) rfl (by kernel_rfl) (by kernel_rfl) (by kernel_rfl) (yl_other (by decide) (by decide) rfl (fun f1 f2 wx hT => ?_)) ?_
          · obtain ⟨nx, hx⟩ := hT; subst hx; refine lands_value (w := wr.drewN nx) ?_ ⟨nx, rfl⟩; go_simp; skip
          simp only [pu]
          refine anyL_take (i := 2) (v := ?_) rfl (by kernel_rfl) (by kernel_rfl) (by kernel_rfl) (yl_other (by decide) (by decide) rfl (fun f1 f2 wx hT => ?_)) ?_; rotate_left
          · obtain ⟨nx, hx⟩ := hT; subst hx; refine lands_value (w := wr.drewN nx) ?_ ⟨nx, rfl⟩; go_simp <;> rfl
          simp only [pu]
          refine anyL_take (i := 3) (v := undef) rfl (by kernel_rfl) (by kernel_rfl) (by kernel_rfl) (yl_skip (by decide) (by decide) rfl) ?_
          simp only [pu]
          refine anyL_take (i := 4) (v := undef) rfl (by kernel_rfl) (by kernel_rfl) (by kernel_rfl) (yl_skip (by decide) (by decide) rfl) ?_
          simp only [pu]
          refine anyL_take (i := 5) (v := undef) rfl (by kernel_rfl) (by kernel_rfl) (by kernel_rfl) (yl_skip (by decide) (by decide) rfl) ?_
          simp only [pu]
          refine anyL_take (i := 6) (v := undef) rfl (by kernel_rfl) (by kernel_rfl) (by kernel_rfl) (yl_skip (by decide) (by decide) rfl) ?_
          simp only [pu]
          refine anyL_take (i := 7) (v := undef) rfl (by kernel_rfl) (by kernel_rfl) (by kernel_rfl) (yl_skip (by decide) (by decide) rfl) ?_
          simp only [pu]
          refine anyL_take (i := 8) (v := undef) rfl (by kernel_rfl) (by kernel_rfl) (by kernel_rfl) (yl_skip (by decide) (by decide) rfl) ?_
          simp only [pu]
          refine anyL_take (i := 9) (v := undef) rfl (by kernel_rfl) (by kernel_rfl) (by kernel_rfl) (yl_skip (by decide) (by decide) rfl) ?_
          simp only [pu]
          refine anyL_take (i := 10) (v := undef) rfl (by kernel_rfl) (by kernel_rfl) (by kernel_rfl) (yl_skip (by decide) (by decide) rfl) ?_
          simp only [pu]
          refine anyL_take (i := 11) (v := undef) rfl (by kernel_rfl) (by kernel_rfl) (by kernel_rfl) (yl_skip (by decide) (by decide) rfl) ?_
          simp only [pu]
          refine anyL_take (i := 12) (v := undef) rfl (by kernel_rfl) (by kernel_rfl) (by kernel_rfl) (yl_skip (by decide) (by decide) rfl) ?_
          simp only [pu]
          refine anyL_take (i := 13) (v := .bool false) rfl (by kernel_rfl) (by kernel_rfl) (by kernel_rfl) (yl_other (by decide) (by decide) rfl (fun f1 f2 wx hT => ?_)) ?_
          · obtain ⟨nx, hx⟩ := hT; subst hx; refine lands_value (w := wr.drewN nx) ?_ ⟨nx, rfl⟩; go_simp; skip
          simp only [pu]
          refine anyL_take (i := 14) (v := ?_) rfl (by kernel_rfl) (by kernel_rfl) (by kernel_rfl) (yl_other (by decide) (by decide) rfl (fun f1 f2 wx hT => ?_)) ?_; rotate_left
          · obtain ⟨nx, hx⟩ := hT; subst hx; refine lands_value (w := wr.drewN nx) ?_ ⟨nx, rfl⟩; go_simp <;> rfl
          simp only [pu]
          refine anyL_take (i := 15) (v := undef) rfl (by kernel_rfl) (by kernel_rfl) (by kernel_rfl) (yl_skip (by decide) (by decide) rfl) ?_
          simp only [pu]
          refine anyL_take (i := 16) (v := undef) rfl (by kernel_rfl) (by kernel_rfl) (by kernel_rfl) (yl_skip (by decide) (by decide) rfl) ?_
          simp only [pu]
          refine anyL_take (i := 17) (v := undef) rfl (by kernel_rfl) (by kernel_rfl) (by kernel_rfl) (yl_skip (by decide) (by decide) rfl) ?_
          simp only [pu]
          refine anyL_take (i := 18) (v := undef) rfl (by kernel_rfl) (by kernel_rfl) (by kernel_rfl) (yl_skip (by decide) (by decide) rfl) ?_
          simp only [pu]
          refine anyL_take (i := 19) (v := .bool false) rfl (by kernel_rfl) (by kernel_rfl) (by kernel_rfl) (yl_other (by decide) (by decide) rfl (fun f1 f2 wx hT => ?_)) ?_
          · obtain ⟨nx, hx⟩ := hT; subst hx; refine lands_value (w := wr.drewN nx) ?_ ⟨nx, rfl⟩; go_simp; skip
          simp only [pu]
          refine anyL_done rfl ?_ _
          rintro w2 ⟨nx, rfl⟩
          clear cc
          have HT : Hid (runsV f n = (l ++ [(f k, 0, 0)]) ++ runsG f n (n - (k + 1)) (k + 1)) := Lib.hid (by
            have h1 := HKN.out.1
            have h2 := HKN.out.2
            rw [HK.out, show n - k = n - k - 1 + 1 by omega, runsG_one HKN.out.1, HN.out, runsG_more f n (n - k - 1) (n - (k + 1)) _ (by have := HP.out; omega) (by have := HP.out; omega)]
            simp)
          have H0 : Hid (LS 3 1 w.heap.size w (runA l) x1 (wr.drewN (nx)) ∧ LS 3 1 w.heap.size w (runB l) x2 (wr.drewN (nx)) ∧ (∀ i, x1.ownBlock = some i → x2.ownBlock ≠ some i)) := Lib.hid ⟨HL.out.1.below (belowN (Below.refl _ wr) _), HL.out.2.1.below (belowN (Below.refl _ wr) _), HL.out.2.2⟩
          have hkw : IntKind.i64.wrap ((k : Int) + 1) = ((k + 1 : Nat) : Int) := by have := HKN.out; have := HP.out; rw [IntWalk.i64_in _ (by omega)]; omega
          generalize wr.drewN (nx) = wz at H0 ⊢
          clear HL HK HN
          go_wp2_with (first | (at_builtin; refine wpList_oneI rfl (.tmp 61) (.tmp 63) 31 rfl rfl rfl H0.out.1 (f k) rfl HLN.out.1 ?_; intro v9 w9 h9 g9; have H9 : Hid (LS 3 1 w.heap.size w (runA (l ++ [(f k, 0, 0)])) v9 w9 ∧ LS 3 1 w.heap.size w (runB l) x2 w9 ∧ (∀ i, v9.ownBlock = some i → x2.ownBlock ≠ some i)) := Lib.hid ⟨by rw [runA_one]; exact h9, H0.out.2.1.gr g9 (ne_sym H0.out.2.2) (fun i e => (H0.out.1.ownB i e).1), ne_sym (ne_gr g9 (ne_sym H0.out.2.2) (fun i e => (H0.out.2.1.ownB i e).2))⟩; clear h9 g9) | (at_builtin; refine wpList_oneI rfl (.tmp 65) (.tmp 67) 31 rfl rfl rfl H9.out.2.1 ((0 : Nat) : Int) rfl HLN.out.2 ?_; intro v10 w10 h10 g10; have H10 : Hid (LS 3 1 w.heap.size w (runA (l ++ [(f k, 0, 0)])) v9 w10 ∧ LS 3 1 w.heap.size w (runB (l ++ [(f k, 0, 0)])) v10 w10 ∧ (∀ i, v9.ownBlock = some i → v10.ownBlock ≠ some i)) := Lib.hid ⟨H9.out.1.gr g10 H9.out.2.2 (fun i e => (H9.out.2.1.ownB i e).1), by rw [runB_one]; exact h10, ne_gr g10 H9.out.2.2 (fun i e => (H9.out.1.ownB i e).2)⟩; clear h10 g10))
          go_roundg (n - (k + 1))
          case measure => have := HKN.out; have := HP.out; omega
          case rel => exact ⟨k + 1, _, _, l ++ [(f k, 0, 0)], rfl, rfl, rfl, by go_num, by have := HP.out; omega, by rw [List.length_append]; have := HKN.out; have := HP.out; show l.length + 1 ≤ k + 1; omega, HT, H10⟩
    · obtain rfl : k = n := by omega
      have hlti : ¬ (k : Int) < (k : Int) := by omega
      have HE : Hid (runsV f k = l) := Lib.hid (by rw [HK.out, Nat.sub_self]; simp [runsG])
      clear HK
      go_wp2_with fail
      go_ret2
      have h1 := HL.out.1
      have h2 := HL.out.2.1
      rw [← HE.out] at h1 h2
      exact ⟨_, _, rfl, h1, h2⟩
end Go.Proofs.Ytjdfdiejlmeeoaa
