/- Chapter 11's law: are two lists the same? -/
import Derived.Test.YtjdfdiejlmeeoaaNA
namespace Go.Proofs.Ytjdfdiejlmeeoaa
open Go.RowKit
set_option maxRecDepth 100000 in
set_option maxHeartbeats 8000000 in
theorem numbers11_same (p1 p2 : Option Addr) (n c1 c2 : Nat) (f g : Nat → Int) (w : World) (h1 : IS p1 n c1 f w) (h2 : IS p2 n c2 g w) (hfg : ∀ i, i < n → f i = g i) (hn : n ≤ 17592186044416) :
    Calls Try.prog 13 #[.slice p1 n c1, .slice p2 n c2] w fun e w' => e = .returned (.bool true) ∧ ∃ nq, w' = w.drewN nq := by
  have H1 := Lib.hid h1
  have H2 := Lib.hid h2
  have HF := Lib.hid hfg
  have HN := Lib.hid hn
  clear h1 h2 hfg hn
  go_enter Try.func13, Try.ntmps13
  go_wp2_with fail
  go_loopw [5] (fun k wr => ∃ i nq : Nat, k = .int .i64 (i : Int) ∧ i ≤ n ∧ wr = w.drewN nq) (fun k _ => n - (intOf k).toNat)
  case atStart => exact ⟨0, 0, rfl, Nat.zero_le _, rfl⟩
  case round =>
    obtain ⟨i, nq, rfl, hi, rfl⟩ := hrel
    by_cases hlt : i < n
    · have hlti : (i : Int) < (n : Int) := by omega
      obtain ⟨pa, rfl⟩ : ∃ a, p1 = some a := by
        cases p1 with
        | none => have := (H1.out.nil_ rfl).1; omega
        | some a => exact ⟨a, rfl⟩
      obtain ⟨pb, rfl⟩ : ∃ a, p2 = some a := by
        cases p2 with
        | none => have := (H2.out.nil_ rfl).1; omega
        | some a => exact ⟨a, rfl⟩
      have HC1 := Lib.hid (H1.out.cell pa rfl i hlt)
      have HC2 : Hid (w.cell? (pb.add i) = some (.int .i64 (f i))) := Lib.hid (by rw [HF.out i hlt]; exact H2.out.cell pb rfl i hlt)
      have HE : Hid ((f i == f i) = true) := Lib.hid (beq_self_eq_true _)
      have hkw : IntKind.i64.wrap ((i : Int) + 1) = ((i + 1 : Nat) : Int) := by have := HN.out; rw [IntWalk.i64_in _ (by omega)]; rfl
      have HIN := Lib.hid hlt
      clear hlt
      go_wp2_with fail
      refine wp_region_anyL (Two 1000 1001 fun _ _ wx => wx = w.drewN (nq + 1)) (by kernel_rfl) rfl ?_
      refine anyL_take (i := 0) (v := ?_) rfl (by kernel_rfl) (by kernel_rfl) (by kernel_rfl) (yl_other (by decide) (by decide) rfl (fun f1 f2 wx hT => ?_)) ?_; rotate_left
      · refine lands_value (w := wx) ?_ hT; go_simp <;> rfl
      simp only [pu]
      refine anyL_take (i := 1) (v := ?_) rfl (by kernel_rfl) (by kernel_rfl) (by kernel_rfl) (yl_other (by decide) (by decide) rfl (fun f1 f2 wx hT => ?_)) ?_; rotate_left
      · refine lands_value (w := wx) ?_ hT; go_simp <;> rfl
      simp only [pu]
      refine anyL_take (i := 2) (v := .pointer (some (pa.add i))) rfl (by kernel_rfl) (by kernel_rfl) (by kernel_rfl) (yl_other (by decide) (by decide) rfl (fun f1 f2 wx hT => ?_)) ?_
      · refine lands_value (w := wx) ?_ hT; go_simp; skip
      simp only [pu]
      refine anyL_take (i := 3) (v := .int .i64 (f i)) rfl (by kernel_rfl) (by kernel_rfl) (by kernel_rfl) (yl_other (by decide) (by decide) rfl (fun f1 f2 wx hT => ?_)) ?_
      · have cc := HC1.out; refine lands_value (w := wx) ?_ hT; go_simp; skip
      simp only [pu]
      refine anyL_take (i := 4) (v := ?_) rfl (by kernel_rfl) (by kernel_rfl) (by kernel_rfl) (yl_other (by decide) (by decide) rfl (fun f1 f2 wx hT => ?_)) ?_; rotate_left
      · refine lands_value (w := wx) ?_ hT; go_simp <;> rfl
      simp only [pu]
      refine anyL_take (i := 5) (v := ?_) rfl (by kernel_rfl) (by kernel_rfl) (by kernel_rfl) (yl_other (by decide) (by decide) rfl (fun f1 f2 wx hT => ?_)) ?_; rotate_left
      · refine lands_value (w := wx) ?_ hT; go_simp <;> rfl
      simp only [pu]
      refine anyL_take (i := 6) (v := .pointer (some (pb.add i))) rfl (by kernel_rfl) (by kernel_rfl) (by kernel_rfl) (yl_other (by decide) (by decide) rfl (fun f1 f2 wx hT => ?_)) ?_
      · refine lands_value (w := wx) ?_ hT; go_simp; skip
      simp only [pu]
      refine anyL_take (i := 7) (v := .int .i64 (f i)) rfl (by kernel_rfl) (by kernel_rfl) (by kernel_rfl) (yl_other (by decide) (by decide) rfl (fun f1 f2 wx hT => ?_)) ?_
      · have cc := HC2.out; refine lands_value (w := wx) ?_ hT; go_simp; skip
      simp only [pu]
      refine anyL_take (i := 8) (v := .bool false) rfl (by kernel_rfl) (by kernel_rfl) (by kernel_rfl) (yl_other (by decide) (by decide) rfl (fun f1 f2 wx hT => ?_)) ?_
      · have hE := HE.out; refine lands_value (w := wx) ?_ hT; go_simp; skip
      simp only [pu]
      refine anyL_done rfl ?_ _
      intro w2 hT2
      subst hT2
      go_wp2_with fail
      exact ⟨⟨i + 1, nq + 1, by go_num, by have := HIN.out; omega, rfl⟩, by simp only [intOf]; have := HIN.out; omega⟩
    · obtain rfl : i = n := by omega
      have hlti : ¬ (i : Int) < (i : Int) := by omega
      go_wp2_with fail
      go_ret
      exact ⟨rfl, nq, rfl⟩
end Go.Proofs.Ytjdfdiejlmeeoaa
