/- examples of the laws of chapter 4; texts held against one another. -/
import Derived.Test.YtnfcgpoafmmioaaLj
namespace Go.Proofs.Ytnfcgpoafmmioaa
open Go.RowKit
/-- Two texts held against one another. -/
theorem lands_text {R : World → Prop} {o : Oper} {a : Act} {w : World} (x y : Operand) (ho : o.op = .binOp .eql 9 x y 9) (r s : ByteArray) (hx : a.eval x = .string r) (hy : a.eval y = .string s) (b : Bool) (hb : decide (r = s) = b) (hR : R w) :
    Lands Try.prog R (.bool b) ((execOp a.eval o).run Try.prog w) := by
  refine lands_value (w := w) ?_ hR
  unfold execOp
  simp only [ho, hx, hy]
  go_simp
  rw [text_eq, hb]
theorem ex_reduce : redV (bytesV qL) = bytesV 0 := by decide +kernel
theorem ex_right : decide (redV (bytesV qL) = bytesV qL) = false := by decide +kernel
theorem ex_zero : decide (redV (bytesV 0) = bytesV 0) = true := by decide +kernel
theorem ex_mul : maV ⟨#[3]⟩ ⟨#[4]⟩ ⟨#[5]⟩ = bytesV 17 := by decide +kernel
theorem ex_cat : (⟨#[17]⟩ : ByteArray) ++ (bytesV 0).extract 1 32 = bytesV 17 := by decide +kernel
theorem bytesV_size (n : Nat) : (bytesV n).size = 32 := by
  unfold bytesV; show (asBytes _).toArray.size = 32; simp [asBytes]
set_option maxRecDepth 100000 in
set_option maxHeartbeats 2000000 in
theorem examples_any (w : World) :
    Calls Try.prog 9 #[] w fun e w' => e = .returned (.bool true) ∧ Below w.heap.size w w' := by
  have CO := Lib.hid (fun w => lorder_any w)
  have CR : Hid (∀ w, Calls Try.prog 10 #[.string (bytesV qL)] w fun e w' => e = .returned (.string (bytesV 0)) ∧ Below w.heap.size w w') := Lib.hid (fun w => by
    have h := qreduce_any (bytesV qL) w
    rwa [ex_reduce] at h)
  have C1 : Hid (∀ w, Calls Try.prog 12 #[.string (bytesV qL)] w fun e w' => e = .returned (.bool false) ∧ Below w.heap.size w w') := Lib.hid (fun w => by
    have h := qright_any (bytesV qL) w
    rwa [ex_right] at h)
  have C2 : Hid (∀ w, Calls Try.prog 12 #[.string (bytesV 0)] w fun e w' => e = .returned (.bool true) ∧ Below w.heap.size w w') := Lib.hid (fun w => by
    have h := qright_any (bytesV 0) w
    rwa [ex_zero] at h)
  have CM : Hid (∀ w, Calls Try.prog 14 #[.string ⟨#[3]⟩, .string ⟨#[4]⟩, .string ⟨#[5]⟩] w fun e w' => e = .returned (.string (bytesV 17)) ∧ Below w.heap.size w w') := Lib.hid (fun w => by
    have h := qmuladd_any ⟨#[3]⟩ ⟨#[4]⟩ ⟨#[5]⟩ w
    rwa [ex_mul] at h)
  have hmk : ∀ w, (Instr.makeSlice 34 (.int .i64 32) (.int .i64 32)).run Try.prog w = .ok (.slice (some ⟨w.heap.size, 0, none⟩) 32 32) (w.alloc (.cells (row 32 fun _ => Value.int .u8 0) 5)) := fun w => by kernel_rfl
  have hz := bF_none 0
  have hst : (convert 34 9 (.slice (some ⟨w.heap.size, 0, none⟩) 32 32)).run Try.prog (w.alloc (.cells (row 32 fun _ => Value.int .u8 0) 5)) = .ok (.string (bytesV 0)) (w.alloc (.cells (row 32 fun _ => Value.int .u8 0) 5)) := by
    have h0 : r8 32 (bF 0 32) = row 32 fun _ => Value.int .u8 0 := by
      rw [← bF_none 0]; exact row_ext fun i hi => by unfold bF; rw [if_pos hi, if_neg (by omega)]; rw [show byteK 0 i = 0 by unfold byteK; rw [Nat.zero_div]]; rfl
    have h1 : Blk (w.alloc (.cells (row 32 fun _ => Value.int .u8 0) 5)) w.heap.size 5 (r8 32 (bF 0 32)) := (Blk.new w _ _).cast_ h0.symm
    have h2 := run_string_of_blk (P := Try.prog) _ 34 9 5 Try.underlying34 Try.underlying5 Try.underlying9 w.heap.size 32 32 _ _ h1
    rw [bF_all] at h2
    exact h2
  have HE : Hid (∀ (r : ByteArray), r = bytesV 0 → (⟨#[17]⟩ : ByteArray) ++ r.extract 1 32 = bytesV 17) := Lib.hid (fun r hr => by rw [hr]; exact ex_cat)
  have hsz := bytesV_size 0
  generalize bytesV 17 = m at CM HE
  generalize bytesV 0 = z at *
  generalize bytesV qL = t at *
  have hsz1 : (1 : Int) ≤ (z.size : Int) := by omega
  clear hz
  go_enter Try.func9, Try.ntmps9
  go_wp2_with fail
  refine wp_region_anyL (Two 1000 1001 fun _ _ wx => Below w.heap.size w wx) (by kernel_rfl) (((Below.refl _ _).alloc (Nat.le_refl _) _).drew) ?_
  refine anyL_take (i := 0) (v := .string t) rfl (by kernel_rfl) (by kernel_rfl) (by kernel_rfl) (yl_other (by decide) (by decide) rfl (fun f1 f2 wx hT => ?_)) ?_
  · exact lands_calls (w := wx) ((CO.out wx).mono fun _ _ ⟨he, hb⟩ => ⟨he, hT.trans (hb.mono hT.size)⟩) (by go_simp)
  simp only [Act.put, List.setIfInBounds_toArray, List.set_cons_zero, List.set_cons_succ]
  refine anyL_take (i := 1) (v := .string z) rfl (by kernel_rfl) (by kernel_rfl) (by kernel_rfl) (yl_other (by decide) (by decide) rfl (fun f1 f2 wx hT => ?_)) ?_
  · exact lands_calls (w := wx) ((CR.out wx).mono fun _ _ ⟨he, hb⟩ => ⟨he, hT.trans (hb.mono hT.size)⟩) (by go_simp)
  simp only [Act.put, List.setIfInBounds_toArray, List.set_cons_zero, List.set_cons_succ]
  refine anyL_take (i := 2) (v := ?_) rfl (by kernel_rfl) (by kernel_rfl) (by kernel_rfl) (yl_other (by decide) (by decide) rfl (fun f1 f2 wx hT => ?_)) ?_; rotate_left
  · refine lands_value (w := wx) ?_ hT; go_simp <;> rfl
  simp only [Act.put, List.setIfInBounds_toArray, List.set_cons_zero, List.set_cons_succ]
  refine anyL_take (i := 3) (v := .bool true) rfl (by kernel_rfl) (by kernel_rfl) (by kernel_rfl) (yl_other (by decide) (by decide) rfl (fun f1 f2 wx hT => ?_)) ?_
  · exact lands_text _ _ rfl z z rfl rfl true (decide_eq_true rfl) hT
  simp only [Act.put, List.setIfInBounds_toArray, List.set_cons_zero, List.set_cons_succ]
  refine anyL_take (i := 4) (v := ?_) rfl (by kernel_rfl) (by kernel_rfl) (by kernel_rfl) (yl_other (by decide) (by decide) rfl (fun f1 f2 wx hT => ?_)) ?_; rotate_left
  · refine lands_value (w := wx) ?_ hT; go_simp <;> rfl
  simp only [Act.put, List.setIfInBounds_toArray, List.set_cons_zero, List.set_cons_succ]
  refine anyL_take (i := 5) (v := .string t) rfl (by kernel_rfl) (by kernel_rfl) (by kernel_rfl) (yl_other (by decide) (by decide) rfl (fun f1 f2 wx hT => ?_)) ?_
  · exact lands_calls (w := wx) ((CO.out wx).mono fun _ _ ⟨he, hb⟩ => ⟨he, hT.trans (hb.mono hT.size)⟩) (by go_simp)
  simp only [Act.put, List.setIfInBounds_toArray, List.set_cons_zero, List.set_cons_succ]
  refine anyL_take (i := 6) (v := .bool false) rfl (by kernel_rfl) (by kernel_rfl) (by kernel_rfl) (yl_other (by decide) (by decide) rfl (fun f1 f2 wx hT => ?_)) ?_
  · exact lands_calls (w := wx) ((C1.out wx).mono fun _ _ ⟨he, hb⟩ => ⟨he, hT.trans (hb.mono hT.size)⟩) (by go_simp)
  simp only [Act.put, List.setIfInBounds_toArray, List.set_cons_zero, List.set_cons_succ]
  refine anyL_take (i := 7) (v := ?_) rfl (by kernel_rfl) (by kernel_rfl) (by kernel_rfl) (yl_other (by decide) (by decide) rfl (fun f1 f2 wx hT => ?_)) ?_; rotate_left
  · refine lands_value (w := wx) ?_ hT; go_simp <;> rfl
  simp only [Act.put, List.setIfInBounds_toArray, List.set_cons_zero, List.set_cons_succ]
  refine anyL_take (i := 8) (v := ?_) rfl (by kernel_rfl) (by kernel_rfl) (by kernel_rfl) (yl_other (by decide) (by decide) rfl (fun f1 f2 wx hT => ?_)) ?_; rotate_left
  · refine lands_value (w := wx) ?_ hT; go_simp <;> rfl
  simp only [Act.put, List.setIfInBounds_toArray, List.set_cons_zero, List.set_cons_succ]
  refine anyL_take (i := 9) (v := ?_) rfl (by kernel_rfl) (by kernel_rfl) (by kernel_rfl) (yl_other (by decide) (by decide) rfl (fun f1 f2 wx hT => ?_)) ?_; rotate_left
  · refine lands_value (w := wx) ?_ hT; go_simp <;> rfl
  simp only [Act.put, List.setIfInBounds_toArray, List.set_cons_zero, List.set_cons_succ]
  refine anyL_take (i := 10) (v := ?_) rfl (by kernel_rfl) (by kernel_rfl) (by kernel_rfl) (yl_other (by decide) (by decide) rfl (fun f1 f2 wx hT => ?_)) ?_; rotate_left
  · refine lands_value (w := wx) ?_ hT; go_simp <;> rfl
  simp only [Act.put, List.setIfInBounds_toArray, List.set_cons_zero, List.set_cons_succ]
  refine anyL_take (i := 11) (v := .bool true) rfl (by kernel_rfl) (by kernel_rfl) (by kernel_rfl) (yl_other (by decide) (by decide) rfl (fun f1 f2 wx hT => ?_)) ?_
  · exact lands_calls (w := wx) ((C2.out wx).mono fun _ _ ⟨he, hb⟩ => ⟨he, hT.trans (hb.mono hT.size)⟩) (by go_simp)
  simp only [Act.put, List.setIfInBounds_toArray, List.set_cons_zero, List.set_cons_succ]
  refine anyL_take (i := 12) (v := ?_) rfl (by kernel_rfl) (by kernel_rfl) (by kernel_rfl) (yl_other (by decide) (by decide) rfl (fun f1 f2 wx hT => ?_)) ?_; rotate_left
  · refine lands_value (w := wx) ?_ hT; go_simp <;> rfl
  simp only [Act.put, List.setIfInBounds_toArray, List.set_cons_zero, List.set_cons_succ]
  refine anyL_take (i := 13) (v := ?_) rfl (by kernel_rfl) (by kernel_rfl) (by kernel_rfl) (yl_other (by decide) (by decide) rfl (fun f1 f2 wx hT => ?_)) ?_; rotate_left
  · refine lands_value (w := wx) ?_ hT; go_simp <;> rfl
  simp only [Act.put, List.setIfInBounds_toArray, List.set_cons_zero, List.set_cons_succ]
  refine anyL_take (i := 14) (v := .string m) rfl (by kernel_rfl) (by kernel_rfl) (by kernel_rfl) (yl_other (by decide) (by decide) rfl (fun f1 f2 wx hT => ?_)) ?_
  · exact lands_calls (w := wx) ((CM.out wx).mono fun _ _ ⟨he, hb⟩ => ⟨he, hT.trans (hb.mono hT.size)⟩) (by go_simp)
  simp only [Act.put, List.setIfInBounds_toArray, List.set_cons_zero, List.set_cons_succ]
  refine anyL_take (i := 15) (v := ?_) rfl (by kernel_rfl) (by kernel_rfl) (by kernel_rfl) (yl_other (by decide) (by decide) rfl (fun f1 f2 wx hT => ?_)) ?_; rotate_left
  · refine lands_value (w := wx) ?_ hT; go_simp <;> rfl
  simp only [Act.put, List.setIfInBounds_toArray, List.set_cons_zero, List.set_cons_succ]
  refine anyL_take (i := 16) (v := .string (z.extract 1 32)) rfl (by kernel_rfl) (by kernel_rfl) (by kernel_rfl) (yl_other (by decide) (by decide) rfl (fun f1 f2 wx hT => ?_)) ?_
  · refine lands_value (w := wx) ?_ hT; go_simp
  simp only [Act.put, List.setIfInBounds_toArray, List.set_cons_zero, List.set_cons_succ]
  refine anyL_take (i := 17) (v := .string m) rfl (by kernel_rfl) (by kernel_rfl) (by kernel_rfl) (yl_other (by decide) (by decide) rfl (fun f1 f2 wx hT => ?_)) ?_
  · refine lands_value (w := wx) ?_ hT; go_simp; exact HE.out z rfl
  simp only [Act.put, List.setIfInBounds_toArray, List.set_cons_zero, List.set_cons_succ]
  refine anyL_take (i := 18) (v := .bool true) rfl (by kernel_rfl) (by kernel_rfl) (by kernel_rfl) (yl_other (by decide) (by decide) rfl (fun f1 f2 wx hT => ?_)) ?_
  · exact lands_text _ _ rfl m m rfl rfl true (decide_eq_true rfl) hT
  simp only [Act.put, List.setIfInBounds_toArray, List.set_cons_zero, List.set_cons_succ]
  refine anyL_take (i := 19) (v := ?_) rfl (by kernel_rfl) (by kernel_rfl) (by kernel_rfl) (yl_other (by decide) (by decide) rfl (fun f1 f2 wx hT => ?_)) ?_; rotate_left
  · refine lands_value (w := wx) ?_ hT; go_simp <;> rfl
  simp only [Act.put, List.setIfInBounds_toArray, List.set_cons_zero, List.set_cons_succ]
  refine anyL_take (i := 20) (v := ?_) rfl (by kernel_rfl) (by kernel_rfl) (by kernel_rfl) (yl_other (by decide) (by decide) rfl (fun f1 f2 wx hT => ?_)) ?_; rotate_left
  · refine lands_value (w := wx) ?_ hT; go_simp <;> rfl
  simp only [Act.put, List.setIfInBounds_toArray, List.set_cons_zero]
  refine anyL_done (by kernel_rfl) (fun w3 (K : Below w.heap.size w w3) => ?_) _
  clear CO CR C1 C2 CM hst
  go_wp2_with fail
  go_ret
  exact ⟨rfl, K⟩
end Go.Proofs.Ytnfcgpoafmmioaa
