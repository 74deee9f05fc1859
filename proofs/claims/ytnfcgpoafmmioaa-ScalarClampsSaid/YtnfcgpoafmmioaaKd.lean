/- below of the document's answer. -/
import Derived.Test.YtnfcgpoafmmioaaKc
import Derived.Test.YtnfcgpoafmmioaaReg
namespace Go.Proofs.Ytnfcgpoafmmioaa
open Go.RowKit
theorem own_at {w : World} {base n : Nat} {e : TypeId} {g cap : Nat} {f : Nat → Value} (h : w.ownsRow base e 1 (.slice (some ⟨g, 0, none⟩) n cap) n ((List.range n).map f)) {j : Nat} (hj : j < n) : w.cell? ⟨g, j, none⟩ = some (f j) := by
  have := h.cells (g := g) rfl j (f j) (by rw [List.getElem?_map, List.getElem?_range hj]; rfl)
  rwa [addr_add, Nat.zero_add] at this
/-- Within below: the number's list, L's list. -/
structure BlW (R gr gl : Nat) (w wr : World) : Prop where
  r : Blk wr gr 3 (row 33 (bK R))
  l : ∀ j, j < 32 → wr.cell? ⟨gl, j, none⟩ = some (bK qL j)
  b : Below w.heap.size w wr
theorem BlW.drew {R gr gl : Nat} {w wr : World} (h : BlW R gr gl w wr) : BlW R gr gl w wr.drew := ⟨h.r, h.l, h.b.drew⟩
theorem BlW.ra {R gr gl : Nat} {w wr : World} (h : BlW R gr gl w wr) {j : Nat} (hj : j < 33) : wr.cell? ⟨gr, j, none⟩ = some (.int .i64 (byteK R j : Int)) := h.r.at_ hj
theorem BlW.la {R gr gl : Nat} {w wr : World} (h : BlW R gr gl w wr) {j : Nat} (hj : j < 32) : wr.cell? ⟨gl, j, none⟩ = some (.int .i64 (byteK qL j : Int)) := h.l j hj
set_option maxRecDepth 100000 in
set_option maxHeartbeats 2000000 in
theorem rbelow_any (R gr : Nat) (w : World) (hR : R < 2 ^ 256 * 256) (hr : Blk w gr 3 (row 33 (bK R))) :
    Calls Try.prog 26 #[.slice (some ⟨gr, 0, none⟩) 33 33] w fun e w' => e = .returned (.bool (decide (R < qL))) ∧ Below w.heap.size w w' := by
  go_enter Try.func26, Try.ntmps26
  go_wp2_with fail
  refine (rorder_any w).mono ?_
  rintro e w1 ⟨v, rfl, hO⟩
  obtain ⟨gl, cap, rfl⟩ := own_slice hO.own (by omega)
  have h1 : BlW R gr gl w w1 := ⟨hr.below hO.b hr.lt, fun j hj => own_at hO.own hj, hO.b⟩
  clear hO
  have c32 := h1.ra (j := 32) (by omega)
  by_cases hz : byteK R 32 = 0
  · rw [hz] at c32
    have HT := Lib.hid (cmp_top hR hz)
    clear hz hR hr
    go_wp2_with fail
    clear c32
    go_loopw [4] (fun i wr => ∃ k : Nat, k ≤ 32 ∧ i = .int .i64 ((k : Int) - 1) ∧ Hid (R / 2 ^ (8 * k) = qL / 2 ^ (8 * k)) ∧ BlW R gr gl w wr) (fun i _ => (intOf i + 1).toNat)
    case atStart => exact ⟨32, by omega, rfl, Lib.hid (HT.out.trans (by decide)), h1⟩
    case round =>
      obtain ⟨k, hk, rfl, HK, hr⟩ := hrel
      clear h1 HT
      cases k with
      | zero =>
        have HV : Hid (decide (R < qL) = false) := Lib.hid (decide_eq_false (by have := cmp_end HK.out; omega))
        go_wp2_with fail
        go_ret
        exact ⟨by rw [HV.out]; rfl, hr.b⟩
      | succ j =>
        have hj : ((j + 1 : Nat) : Int) - 1 = (j : Int) := by omega
        rw [hj]
        clear hj
        have hj32 : j < 32 := by omega
        have hj33 : j < 33 := by omega
        have hl0 : (j : Int) < 33 := by omega
        have hl1 : (0 : Int) ≤ j := by omega
        have hl2 : (j : Int) < 32 := by omega
        by_cases hb : byteK R j = byteK qL j
        · have HN := Lib.hid (cmp_same HK.out hb)
          have HB := Lib.hid hb
          clear hb HK
          go_wp2_with fail
          refine wp_region_anyL (Two 1000 1001 fun _ _ wx => BlW R gr gl w wx) (by kernel_rfl) hr.drew ?_
          refine anyL_take (i := 0) (v := ?_) rfl (by kernel_rfl) (by kernel_rfl) (by kernel_rfl) (yl_other (by decide) (by decide) rfl (fun f1 f2 wx hT => ?_)) ?_; rotate_left
          · refine lands_value (w := wx) ?_ hT; go_simp <;> rfl
          simp only [Act.put, List.setIfInBounds_toArray, List.set_cons_zero, List.set_cons_succ]
          refine anyL_take (i := 1) (v := ?_) rfl (by kernel_rfl) (by kernel_rfl) (by kernel_rfl) (yl_other (by decide) (by decide) rfl (fun f1 f2 wx hT => ?_)) ?_; rotate_left
          · refine lands_value (w := wx) ?_ hT; go_simp <;> rfl
          simp only [Act.put, List.setIfInBounds_toArray, List.set_cons_zero, List.set_cons_succ]
          refine anyL_take (i := 2) (v := ?_) rfl (by kernel_rfl) (by kernel_rfl) (by kernel_rfl) (yl_other (by decide) (by decide) rfl (fun f1 f2 wx hT => ?_)) ?_; rotate_left
          · refine lands_value (w := wx) ?_ hT; go_simp <;> rfl
          simp only [Act.put, List.setIfInBounds_toArray, List.set_cons_zero, List.set_cons_succ]
          refine anyL_take (i := 3) (v := .int .i64 (byteK R j : Int)) rfl (by kernel_rfl) (by kernel_rfl) (by kernel_rfl) (yl_other (by decide) (by decide) rfl (fun f1 f2 wx hT => ?_)) ?_
          · have c0 := hT.ra hj33; refine lands_value (w := wx) ?_ hT; go_simp
          simp only [Act.put, List.setIfInBounds_toArray, List.set_cons_zero, List.set_cons_succ]
          refine anyL_take (i := 4) (v := ?_) rfl (by kernel_rfl) (by kernel_rfl) (by kernel_rfl) (yl_other (by decide) (by decide) rfl (fun f1 f2 wx hT => ?_)) ?_; rotate_left
          · refine lands_value (w := wx) ?_ hT; go_simp <;> rfl
          simp only [Act.put, List.setIfInBounds_toArray, List.set_cons_zero, List.set_cons_succ]
          refine anyL_take (i := 5) (v := ?_) rfl (by kernel_rfl) (by kernel_rfl) (by kernel_rfl) (yl_other (by decide) (by decide) rfl (fun f1 f2 wx hT => ?_)) ?_; rotate_left
          · refine lands_value (w := wx) ?_ hT; go_simp <;> rfl
          simp only [Act.put, List.setIfInBounds_toArray, List.set_cons_zero, List.set_cons_succ]
          refine anyL_take (i := 6) (v := ?_) rfl (by kernel_rfl) (by kernel_rfl) (by kernel_rfl) (yl_other (by decide) (by decide) rfl (fun f1 f2 wx hT => ?_)) ?_; rotate_left
          · refine lands_value (w := wx) ?_ hT; go_simp <;> rfl
          simp only [Act.put, List.setIfInBounds_toArray, List.set_cons_zero, List.set_cons_succ]
          refine anyL_take (i := 7) (v := .int .i64 (byteK qL j : Int)) rfl (by kernel_rfl) (by kernel_rfl) (by kernel_rfl) (yl_other (by decide) (by decide) rfl (fun f1 f2 wx hT => ?_)) ?_
          · have c0 := hT.la hj32; refine lands_value (w := wx) ?_ hT; go_simp
          simp only [Act.put, List.setIfInBounds_toArray, List.set_cons_zero, List.set_cons_succ]
          refine anyL_take (i := 8) (v := .bool false) rfl (by kernel_rfl) (by kernel_rfl) (by kernel_rfl) (yl_other (by decide) (by decide) rfl (fun f1 f2 wx hT => ?_)) ?_
          · refine lands_value (w := wx) ?_ hT; go_simp; rw [HB.out]
          simp only [Act.put, List.setIfInBounds_toArray, List.set_cons_zero, List.set_cons_succ]
          refine anyL_done (by kernel_rfl) (fun w3 (h3 : BlW R gr gl w w3) => ?_) _
          clear hr HB
          go_wp2_with fail
          go_roundw
          case rel => exact ⟨j, by omega, rfl, HN, h3⟩
          case measure => simp [intOf]
        · have HB : Hid ((byteK R j : Int) ≠ byteK qL j) := Lib.hid (by omega)
          have HC : Hid (byteK R j < byteK qL j ↔ R < qL) := Lib.hid (cmp_next HK.out hb)
          clear hb HK
          go_wp2_with fail
          refine wp_region_anyL (Two 1000 1001 fun _ _ wx => BlW R gr gl w wx) (by kernel_rfl) hr.drew ?_
          refine anyL_take (i := 0) (v := ?_) rfl (by kernel_rfl) (by kernel_rfl) (by kernel_rfl) (yl_other (by decide) (by decide) rfl (fun f1 f2 wx hT => ?_)) ?_; rotate_left
          · refine lands_value (w := wx) ?_ hT; go_simp <;> rfl
          simp only [Act.put, List.setIfInBounds_toArray, List.set_cons_zero, List.set_cons_succ]
          refine anyL_take (i := 1) (v := ?_) rfl (by kernel_rfl) (by kernel_rfl) (by kernel_rfl) (yl_other (by decide) (by decide) rfl (fun f1 f2 wx hT => ?_)) ?_; rotate_left
          · refine lands_value (w := wx) ?_ hT; go_simp <;> rfl
          simp only [Act.put, List.setIfInBounds_toArray, List.set_cons_zero, List.set_cons_succ]
          refine anyL_take (i := 2) (v := ?_) rfl (by kernel_rfl) (by kernel_rfl) (by kernel_rfl) (yl_other (by decide) (by decide) rfl (fun f1 f2 wx hT => ?_)) ?_; rotate_left
          · refine lands_value (w := wx) ?_ hT; go_simp <;> rfl
          simp only [Act.put, List.setIfInBounds_toArray, List.set_cons_zero, List.set_cons_succ]
          refine anyL_take (i := 3) (v := .int .i64 (byteK R j : Int)) rfl (by kernel_rfl) (by kernel_rfl) (by kernel_rfl) (yl_other (by decide) (by decide) rfl (fun f1 f2 wx hT => ?_)) ?_
          · have c0 := hT.ra hj33; refine lands_value (w := wx) ?_ hT; go_simp
          simp only [Act.put, List.setIfInBounds_toArray, List.set_cons_zero, List.set_cons_succ]
          refine anyL_take (i := 4) (v := ?_) rfl (by kernel_rfl) (by kernel_rfl) (by kernel_rfl) (yl_other (by decide) (by decide) rfl (fun f1 f2 wx hT => ?_)) ?_; rotate_left
          · refine lands_value (w := wx) ?_ hT; go_simp <;> rfl
          simp only [Act.put, List.setIfInBounds_toArray, List.set_cons_zero, List.set_cons_succ]
          refine anyL_take (i := 5) (v := ?_) rfl (by kernel_rfl) (by kernel_rfl) (by kernel_rfl) (yl_other (by decide) (by decide) rfl (fun f1 f2 wx hT => ?_)) ?_; rotate_left
          · refine lands_value (w := wx) ?_ hT; go_simp <;> rfl
          simp only [Act.put, List.setIfInBounds_toArray, List.set_cons_zero, List.set_cons_succ]
          refine anyL_take (i := 6) (v := ?_) rfl (by kernel_rfl) (by kernel_rfl) (by kernel_rfl) (yl_other (by decide) (by decide) rfl (fun f1 f2 wx hT => ?_)) ?_; rotate_left
          · refine lands_value (w := wx) ?_ hT; go_simp <;> rfl
          simp only [Act.put, List.setIfInBounds_toArray, List.set_cons_zero, List.set_cons_succ]
          refine anyL_take (i := 7) (v := .int .i64 (byteK qL j : Int)) rfl (by kernel_rfl) (by kernel_rfl) (by kernel_rfl) (yl_other (by decide) (by decide) rfl (fun f1 f2 wx hT => ?_)) ?_
          · have c0 := hT.la hj32; refine lands_value (w := wx) ?_ hT; go_simp
          simp only [Act.put, List.setIfInBounds_toArray, List.set_cons_zero, List.set_cons_succ]
          refine anyL_take (i := 8) (v := .bool true) rfl (by kernel_rfl) (by kernel_rfl) (by kernel_rfl) (yl_other (by decide) (by decide) rfl (fun f1 f2 wx hT => ?_)) ?_
          · refine lands_value (w := wx) ?_ hT; go_simp; simp [HB.out]
          simp only [Act.put, List.setIfInBounds_toArray, List.set_cons_zero, List.set_cons_succ]
          refine anyL_done (by kernel_rfl) (fun w3 (h3 : BlW R gr gl w w3) => ?_) _
          clear hr HB
          go_wp2_with fail
          refine wp_region_anyL (Two 1000 1001 fun _ _ wx => BlW R gr gl w wx) (by kernel_rfl) h3.drew ?_
          refine anyL_take (i := 0) (v := ?_) rfl (by kernel_rfl) (by kernel_rfl) (by kernel_rfl) (yl_other (by decide) (by decide) rfl (fun f1 f2 wx hT => ?_)) ?_; rotate_left
          · refine lands_value (w := wx) ?_ hT; go_simp <;> rfl
          simp only [Act.put, List.setIfInBounds_toArray, List.set_cons_zero, List.set_cons_succ]
          refine anyL_take (i := 1) (v := ?_) rfl (by kernel_rfl) (by kernel_rfl) (by kernel_rfl) (yl_other (by decide) (by decide) rfl (fun f1 f2 wx hT => ?_)) ?_; rotate_left
          · refine lands_value (w := wx) ?_ hT; go_simp <;> rfl
          simp only [Act.put, List.setIfInBounds_toArray, List.set_cons_zero, List.set_cons_succ]
          refine anyL_take (i := 2) (v := ?_) rfl (by kernel_rfl) (by kernel_rfl) (by kernel_rfl) (yl_other (by decide) (by decide) rfl (fun f1 f2 wx hT => ?_)) ?_; rotate_left
          · refine lands_value (w := wx) ?_ hT; go_simp <;> rfl
          simp only [Act.put, List.setIfInBounds_toArray, List.set_cons_zero, List.set_cons_succ]
          refine anyL_take (i := 3) (v := .int .i64 (byteK R j : Int)) rfl (by kernel_rfl) (by kernel_rfl) (by kernel_rfl) (yl_other (by decide) (by decide) rfl (fun f1 f2 wx hT => ?_)) ?_
          · have c0 := hT.ra hj33; refine lands_value (w := wx) ?_ hT; go_simp
          simp only [Act.put, List.setIfInBounds_toArray, List.set_cons_zero, List.set_cons_succ]
          refine anyL_take (i := 4) (v := ?_) rfl (by kernel_rfl) (by kernel_rfl) (by kernel_rfl) (yl_other (by decide) (by decide) rfl (fun f1 f2 wx hT => ?_)) ?_; rotate_left
          · refine lands_value (w := wx) ?_ hT; go_simp <;> rfl
          simp only [Act.put, List.setIfInBounds_toArray, List.set_cons_zero, List.set_cons_succ]
          refine anyL_take (i := 5) (v := ?_) rfl (by kernel_rfl) (by kernel_rfl) (by kernel_rfl) (yl_other (by decide) (by decide) rfl (fun f1 f2 wx hT => ?_)) ?_; rotate_left
          · refine lands_value (w := wx) ?_ hT; go_simp <;> rfl
          simp only [Act.put, List.setIfInBounds_toArray, List.set_cons_zero, List.set_cons_succ]
          refine anyL_take (i := 6) (v := ?_) rfl (by kernel_rfl) (by kernel_rfl) (by kernel_rfl) (yl_other (by decide) (by decide) rfl (fun f1 f2 wx hT => ?_)) ?_; rotate_left
          · refine lands_value (w := wx) ?_ hT; go_simp <;> rfl
          simp only [Act.put, List.setIfInBounds_toArray, List.set_cons_zero, List.set_cons_succ]
          refine anyL_take (i := 7) (v := .int .i64 (byteK qL j : Int)) rfl (by kernel_rfl) (by kernel_rfl) (by kernel_rfl) (yl_other (by decide) (by decide) rfl (fun f1 f2 wx hT => ?_)) ?_
          · have c0 := hT.la hj32; refine lands_value (w := wx) ?_ hT; go_simp
          simp only [Act.put, List.setIfInBounds_toArray, List.set_cons_zero, List.set_cons_succ]
          refine anyL_take (i := 8) (v := .bool (decide (R < qL))) rfl (by kernel_rfl) (by kernel_rfl) (by kernel_rfl) (yl_other (by decide) (by decide) rfl (fun f1 f2 wx hT => ?_)) ?_
          · refine lands_value (w := wx) ?_ hT; go_simp; exact HC.out
          simp only [Act.put, List.setIfInBounds_toArray, List.set_cons_zero, List.set_cons_succ]
          refine anyL_take (i := 9) (v := ?_) rfl (by kernel_rfl) (by kernel_rfl) (by kernel_rfl) (yl_other (by decide) (by decide) rfl (fun f1 f2 wx hT => ?_)) ?_; rotate_left
          · refine lands_value (w := wx) ?_ hT; go_simp <;> rfl
          simp only [Act.put, List.setIfInBounds_toArray, List.set_cons_zero, List.set_cons_succ]
          refine anyL_done (by kernel_rfl) (fun w4 (h4 : BlW R gr gl w w4) => ?_) _
          clear h3 HC
          go_wp2_with fail
          go_ret
          exact ⟨rfl, h4.b⟩
  · have HV : Hid (decide (R < qL) = false) := Lib.hid (decide_eq_false (cmp_over hz))
    have hz1 : (0 : Int) < byteK R 32 := by omega
    have hb := h1.b
    clear hz hR hr h1
    go_wp2_with fail
    go_ret
    exact ⟨by rw [HV.out]; rfl, hb⟩
end Go.Proofs.Ytnfcgpoafmmioaa
