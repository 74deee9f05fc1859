/- order of the document's answer: L's bytes. -/
import Derived.Test.YtggalphgnloneaaGreatMK
import Derived.Laws.AppendOwn
import Derived.OwnWalk
import Derived.Test.YtggalphgnloneaaGreatPu
import Derived.Test.YtggalphgnloneaaGreatMA
import Derived.Lib.ConvBytes
import Derived.Laws.IdiomStrings
namespace Go.Proofs.YtggalphgnloneaaGreat.L4
open Go.RowKit
/-- A number's byte as a value. -/
def bK (n i : Nat) : Value := .int .i64 (byteK n i : Int)
/-- The first k bytes of n. -/
def lK (n k : Nat) : List Value := (List.range k).map (bK n)
theorem lK_length (n k : Nat) : (lK n k).length = k := by unfold lK; simp
theorem lK_succ (n k : Nat) : lK n (k + 1) = lK n k ++ [bK n k] := by unfold lK; rw [List.range_succ, List.map_append]; rfl
theorem int_info : (Tryz.prog.info? 3).map (fun i => (i.zero, i.size, i.bytes)) = some (some (.int .i64 0), 1, 8) := by kernel_rfl
theorem first16 : [Value.int .i64 237, .int .i64 211, .int .i64 245, .int .i64 92, .int .i64 26, .int .i64 99, .int .i64 18, .int .i64 88, .int .i64 214, .int .i64 156, .int .i64 247, .int .i64 162, .int .i64 222, .int .i64 249, .int .i64 222, .int .i64 20] = lK qL 16 := by kernel_rfl
theorem zero_bytes' : ∀ k : Fin 31, 16 ≤ k.val → byteK qL k.val = 0 := by decide +kernel
theorem zero_byte {k : Nat} (h : 16 ≤ k) (h2 : k < 31) : bK qL k = .int .i64 0 := by unfold bK; rw [zero_bytes' ⟨k, h2⟩ h]; rfl
theorem last_byte : bK qL 31 = .int .i64 16 := by kernel_rfl
def lenV : Value → Nat
  | .slice _ n _ => n
  | _ => 0
theorem own_len {w : World} {base : Nat} {e : TypeId} {size n : Nat} {v : Value} {xs : List Value} (h : w.ownsRow base e size v n xs) : lenV v = n := by
  rcases h.2 with ⟨rfl, rfl⟩ | ⟨g, cap, cur, rfl, _⟩ <;> rfl
theorem own_slice {w : World} {base : Nat} {e : TypeId} {size n : Nat} {v : Value} {xs : List Value} (h : w.ownsRow base e size v n xs) (hn : 0 < n) : ∃ g cap, v = .slice (some ⟨g, 0, none⟩) n cap := by
  rcases h.2 with ⟨rfl, rfl⟩ | ⟨g, cap, cur, rfl, _⟩
  · omega
  · exact ⟨g, cap, rfl⟩
/-- L's list, grown to k. -/
structure OrW (k : Nat) (w : World) (v : Value) (wr : World) : Prop where
  own : wr.ownsRow w.heap.size 3 1 v k (lK qL k)
  b : Below w.heap.size w wr
set_option maxRecDepth 100000 in
set_option maxHeartbeats 2000000 in
theorem rorder_any (w : World) :
    Calls Tryz.prog 45 #[] w fun e w' => ∃ v, e = .returned v ∧ OrW 32 w v w' := by
  obtain ⟨i0, hi, hz0, hz1, hz2⟩ := info_parts int_info
  go_enter Tryz.func45, Tryz.ntmps45
  go_wp2_with fail
  go_loopw [1] (fun v wr => ∃ k : Nat, 16 ≤ k ∧ k ≤ 31 ∧ OrW k w v wr) (fun v _ => 31 - lenV v)
  case atStart =>
    refine ⟨16, by omega, by omega, ⟨by rw [lK_length], .inr ⟨w.heap.size, 16, _, rfl, Nat.le_refl _, heap_alloc_new w _, Nat.le_refl _, by decide, rfl, ?_⟩⟩, (Below.refl _ _).alloc (Nat.le_refl _) _⟩
    rw [← first16]; rfl
  case round =>
    obtain ⟨k, hk16, hk, hr⟩ := hrel
    have hown := hr.own
    have hb := hr.b
    have hbs := hb.size
    clear hr
    obtain ⟨g, cap, rfl⟩ := own_slice hown (by omega)
    by_cases hlt : k < 31
    · have HZ := Lib.hid (zero_byte hk16 hlt)
      go_wp2_with (first
        | (at_builtin; refine wpList_append_own _ rfl _ _ 58 rfl w.heap.size 3 i0 (.int .i64 0) 1 8 Tryz.underlying58 hi hz0 hz1 hz2 rfl (by decide) _ _ _ rfl (hown.alloc _) ⟨wr.heap.size, 0, none⟩ 1 1 [.int .i64 0] rfl rfl ?c1 ?c2 ?c3 ?c4 ?c5 ?_))
      case c1 =>
        intro j u hu
        rw [addr_add, Nat.zero_add]
        exact (cell_of_row _ _ j _ _ (0, 0) (heap_alloc_new wr _)).trans (by rw [← hu]; simp)
      case c2 =>
        intro u hu
        simp at hu
        subst hu
        rfl
      case c3 => unfold maxLen; omega
      case c4 => omega
      case c5 => simp; exact Nat.le_succ_of_le hbs
      intro v' w2 hown2 hg2 _
      have hb3 : Below w.heap.size w w2 := (hb.alloc hbs _).grown hg2 (by simp; exact Nat.le_succ_of_le hbs) (own_le hown)
      have K : OrW (k + 1) w v' w2 := ⟨by rw [lK_succ, HZ.out]; exact hown2, hb3⟩
      have HL := Lib.hid (own_len hown2)
      clear hown hb hown2 hg2 hb3 hbs HZ
      go_wp2_with fail
      go_roundw
      case rel => exact ⟨k + 1, by omega, by omega, K⟩
      case measure => show 31 - lenV v' < 31 - k; rw [HL.out]; omega
    · obtain rfl : k = 31 := by omega
      go_wp2_with (first
        | (at_builtin; refine wpList_append_own _ rfl _ _ 58 rfl w.heap.size 3 i0 (.int .i64 0) 1 8 Tryz.underlying58 hi hz0 hz1 hz2 rfl (by decide) _ _ _ rfl (hown.alloc _) ⟨wr.heap.size, 0, none⟩ 1 1 [.int .i64 16] rfl rfl ?c1 ?c2 ?c3 ?c4 ?c5 ?_))
      case c1 =>
        intro j u hu
        rw [addr_add, Nat.zero_add]
        exact (cell_of_row _ _ j _ _ (0, 0) (heap_alloc_new wr _)).trans (by rw [← hu]; simp)
      case c2 =>
        intro u hu
        simp at hu
        subst hu
        rfl
      case c3 => unfold maxLen; omega
      case c4 => omega
      case c5 => simp; exact Nat.le_succ_of_le hbs
      intro v' w2 hown2 hg2 _
      have hb3 : Below w.heap.size w w2 := (hb.alloc hbs _).grown hg2 (by simp; exact Nat.le_succ_of_le hbs) (own_le hown)
      have K : OrW 32 w v' w2 := ⟨by rw [lK_succ, last_byte]; exact hown2, hb3⟩
      clear hown hb hown2 hg2 hb3 hbs
      go_wp2_with fail
      go_ret
      exact ⟨_, rfl, K⟩
end Go.Proofs.YtggalphgnloneaaGreat.L4
/- below of the document's answer. -/
namespace Go.Proofs.YtggalphgnloneaaGreat.L4
open Go.RowKit
theorem own_at {w : World} {base n : Nat} {e : TypeId} {g cap : Nat} {f : Nat → Value} (h : w.ownsRow base e 1 (.slice (some ⟨g, 0, none⟩) n cap) n ((List.range n).map f)) {j : Nat} (hj : j < n) : w.cell? ⟨g, j, none⟩ = some (f j) := by
  have := h.cells (g := g) rfl j (f j) (by rw [List.getElem?_map, List.getElem?_range hj]; rfl)
  rwa [addr_add, Nat.zero_add] at this
/-- Within below: the number's list, L's list. -/
structure BlW (R gr gl : Nat) (w wr : World) : Prop where
  r : Blk wr gr 3 (row 33 (bK R))
  l : ∀ j, j < 32 → wr.cell? ⟨gl, j, none⟩ = some (bK qL j)
  b : Below w.heap.size w wr
theorem BlW.drew {R gr gl : Nat} {w wr : World} (h : BlW R gr gl w wr) : BlW R gr gl w wr.drew := ⟨h.r, h.l, h.b.drew⟩
theorem BlW.ra {R gr gl : Nat} {w wr : World} (h : BlW R gr gl w wr) {j : Nat} (hj : j < 33) : wr.cell? ⟨gr, j, none⟩ = some (.int .i64 (byteK R j : Int)) := h.r.at_ hj
theorem BlW.la {R gr gl : Nat} {w wr : World} (h : BlW R gr gl w wr) {j : Nat} (hj : j < 32) : wr.cell? ⟨gl, j, none⟩ = some (.int .i64 (byteK qL j : Int)) := h.l j hj
set_option maxRecDepth 100000 in
set_option maxHeartbeats 2000000 in
theorem rbelow_any (R gr : Nat) (w : World) (hR : R < 2 ^ 256 * 256) (hr : Blk w gr 3 (row 33 (bK R))) :
    Calls Tryz.prog 47 #[.slice (some ⟨gr, 0, none⟩) 33 33] w fun e w' => e = .returned (.bool (decide (R < qL))) ∧ Below w.heap.size w w' := by
  go_enter Tryz.func47, Tryz.ntmps47
  go_wp2_with fail
  refine (rorder_any w).mono ?_
  rintro e w1 ⟨v, rfl, hO⟩
  obtain ⟨gl, cap, rfl⟩ := own_slice hO.own (by omega)
  have h1 : BlW R gr gl w w1 := ⟨hr.below hO.b hr.lt, fun j hj => own_at hO.own hj, hO.b⟩
  clear hO
  have c32 := h1.ra (j := 32) (by omega)
  by_cases hz : byteK R 32 = 0
  · rw [hz] at c32
    have HT := Lib.hid (cmp_top hR hz)
    clear hz hR hr
    go_wp2_with fail
    clear c32
    go_loopw [4] (fun i wr => ∃ k : Nat, k ≤ 32 ∧ i = .int .i64 ((k : Int) - 1) ∧ Hid (R / 2 ^ (8 * k) = qL / 2 ^ (8 * k)) ∧ BlW R gr gl w wr) (fun i _ => (intOf i + 1).toNat)
    case atStart => exact ⟨32, by omega, rfl, Lib.hid (HT.out.trans (by decide)), h1⟩
    case round =>
      obtain ⟨k, hk, rfl, HK, hr⟩ := hrel
      clear h1 HT
      cases k with
      | zero =>
        have HV : Hid (decide (R < qL) = false) := Lib.hid (decide_eq_false (by have := cmp_end HK.out; omega))
        go_wp2_with fail
        go_ret
        exact ⟨by rw [HV.out]; rfl, hr.b⟩
      | succ j =>
        have hj : ((j + 1 : Nat) : Int) - 1 = (j : Int) := by omega
        rw [hj]
        clear hj
        have hj32 : j < 32 := by omega
        have hj33 : j < 33 := by omega
        have hl0 : (j : Int) < 33 := by omega
        have hl1 : (0 : Int) ≤ j := by omega
        have hl2 : (j : Int) < 32 := by omega
        by_cases hb : byteK R j = byteK qL j
        · have HN := Lib.hid (cmp_same HK.out hb)
          have HB := Lib.hid hb
          clear hb HK
          go_wp2_with fail
          refine wp_region_anyL (Two 1000 1001 fun _ _ wx => BlW R gr gl w wx) (by kernel_rfl) hr.drew ?_
          refine anyL_take (i := 0) (v := ?_) rfl (by kernel_rfl) (by kernel_rfl) (by kernel_rfl) (yl_other (by decide) (by decide) rfl (fun f1 f2 wx hT => ?_)) ?_; rotate_left
          · refine lands_value (w := wx) ?_ hT; go_simp <;> rfl
          simp only [pu]
          refine anyL_take (i := 1) (v := ?_) rfl (by kernel_rfl) (by kernel_rfl) (by kernel_rfl) (yl_other (by decide) (by decide) rfl (fun f1 f2 wx hT => ?_)) ?_; rotate_left
          · refine lands_value (w := wx) ?_ hT; go_simp <;> rfl
          simp only [pu]
          refine anyL_take (i := 2) (v := ?_) rfl (by kernel_rfl) (by kernel_rfl) (by kernel_rfl) (yl_other (by decide) (by decide) rfl (fun f1 f2 wx hT => ?_)) ?_; rotate_left
          · refine lands_value (w := wx) ?_ hT; go_simp <;> rfl
          simp only [pu]
          refine anyL_take (i := 3) (v := .int .i64 (byteK R j : Int)) rfl (by kernel_rfl) (by kernel_rfl) (by kernel_rfl) (yl_other (by decide) (by decide) rfl (fun f1 f2 wx hT => ?_)) ?_
          · have c0 := hT.ra hj33; refine lands_value (w := wx) ?_ hT; go_simp
          simp only [pu]
          refine anyL_take (i := 4) (v := ?_) rfl (by kernel_rfl) (by kernel_rfl) (by kernel_rfl) (yl_other (by decide) (by decide) rfl (fun f1 f2 wx hT => ?_)) ?_; rotate_left
          · refine lands_value (w := wx) ?_ hT; go_simp <;> rfl
          simp only [pu]
          refine anyL_take (i := 5) (v := ?_) rfl (by kernel_rfl) (by kernel_rfl) (by kernel_rfl) (yl_other (by decide) (by decide) rfl (fun f1 f2 wx hT => ?_)) ?_; rotate_left
          · refine lands_value (w := wx) ?_ hT; go_simp <;> rfl
          simp only [pu]
          refine anyL_take (i := 6) (v := ?_) rfl (by kernel_rfl) (by kernel_rfl) (by kernel_rfl) (yl_other (by decide) (by decide) rfl (fun f1 f2 wx hT => ?_)) ?_; rotate_left
          · refine lands_value (w := wx) ?_ hT; go_simp <;> rfl
          simp only [pu]
          refine anyL_take (i := 7) (v := .int .i64 (byteK qL j : Int)) rfl (by kernel_rfl) (by kernel_rfl) (by kernel_rfl) (yl_other (by decide) (by decide) rfl (fun f1 f2 wx hT => ?_)) ?_
          · have c0 := hT.la hj32; refine lands_value (w := wx) ?_ hT; go_simp
          simp only [pu]
          refine anyL_take (i := 8) (v := .bool false) rfl (by kernel_rfl) (by kernel_rfl) (by kernel_rfl) (yl_other (by decide) (by decide) rfl (fun f1 f2 wx hT => ?_)) ?_
          · refine lands_value (w := wx) ?_ hT; go_simp; rw [HB.out]
          simp only [pu]
          refine anyL_done (by kernel_rfl) (fun w3 (h3 : BlW R gr gl w w3) => ?_) _
          clear hr HB
          go_wp2_with fail
          go_roundw
          case rel => exact ⟨j, by omega, rfl, HN, h3⟩
          case measure => simp [intOf]
        · have HB : Hid ((byteK R j : Int) ≠ byteK qL j) := Lib.hid (by omega)
          have HC : Hid (byteK R j < byteK qL j ↔ R < qL) := Lib.hid (cmp_next HK.out hb)
          clear hb HK
          go_wp2_with fail
          refine wp_region_anyL (Two 1000 1001 fun _ _ wx => BlW R gr gl w wx) (by kernel_rfl) hr.drew ?_
          refine anyL_take (i := 0) (v := ?_) rfl (by kernel_rfl) (by kernel_rfl) (by kernel_rfl) (yl_other (by decide) (by decide) rfl (fun f1 f2 wx hT => ?_)) ?_; rotate_left
          · refine lands_value (w := wx) ?_ hT; go_simp <;> rfl
          simp only [pu]
          refine anyL_take (i := 1) (v := ?_) rfl (by kernel_rfl) (by kernel_rfl) (by kernel_rfl) (yl_other (by decide) (by decide) rfl (fun f1 f2 wx hT => ?_)) ?_; rotate_left
          · refine lands_value (w := wx) ?_ hT; go_simp <;> rfl
          simp only [pu]
          refine anyL_take (i := 2) (v := ?_) rfl (by kernel_rfl) (by kernel_rfl) (by kernel_rfl) (yl_other (by decide) (by decide) rfl (fun f1 f2 wx hT => ?_)) ?_; rotate_left
          · refine lands_value (w := wx) ?_ hT; go_simp <;> rfl
          simp only [pu]
          refine anyL_take (i := 3) (v := .int .i64 (byteK R j : Int)) rfl (by kernel_rfl) (by kernel_rfl) (by kernel_rfl) (yl_other (by decide) (by decide) rfl (fun f1 f2 wx hT => ?_)) ?_
          · have c0 := hT.ra hj33; refine lands_value (w := wx) ?_ hT; go_simp
          simp only [pu]
          refine anyL_take (i := 4) (v := ?_) rfl (by kernel_rfl) (by kernel_rfl) (by kernel_rfl) (yl_other (by decide) (by decide) rfl (fun f1 f2 wx hT => ?_)) ?_; rotate_left
          · refine lands_value (w := wx) ?_ hT; go_simp <;> rfl
          simp only [pu]
          refine anyL_take (i := 5) (v := ?_) rfl (by kernel_rfl) (by kernel_rfl) (by kernel_rfl) (yl_other (by decide) (by decide) rfl (fun f1 f2 wx hT => ?_)) ?_; rotate_left
          · refine lands_value (w := wx) ?_ hT; go_simp <;> rfl
          simp only [pu]
          refine anyL_take (i := 6) (v := ?_) rfl (by kernel_rfl) (by kernel_rfl) (by kernel_rfl) (yl_other (by decide) (by decide) rfl (fun f1 f2 wx hT => ?_)) ?_; rotate_left
          · refine lands_value (w := wx) ?_ hT; go_simp <;> rfl
          simp only [pu]
          refine anyL_take (i := 7) (v := .int .i64 (byteK qL j : Int)) rfl (by kernel_rfl) (by kernel_rfl) (by kernel_rfl) (yl_other (by decide) (by decide) rfl (fun f1 f2 wx hT => ?_)) ?_
          · have c0 := hT.la hj32; refine lands_value (w := wx) ?_ hT; go_simp
          simp only [pu]
          refine anyL_take (i := 8) (v := .bool true) rfl (by kernel_rfl) (by kernel_rfl) (by kernel_rfl) (yl_other (by decide) (by decide) rfl (fun f1 f2 wx hT => ?_)) ?_
          · refine lands_value (w := wx) ?_ hT; go_simp; simp [HB.out]
          simp only [pu]
          refine anyL_done (by kernel_rfl) (fun w3 (h3 : BlW R gr gl w w3) => ?_) _
          clear hr HB
          go_wp2_with fail
          refine wp_region_anyL (Two 1000 1001 fun _ _ wx => BlW R gr gl w wx) (by kernel_rfl) h3.drew ?_
          refine anyL_take (i := 0) (v := ?_) rfl (by kernel_rfl) (by kernel_rfl) (by kernel_rfl) (yl_other (by decide) (by decide) rfl (fun f1 f2 wx hT => ?_)) ?_; rotate_left
          · refine lands_value (w := wx) ?_ hT; go_simp <;> rfl
          simp only [pu]
          refine anyL_take (i := 1) (v := ?_) rfl (by kernel_rfl) (by kernel_rfl) (by kernel_rfl) (yl_other (by decide) (by decide) rfl (fun f1 f2 wx hT => ?_)) ?_; rotate_left
          · refine lands_value (w := wx) ?_ hT; go_simp <;> rfl
          simp only [pu]
          refine anyL_take (i := 2) (v := ?_) rfl (by kernel_rfl) (by kernel_rfl) (by kernel_rfl) (yl_other (by decide) (by decide) rfl (fun f1 f2 wx hT => ?_)) ?_; rotate_left
          · refine lands_value (w := wx) ?_ hT; go_simp <;> rfl
          simp only [pu]
          refine anyL_take (i := 3) (v := .int .i64 (byteK R j : Int)) rfl (by kernel_rfl) (by kernel_rfl) (by kernel_rfl) (yl_other (by decide) (by decide) rfl (fun f1 f2 wx hT => ?_)) ?_
          · have c0 := hT.ra hj33; refine lands_value (w := wx) ?_ hT; go_simp
          simp only [pu]
          refine anyL_take (i := 4) (v := ?_) rfl (by kernel_rfl) (by kernel_rfl) (by kernel_rfl) (yl_other (by decide) (by decide) rfl (fun f1 f2 wx hT => ?_)) ?_; rotate_left
          · refine lands_value (w := wx) ?_ hT; go_simp <;> rfl
          simp only [pu]
          refine anyL_take (i := 5) (v := ?_) rfl (by kernel_rfl) (by kernel_rfl) (by kernel_rfl) (yl_other (by decide) (by decide) rfl (fun f1 f2 wx hT => ?_)) ?_; rotate_left
          · refine lands_value (w := wx) ?_ hT; go_simp <;> rfl
          simp only [pu]
          refine anyL_take (i := 6) (v := ?_) rfl (by kernel_rfl) (by kernel_rfl) (by kernel_rfl) (yl_other (by decide) (by decide) rfl (fun f1 f2 wx hT => ?_)) ?_; rotate_left
          · refine lands_value (w := wx) ?_ hT; go_simp <;> rfl
          simp only [pu]
          refine anyL_take (i := 7) (v := .int .i64 (byteK qL j : Int)) rfl (by kernel_rfl) (by kernel_rfl) (by kernel_rfl) (yl_other (by decide) (by decide) rfl (fun f1 f2 wx hT => ?_)) ?_
          · have c0 := hT.la hj32; refine lands_value (w := wx) ?_ hT; go_simp
          simp only [pu]
          refine anyL_take (i := 8) (v := .bool (decide (R < qL))) rfl (by kernel_rfl) (by kernel_rfl) (by kernel_rfl) (yl_other (by decide) (by decide) rfl (fun f1 f2 wx hT => ?_)) ?_
          · refine lands_value (w := wx) ?_ hT; go_simp; exact HC.out
          simp only [pu]
          refine anyL_take (i := 9) (v := ?_) rfl (by kernel_rfl) (by kernel_rfl) (by kernel_rfl) (yl_other (by decide) (by decide) rfl (fun f1 f2 wx hT => ?_)) ?_; rotate_left
          · refine lands_value (w := wx) ?_ hT; go_simp <;> rfl
          simp only [pu]
          refine anyL_done (by kernel_rfl) (fun w4 (h4 : BlW R gr gl w w4) => ?_) _
          clear h3 HC
          go_wp2_with fail
          go_ret
          exact ⟨rfl, h4.b⟩
  · have HV : Hid (decide (R < qL) = false) := Lib.hid (decide_eq_false (cmp_over hz))
    have hz1 : (0 : Int) < byteK R 32 := by omega
    have hb := h1.b
    clear hz hR hr h1
    go_wp2_with fail
    go_ret
    exact ⟨by rw [HV.out]; rfl, hb⟩
end Go.Proofs.YtggalphgnloneaaGreat.L4
/- Reduce of the document's answer. -/
namespace Go.Proofs.YtggalphgnloneaaGreat.L4
open Go.RowKit
theorem own_blk {w : World} {base n : Nat} {e : TypeId} {g cap : Nat} {f : Nat → Value} (h : w.ownsRow base e 1 (.slice (some ⟨g, 0, none⟩) n cap) n ((List.range n).map f)) : (∃ cs, Blk w g e cs ∧ ∀ j, j < n → cs[j]? = some (f j)) ∧ base ≤ g := by
  rcases h.2 with ⟨h1, _⟩ | ⟨g', cap', cur, h1, hb, hg, _, _, _, ht⟩
  · cases h1
  · cases h1
    refine ⟨⟨cur, hg, fun j hj => ?_⟩, hb⟩
    have : (cur.toList.take (n * 1))[j]? = some (f j) := by rw [ht, List.getElem?_map, List.getElem?_range hj]; rfl
    rw [List.getElem?_take, if_pos (by omega)] at this
    simpa using this
/-- Within Reduce: the rest's list, L's list. -/
structure RdW (f : Nat → Value) (gr gl : Nat) (w wr : World) : Prop where
  r : Blk wr gr 3 (row 33 f)
  l : ∃ cs, Blk wr gl 3 cs ∧ ∀ j, j < 33 → cs[j]? = some (bK qL j)
  b : Below w.heap.size w wr
  lt : w.heap.size ≤ gl ∧ gl < gr
variable {f : Nat → Value} {gr gl : Nat} {w wr w' : World}
theorem RdW.drew (h : RdW f gr gl w wr) : RdW f gr gl w wr.drew := ⟨h.r, h.l, h.b.drew, h.lt⟩
theorem RdW.below (h : RdW f gr gl w wr) (hb : Below wr.heap.size wr w') : RdW f gr gl w w' := by
  obtain ⟨cs, hl, hc⟩ := h.l
  exact ⟨h.r.below hb h.r.lt, ⟨cs, hl.below hb hl.lt, hc⟩, h.b.trans (hb.mono h.b.size), h.lt⟩
theorem RdW.la (h : RdW f gr gl w wr) {j : Nat} (hj : j < 33) : wr.cell? ⟨gl, j, none⟩ = some (.int .i64 (byteK qL j : Int)) := by
  obtain ⟨cs, hl, hc⟩ := h.l
  exact (hl.cell j).trans (hc j hj)
theorem RdW.put {f' : Nat → Value} (h : RdW f gr gl w wr) {k : Nat} (hk : k < 33) (v : Value) (hf : ∀ j, j < 33 → (if j = k then v else f j) = f' j) : RdW f' gr gl w (wr.setCell ⟨gr, k, none⟩ v) := by
  obtain ⟨cs, hl, hc⟩ := h.l
  exact ⟨(h.r.put hk v).cast_ (row_ext hf), ⟨cs, hl.far (Nat.ne_of_lt h.lt.2) v, hc⟩, h.b.setCell (Nat.le_of_lt (Nat.lt_of_le_of_lt h.lt.1 h.lt.2)) _, h.lt⟩
theorem RdW.cast (h : RdW f gr gl w wr) {f' : Nat → Value} (hf : ∀ j, j < 33 → f j = f' j) : RdW f' gr gl w wr := ⟨h.r.cast_ (row_ext hf), h.l, h.b, h.lt⟩
def mK (R R' k j : Nat) : Value := if j < k then bK R' j else bK R j
theorem mK_zero (R R' j : Nat) : bK R j = mK R R' 0 j := by unfold mK; rw [if_neg (by omega)]
theorem mK_put (R R' k j : Nat) : (if j = k then bK R' k else mK R R' k j) = mK R R' (k + 1) j := by
  unfold mK
  by_cases h : j = k
  · subst h; rw [if_pos rfl, if_pos (by omega)]
  · rw [if_neg h]
    by_cases h2 : j < k
    · rw [if_pos h2, if_pos (by omega)]
    · rw [if_neg h2, if_neg (by omega)]
theorem mK_all (R R' j : Nat) (h : j < 33) : mK R R' 33 j = bK R' j := by unfold mK; rw [if_pos h]
theorem lK33 : lK qL 33 = lK qL 32 ++ [.int .i64 0] := by rw [lK_succ]; kernel_rfl
theorem byteS_extract (s : ByteArray) (n j : Nat) (hn : n ≤ s.size) (hj : j < n) : byteS (s.extract 0 n) j = byteS s j := by
  unfold byteS
  have h1 : j < (s.extract 0 n).size := by rw [ByteArray.size_extract]; omega
  rw [dif_pos h1, dif_pos (by omega), ByteArray.getElem_extract]
  congr 2; omega
theorem rdk {X X' k gr gl : Nat} {w wr : World} (h : RdW (mK X X' k) gr gl w wr) (hk : k < 33) : wr.cell? ⟨gr, k, none⟩ = some (Value.int .i64 (byteK X k : Int)) :=
  (h.r.at_ hk).trans (by unfold mK; rw [if_neg (Nat.lt_irrefl k)]; rfl)
/-- Within Reduce's end: the bytes so far. -/
structure RyW (M k gb gr gl : Nat) (w wr : World) : Prop where
  d : RdW (bK M) gr gl w wr
  o : Blk wr gb 5 (r8 32 (bF M k))
  lt : gr < gb
theorem RyW.put {M k gb gr gl : Nat} {w wr : World} (h : RyW M k gb gr gl w wr) (hk : k < 32) : RyW M (k + 1) gb gr gl w (wr.setCell ⟨gb, k, none⟩ (.int .u8 (byteK M k : Int))) := by
  obtain ⟨cs, hl, hc⟩ := h.d.l
  have l1 := h.d.lt
  have l2 := h.lt
  exact ⟨⟨h.d.r.far (show gr ≠ gb by omega) _, ⟨cs, hl.far (show gl ≠ gb by omega) _, hc⟩, h.d.b.setCell (show w.heap.size ≤ gb by omega) _, l1⟩, (h.o.put hk _).cast_ (row_ext fun j _ => by rw [byte_iw]; exact bF_put _ _ _), l2⟩
theorem step1 {R b k : Nat} : (2 * (byteK R k : Int) + (dc R b k : Int)).tmod 256 = (byteK (2 * R + b) k : Int) := by
  rw [Int.tmod_eq_emod_of_nonneg (by omega), ← dc_byte R b k]; omega
theorem step2 {R b k : Nat} : (2 * (byteK R k : Int) + (dc R b k : Int)).tdiv 256 = (dc R b (k + 1) : Int) := by
  rw [Int.tdiv_eq_ediv_of_nonneg (by omega), ← dc_next R b k]; omega
theorem step3 {X k : Nat} (h : qL ≤ X) : ((byteK X k : Int) - (byteK qL k : Int) - (bo X qL k : Int) + 256).tmod 256 = (byteK (X - qL) k : Int) := by
  have h1 := byteK_lt X k
  have h2 := byteK_lt qL k
  have h3 := bo_le X qL k
  rw [Int.tmod_eq_emod_of_nonneg (by omega), ← bo_byte X qL k h]; omega
theorem step4 {X k : Nat} : 1 - ((byteK X k : Int) - (byteK qL k : Int) - (bo X qL k : Int) + 256).tdiv 256 = (bo X qL (k + 1) : Int) := by
  have h1 := byteK_lt X k
  have h2 := byteK_lt qL k
  have h3 := bo_le X qL k
  rw [Int.tdiv_eq_ediv_of_nonneg (by omega), ← bo_next X qL k]; omega
set_option maxRecDepth 100000 in
set_option maxHeartbeats 4000000 in
theorem rreduce_short (t : ByteArray) (n : Nat) (w : World) (hn : t.size = n) (hn64 : n ≤ 64) :
    Calls Tryz.prog 20 #[.string t] w fun e w' => e = .returned (.string (bytesV (bv (byteS t) n % qL))) ∧ Below w.heap.size w w' := by
  obtain ⟨i0, hi, hz0, hz1, hz2⟩ := info_parts int_info
  have hmin : min (n : Int) 64 = n := by omega
  have hmn : min n 64 = n := by omega
  have hex : t.extract 0 n = t := by rw [← hn]; simp
  obtain ⟨N, hN⟩ : ∃ N, N = bv (byteS t) n := ⟨_, rfl⟩
  have H0 : Hid (bK (N / 2 ^ (8 * n) % qL) = bK 0) := Lib.hid (by rw [hN, Nat.div_eq_of_lt (bv_lt _ (byteS_lt t) n), Nat.zero_mod])
  have HS : Hid (∀ j, j < 8 * n → (2 * (N / 2 ^ (j + 1) % qL) + bitS t j) % qL = N / 2 ^ j % qL) := Lib.hid (fun j hj => by
    rw [← bitS_bv t n j hj, ← hN]; exact rest_next N j)
  have hmk : ∀ w, (Instr.makeSlice 58 (.int .i64 33) (.int .i64 33)).run Tryz.prog w = .ok (.slice (some ⟨w.heap.size, 0, none⟩) 33 33) (w.alloc (.cells (row 33 (bK 0)) 3)) := fun w => by kernel_rfl
  have hmk2 : ∀ w, (Instr.makeSlice 29 (.int .i64 32) (.int .i64 32)).run Tryz.prog w = .ok (.slice (some ⟨w.heap.size, 0, none⟩) 32 32) (w.alloc (.cells (r8 32 (bF (N / 2 ^ 0 % qL) 0)) 5)) := fun w => by rw [bF_none]; kernel_rfl
  have HBT := Lib.hid (fun j w h => rbit_any t j w h)
  have HR : Hid (bytesV (bv (byteS t) n % qL) = bytesV (N / 2 ^ 0 % qL)) := Lib.hid (by rw [← hN, Nat.pow_zero, Nat.div_one])
  clear hN
  go_enter Tryz.func20, Tryz.ntmps20
  go_wp2_with fail
  refine (rorder_any w).mono ?_
  rintro e w1 ⟨v, rfl, hO⟩
  have hown := hO.own
  have hb := hO.b
  have hbs := hb.size
  clear hO
  go_wp2_with (first
    | (at_builtin; refine wpList_append_own _ rfl _ _ 58 rfl w.heap.size 3 i0 (.int .i64 0) 1 8 Tryz.underlying58 hi hz0 hz1 hz2 rfl (by decide) _ _ _ rfl (hown.alloc _) ⟨w1.heap.size, 0, none⟩ 1 1 [.int .i64 0] rfl rfl ?c1 ?c2 ?c3 ?c4 ?c5 ?_))
  case c1 =>
    intro j u hu
    rw [addr_add, Nat.zero_add]
    exact (cell_of_row _ _ j _ _ (0, 0) (heap_alloc_new w1 _)).trans (by rw [← hu]; simp)
  case c2 =>
    intro u hu
    simp at hu
    subst hu
    rfl
  case c3 => unfold maxLen; omega
  case c4 => omega
  case c5 => simp; exact Nat.le_succ_of_le hbs
  intro v' w2 hown2 hg2 _
  have hb2 : Below w.heap.size w w2 := (hb.alloc hbs _).grown hg2 (by simp; exact Nat.le_succ_of_le hbs) (own_le hown)
  have hown3 : w2.ownsRow w.heap.size 3 1 v' 33 (lK qL 33) := by rw [lK33]; exact hown2
  obtain ⟨gl, cap, rfl⟩ := own_slice hown3 (by omega)
  obtain ⟨⟨cs, hl, hcs⟩, hgl⟩ := own_blk hown3
  have hd0 : RdW (bK (N / 2 ^ (8 * n) % qL)) w2.heap.size gl w (w2.alloc (.cells (row 33 (bK 0)) 3)) := ⟨(Blk.new w2 _ _).cast_ (by rw [H0.out]), ⟨cs, hl.alloc _, hcs⟩, hb2.alloc hb2.size _, hgl, hl.lt⟩
  clear hown hb hbs hown2 hg2 hb2 hown3 hl hcs hgl H0
  go_wp2_with fail
  clear hmk hi hz0 hz1 hz2 hex
  generalize w2.heap.size = gr at hd0 ⊢
  go_loopw [5] (fun i wr => ∃ k : Nat, k ≤ 8 * n ∧ i = .int .i64 ((k : Int) - 1) ∧ RdW (bK (N / 2 ^ k % qL)) gr gl w wr) (fun i _ => (intOf i + 1).toNat)
  case atStart => exact ⟨8 * n, Nat.le_refl _, by rw [show ((8 * n : Nat) : Int) = 8 * (n : Int) by omega], hd0⟩
  case round =>
    obtain ⟨k, hk, rfl, hr⟩ := hrel
    clear hd0
    cases k with
    | zero =>
      generalize N / 2 ^ 0 % qL = M at hmk2 HR hr
      have hcv : ∀ wx, Blk wx wr.heap.size 5 (r8 32 (bF M 32)) → (convert 29 9 (.slice (some ⟨wr.heap.size, 0, none⟩) 32 32)).run Tryz.prog wx = .ok (.string (bytesV M)) wx := fun wx hx => by
        rw [← bF_all]; exact run_string_of_blk wx _ _ 5 Tryz.underlying29 Tryz.underlying5 Tryz.underlying9 _ _ _ _ _ hx
      have hy0 : RyW M 0 wr.heap.size gr gl w (wr.alloc (.cells (r8 32 (bF M 0)) 5)) := by
        obtain ⟨cs, hl, hc⟩ := hr.l
        exact ⟨⟨hr.r.alloc _, ⟨cs, hl.alloc _, hc⟩, hr.b.alloc hr.b.size _, hr.lt⟩, Blk.new wr _ _, hr.r.lt⟩
      have HC := Lib.hid hcv
      clear hcv hr HS HBT
      go_wp2_with fail
      clear hmk2
      generalize wr.heap.size = gb at hy0 HC ⊢
      go_loopw [13] (fun i wr => ∃ k : Nat, k ≤ 32 ∧ i = .int .i64 (k : Int) ∧ RyW M k gb gr gl w wr) (fun i _ => 32 - (intOf i).toNat)
      case atStart => exact ⟨0, by omega, rfl, hy0⟩
      case round =>
        obtain ⟨k, hk2, rfl, hr⟩ := hrel
        clear hy0
        by_cases hlt : k < 32
        · have c0 : wr.cell? ⟨gr, k, none⟩ = some (Value.int .i64 (byteK M k : Int)) := hr.d.r.at_ (show k < 33 by omega)
          have c1 := hr.o.at_ hlt
          have fz := hr.o.frozen k
          have hbk := byteK_lt M k
          have hu : IntKind.u8.wrap (byteK M k : Int) = (byteK M k : Int) := IntWalk.u8_in _ (by omega)
          have HP : Hid (∀ wx, RyW M k gb gr gl w wx → RyW M (k + 1) gb gr gl w (wx.setCell ⟨gb, k, none⟩ (.int .u8 (byteK M k : Int)))) := Lib.hid (fun wx hx => hx.put hlt)
          generalize byteK M k = bk at c0 hbk hu HP
          go_wp2_with fail
          go_roundw
          case rel => exact ⟨k + 1, by omega, by go_num, HP.out _ hr⟩
          case measure => simp [intOf]; omega
        · obtain rfl : k = 32 := by omega
          have hcv := HC.out _ hr.o
          have hb := hr.d.b
          generalize bytesV M = OUT at hcv HR
          clear hr HC
          go_wp2_with fail
          go_ret
          exact ⟨by rw [HR.out]; rfl, hb⟩
    | succ j =>
      have hj : ((j + 1 : Nat) : Int) - 1 = (j : Int) := by omega
      rw [hj]
      clear hj
      have HX := Lib.hid (HS.out j (by omega))
      have hRq : N / 2 ^ (j + 1) % qL < qL := Nat.mod_lt _ (by decide)
      have hb1 := bitS_le t j
      have hjb : j < 9223372036854775808 := by omega
      go_wp2_with fail
      refine (HBT.out j _ hjb).mono ?_
      rintro e w3 ⟨rfl, rfl⟩
      clear hjb
      generalize N / 2 ^ (j + 1) % qL = R at HX hRq hr
      generalize bitS t j = b at HX hb1 ⊢
      go_wp2_with fail
      go_loopw [6, 7] (fun c i wr => ∃ k : Nat, k ≤ 33 ∧ i = .int .i64 (k : Int) ∧ c = .int .i64 (dc R b k : Int) ∧ RdW (mK R (2 * R + b) k) gr gl w wr) (fun _ i _ => 33 - (intOf i).toNat)
      case atStart => exact ⟨0, by omega, rfl, by rw [dc_zero], hr.cast (fun j _ => mK_zero _ _ j)⟩
      case round =>
        obtain ⟨k, hk2, rfl, rfl, hr2⟩ := hrel
        by_cases hlt : k < 33
        · have c0 : wr.cell? ⟨gr, k, none⟩ = some (Value.int .i64 (byteK R k : Int)) := (hr2.r.at_ hlt).trans (by unfold mK; rw [if_neg (Nat.lt_irrefl k)]; rfl)
          have fz := hr2.r.frozen k
          have hbk := byteK_lt R k
          have hdk := dc_le R b k hb1
          have hdk2 := dc_le R b (k + 1) hb1
          have e1 := step1 (R := R) (b := b) (k := k)
          have e2 := step2 (R := R) (b := b) (k := k)
          have HP : Hid (∀ wx, RdW (mK R (2 * R + b) k) gr gl w wx → RdW (mK R (2 * R + b) (k + 1)) gr gl w (wx.setCell ⟨gr, k, none⟩ (bK (2 * R + b) k))) := Lib.hid (fun wx hx => hx.put hlt _ (fun j _ => mK_put _ _ _ _))
          generalize byteK R k = bk at c0 hbk e1 e2
          generalize hd : dc R b k = d at hdk e1 e2
          clear hd
          go_wp2_with fail
          go_roundw
          case rel => exact ⟨k + 1, by omega, by go_num, rfl, HP.out _ hr2⟩
          case measure => simp [intOf]; omega
        · obtain rfl : k = 33 := by omega
          have hr3 : RdW (bK (2 * R + b)) gr gl w wr := hr2.cast (fun j h => mK_all _ _ j h)
          clear hr2 hr
          have hXl := rest_lt R b hRq hb1
          generalize 2 * R + b = X at HX hr3 hXl
          go_wp2_with fail
          have hX2 : X < 2 ^ 256 * 256 := Nat.lt_trans hXl (by decide)
          refine (rbelow_any X gr _ hX2 hr3.r).mono ?_
          rintro e w4 ⟨rfl, hq⟩
          have hr4 := hr3.below hq
          clear hr3 hq hX2
          by_cases hc : X < qL
          · have hd : decide (X < qL) = true := decide_eq_true hc
            rw [hd]
            have HY : Hid (X = N / 2 ^ j % qL) := Lib.hid (by rw [← HX.out, rest_below hc])
            clear hd hc hXl hb1 hRq HX
            go_wp2_with fail
            go_roundw
            case rel => exact ⟨j, by omega, rfl, by rw [← HY.out]; exact hr4⟩
            case measure => simp [intOf]
          · have hd : decide (X < qL) = false := decide_eq_false hc
            rw [hd]
            have hle : qL ≤ X := by omega
            have HY : Hid (X - qL = N / 2 ^ j % qL) := Lib.hid (by rw [← HX.out, rest_less hc hXl])
            clear hd hc hXl hb1 hRq HX
            go_wp2_with fail
            go_loopw [9, 10] (fun c i wr => ∃ k : Nat, k ≤ 33 ∧ i = .int .i64 (k : Int) ∧ c = .int .i64 (bo X qL k : Int) ∧ RdW (mK X (X - qL) k) gr gl w wr) (fun _ i _ => 33 - (intOf i).toNat)
            case atStart => exact ⟨0, by omega, rfl, by rw [bo_zero]; rfl, hr4.cast (fun j _ => mK_zero _ _ j)⟩
            case round =>
              obtain ⟨k, hk2, rfl, rfl, hr2⟩ := hrel
              by_cases hlt : k < 33
              · have h1 := byteK_lt X k
                have h2 := byteK_lt qL k
                have h3 := bo_le X qL k
                have h4 := byteK_lt (X - qL) k
                have h5 := bo_le X qL (k + 1)
                have hl0 : (k : Int) < 33 := by omega
                have hl1 : (0 : Int) ≤ k := by omega
                clear hr4
                go_wp2_with fail
                refine wp_region_anyL (Two 1000 1001 fun _ _ wx => RdW (mK X (X - qL) k) gr gl w wx) (by kernel_rfl) hr2.drew ?_
                refine anyL_take (i := 0) (v := ?_) rfl (by kernel_rfl) (by kernel_rfl) (by kernel_rfl) (yl_other (by decide) (by decide) rfl (fun f1 f2 wx hT => ?_)) ?_; rotate_left
                · refine lands_value (w := wx) ?_ hT; go_simp <;> rfl
                simp only [pu]
                refine anyL_take (i := 1) (v := ?_) rfl (by kernel_rfl) (by kernel_rfl) (by kernel_rfl) (yl_other (by decide) (by decide) rfl (fun f1 f2 wx hT => ?_)) ?_; rotate_left
                · refine lands_value (w := wx) ?_ hT; go_simp <;> rfl
                simp only [pu]
                refine anyL_take (i := 2) (v := ?_) rfl (by kernel_rfl) (by kernel_rfl) (by kernel_rfl) (yl_other (by decide) (by decide) rfl (fun f1 f2 wx hT => ?_)) ?_; rotate_left
                · refine lands_value (w := wx) ?_ hT; go_simp <;> rfl
                simp only [pu]
                refine anyL_take (i := 3) (v := .int .i64 (byteK X k : Int)) rfl (by kernel_rfl) (by kernel_rfl) (by kernel_rfl) (yl_other (by decide) (by decide) rfl (fun f1 f2 wx hT => ?_)) ?_
                · have c0 := rdk hT hlt; refine lands_value (w := wx) ?_ hT; go_simp
                simp only [pu]
                refine anyL_take (i := 4) (v := ?_) rfl (by kernel_rfl) (by kernel_rfl) (by kernel_rfl) (yl_other (by decide) (by decide) rfl (fun f1 f2 wx hT => ?_)) ?_; rotate_left
                · refine lands_value (w := wx) ?_ hT; go_simp <;> rfl
                simp only [pu]
                refine anyL_take (i := 5) (v := ?_) rfl (by kernel_rfl) (by kernel_rfl) (by kernel_rfl) (yl_other (by decide) (by decide) rfl (fun f1 f2 wx hT => ?_)) ?_; rotate_left
                · refine lands_value (w := wx) ?_ hT; go_simp <;> rfl
                simp only [pu]
                refine anyL_take (i := 6) (v := ?_) rfl (by kernel_rfl) (by kernel_rfl) (by kernel_rfl) (yl_other (by decide) (by decide) rfl (fun f1 f2 wx hT => ?_)) ?_; rotate_left
                · refine lands_value (w := wx) ?_ hT; go_simp <;> rfl
                simp only [pu]
                refine anyL_take (i := 7) (v := .int .i64 (byteK qL k : Int)) rfl (by kernel_rfl) (by kernel_rfl) (by kernel_rfl) (yl_other (by decide) (by decide) rfl (fun f1 f2 wx hT => ?_)) ?_
                · have c0 := hT.la hlt; refine lands_value (w := wx) ?_ hT; go_simp
                simp only [pu]
                refine anyL_take (i := 8) (v := .int .i64 ((byteK X k : Int) - (byteK qL k : Int))) rfl (by kernel_rfl) (by kernel_rfl) (by kernel_rfl) (yl_other (by decide) (by decide) rfl (fun f1 f2 wx hT => ?_)) ?_
                · refine lands_value (w := wx) ?_ hT; go_simp; exact IntWalk.i64_in _ (by omega)
                simp only [pu]
                refine anyL_take (i := 9) (v := ?_) rfl (by kernel_rfl) (by kernel_rfl) (by kernel_rfl) (yl_other (by decide) (by decide) rfl (fun f1 f2 wx hT => ?_)) ?_; rotate_left
                · refine lands_value (w := wx) ?_ hT; go_simp <;> rfl
                simp only [pu]
                refine anyL_take (i := 10) (v := .int .i64 ((byteK X k : Int) - (byteK qL k : Int) - (bo X qL k : Int))) rfl (by kernel_rfl) (by kernel_rfl) (by kernel_rfl) (yl_other (by decide) (by decide) rfl (fun f1 f2 wx hT => ?_)) ?_
                · refine lands_value (w := wx) ?_ hT; go_simp; exact IntWalk.i64_in _ (by omega)
                simp only [pu]
                refine anyL_take (i := 11) (v := .int .i64 ((byteK X k : Int) - (byteK qL k : Int) - (bo X qL k : Int) + 256)) rfl (by kernel_rfl) (by kernel_rfl) (by kernel_rfl) (yl_other (by decide) (by decide) rfl (fun f1 f2 wx hT => ?_)) ?_
                · refine lands_value (w := wx) ?_ hT; go_simp; exact IntWalk.i64_in _ (by omega)
                simp only [pu]
                refine anyL_take (i := 12) (v := ?_) rfl (by kernel_rfl) (by kernel_rfl) (by kernel_rfl) (yl_other (by decide) (by decide) rfl (fun f1 f2 wx hT => ?_)) ?_; rotate_left
                · refine lands_value (w := wx) ?_ hT; go_simp <;> rfl
                simp only [pu]
                refine anyL_done (by kernel_rfl) (fun w5 (h5w : RdW (mK X (X - qL) k) gr gl w w5) => ?_) _
                clear hr2
                have c0 := rdk h5w hlt
                have fz := h5w.r.frozen k
                have e1 := step3 (k := k) hle
                have e2 := step4 (X := X) (k := k)
                have hx0 : (0 : Int) ≤ (byteK X k : Int) - (byteK qL k : Int) - (bo X qL k : Int) + 256 := by omega
                have hx1 : (byteK X k : Int) - (byteK qL k : Int) - (bo X qL k : Int) + 256 < 512 := by omega
                generalize (byteK X k : Int) - (byteK qL k : Int) - (bo X qL k : Int) + 256 = x at e1 e2 hx0 hx1 ⊢
                have HP : Hid (∀ wx, RdW (mK X (X - qL) k) gr gl w wx → RdW (mK X (X - qL) (k + 1)) gr gl w (wx.setCell ⟨gr, k, none⟩ (.int .i64 (byteK (X - qL) k : Int)))) := Lib.hid (fun wx hx => hx.put hlt _ (fun j _ => mK_put _ _ _ _))
                clear h1 h2 h3
                generalize byteK (X - qL) k = y at e1 h4 HP
                go_wp2_with fail
                go_roundw
                case rel => exact ⟨k + 1, by omega, by go_num, rfl, HP.out _ h5w⟩
                case measure => simp [intOf]; omega
              · obtain rfl : k = 33 := by omega
                have hr5 : RdW (bK (X - qL)) gr gl w wr := hr2.cast (fun j h => mK_all _ _ j h)
                clear hr2 hr4
                go_wp2_with fail
                go_roundw
                case rel => exact ⟨j, by omega, rfl, by rw [← HY.out]; exact hr5⟩
                case measure => simp [intOf]
end Go.Proofs.YtggalphgnloneaaGreat.L4
/- Reduce of the document's answer, of any text; Right. -/
namespace Go.Proofs.YtggalphgnloneaaGreat.L4
open Go.RowKit
set_option maxRecDepth 100000 in
set_option maxHeartbeats 4000000 in
theorem rreduce_long (s t : ByteArray) (n : Nat) (w : World) (hn : t.size = n) (hn64 : n ≤ 64) (hs : ¬ s.size ≤ 64) (ht : s.extract 0 64 = t) :
    Calls Tryz.prog 20 #[.string s] w fun e w' => e = .returned (.string (bytesV (bv (byteS t) n % qL))) ∧ Below w.heap.size w w' := by
  obtain ⟨i0, hi, hz0, hz1, hz2⟩ := info_parts int_info
  have hmin : min (s.size : Int) 64 = 64 := by omega
  have hs2 : (64 : Int) ≤ s.size := by omega
  have HT := Lib.hid ht
  clear ht
  obtain ⟨N, hN⟩ : ∃ N, N = bv (byteS t) n := ⟨_, rfl⟩
  have H0 : Hid (bK (N / 2 ^ (8 * n) % qL) = bK 0) := Lib.hid (by rw [hN, Nat.div_eq_of_lt (bv_lt _ (byteS_lt t) n), Nat.zero_mod])
  have HS : Hid (∀ j, j < 8 * n → (2 * (N / 2 ^ (j + 1) % qL) + bitS t j) % qL = N / 2 ^ j % qL) := Lib.hid (fun j hj => by
    rw [← bitS_bv t n j hj, ← hN]; exact rest_next N j)
  have hmk : ∀ w, (Instr.makeSlice 58 (.int .i64 33) (.int .i64 33)).run Tryz.prog w = .ok (.slice (some ⟨w.heap.size, 0, none⟩) 33 33) (w.alloc (.cells (row 33 (bK 0)) 3)) := fun w => by kernel_rfl
  have hmk2 : ∀ w, (Instr.makeSlice 29 (.int .i64 32) (.int .i64 32)).run Tryz.prog w = .ok (.slice (some ⟨w.heap.size, 0, none⟩) 32 32) (w.alloc (.cells (r8 32 (bF (N / 2 ^ 0 % qL) 0)) 5)) := fun w => by rw [bF_none]; kernel_rfl
  have HBT := Lib.hid (fun j w h => rbit_any t j w h)
  have HR : Hid (bytesV (bv (byteS t) n % qL) = bytesV (N / 2 ^ 0 % qL)) := Lib.hid (by rw [← hN, Nat.pow_zero, Nat.div_one])
  clear hN
  go_enter Tryz.func20, Tryz.ntmps20
  go_wp2_with fail
  rw [HT.out]
  clear hs hs2 hmin HT
  refine (rorder_any w).mono ?_
  rintro e w1 ⟨v, rfl, hO⟩
  have hown := hO.own
  have hb := hO.b
  have hbs := hb.size
  clear hO
  go_wp2_with (first
    | (at_builtin; refine wpList_append_own _ rfl _ _ 58 rfl w.heap.size 3 i0 (.int .i64 0) 1 8 Tryz.underlying58 hi hz0 hz1 hz2 rfl (by decide) _ _ _ rfl (hown.alloc _) ⟨w1.heap.size, 0, none⟩ 1 1 [.int .i64 0] rfl rfl ?c1 ?c2 ?c3 ?c4 ?c5 ?_))
  case c1 =>
    intro j u hu
    rw [addr_add, Nat.zero_add]
    exact (cell_of_row _ _ j _ _ (0, 0) (heap_alloc_new w1 _)).trans (by rw [← hu]; simp)
  case c2 =>
    intro u hu
    simp at hu
    subst hu
    rfl
  case c3 => unfold maxLen; omega
  case c4 => omega
  case c5 => simp; exact Nat.le_succ_of_le hbs
  intro v' w2 hown2 hg2 _
  have hb2 : Below w.heap.size w w2 := (hb.alloc hbs _).grown hg2 (by simp; exact Nat.le_succ_of_le hbs) (own_le hown)
  have hown3 : w2.ownsRow w.heap.size 3 1 v' 33 (lK qL 33) := by rw [lK33]; exact hown2
  obtain ⟨gl, cap, rfl⟩ := own_slice hown3 (by omega)
  obtain ⟨⟨cs, hl, hcs⟩, hgl⟩ := own_blk hown3
  have hd0 : RdW (bK (N / 2 ^ (8 * n) % qL)) w2.heap.size gl w (w2.alloc (.cells (row 33 (bK 0)) 3)) := ⟨(Blk.new w2 _ _).cast_ (by rw [H0.out]), ⟨cs, hl.alloc _, hcs⟩, hb2.alloc hb2.size _, hgl, hl.lt⟩
  clear hown hb hbs hown2 hg2 hb2 hown3 hl hcs hgl H0
  go_wp2_with fail
  clear hmk hi hz0 hz1 hz2
  generalize w2.heap.size = gr at hd0 ⊢
  go_loopw [5] (fun i wr => ∃ k : Nat, k ≤ 8 * n ∧ i = .int .i64 ((k : Int) - 1) ∧ RdW (bK (N / 2 ^ k % qL)) gr gl w wr) (fun i _ => (intOf i + 1).toNat)
  case atStart => exact ⟨8 * n, Nat.le_refl _, by rw [show ((8 * n : Nat) : Int) = 8 * (n : Int) by omega], hd0⟩
  case round =>
    obtain ⟨k, hk, rfl, hr⟩ := hrel
    clear hd0
    cases k with
    | zero =>
      generalize N / 2 ^ 0 % qL = M at hmk2 HR hr
      have hcv : ∀ wx, Blk wx wr.heap.size 5 (r8 32 (bF M 32)) → (convert 29 9 (.slice (some ⟨wr.heap.size, 0, none⟩) 32 32)).run Tryz.prog wx = .ok (.string (bytesV M)) wx := fun wx hx => by
        rw [← bF_all]; exact run_string_of_blk wx _ _ 5 Tryz.underlying29 Tryz.underlying5 Tryz.underlying9 _ _ _ _ _ hx
      have hy0 : RyW M 0 wr.heap.size gr gl w (wr.alloc (.cells (r8 32 (bF M 0)) 5)) := by
        obtain ⟨cs, hl, hc⟩ := hr.l
        exact ⟨⟨hr.r.alloc _, ⟨cs, hl.alloc _, hc⟩, hr.b.alloc hr.b.size _, hr.lt⟩, Blk.new wr _ _, hr.r.lt⟩
      have HC := Lib.hid hcv
      clear hcv hr HS HBT
      go_wp2_with fail
      clear hmk2
      generalize wr.heap.size = gb at hy0 HC ⊢
      go_loopw [13] (fun i wr => ∃ k : Nat, k ≤ 32 ∧ i = .int .i64 (k : Int) ∧ RyW M k gb gr gl w wr) (fun i _ => 32 - (intOf i).toNat)
      case atStart => exact ⟨0, by omega, rfl, hy0⟩
      case round =>
        obtain ⟨k, hk2, rfl, hr⟩ := hrel
        clear hy0
        by_cases hlt : k < 32
        · have c0 : wr.cell? ⟨gr, k, none⟩ = some (Value.int .i64 (byteK M k : Int)) := hr.d.r.at_ (show k < 33 by omega)
          have c1 := hr.o.at_ hlt
          have fz := hr.o.frozen k
          have hbk := byteK_lt M k
          have hu : IntKind.u8.wrap (byteK M k : Int) = (byteK M k : Int) := IntWalk.u8_in _ (by omega)
          have HP : Hid (∀ wx, RyW M k gb gr gl w wx → RyW M (k + 1) gb gr gl w (wx.setCell ⟨gb, k, none⟩ (.int .u8 (byteK M k : Int)))) := Lib.hid (fun wx hx => hx.put hlt)
          generalize byteK M k = bk at c0 hbk hu HP
          go_wp2_with fail
          go_roundw
          case rel => exact ⟨k + 1, by omega, by go_num, HP.out _ hr⟩
          case measure => simp [intOf]; omega
        · obtain rfl : k = 32 := by omega
          have hcv := HC.out _ hr.o
          have hb := hr.d.b
          generalize bytesV M = OUT at hcv HR
          clear hr HC
          go_wp2_with fail
          go_ret
          exact ⟨by rw [HR.out]; rfl, hb⟩
    | succ j =>
      have hj : ((j + 1 : Nat) : Int) - 1 = (j : Int) := by omega
      rw [hj]
      clear hj
      have HX := Lib.hid (HS.out j (by omega))
      have hRq : N / 2 ^ (j + 1) % qL < qL := Nat.mod_lt _ (by decide)
      have hb1 := bitS_le t j
      have hjb : j < 9223372036854775808 := by omega
      go_wp2_with fail
      refine (HBT.out j _ hjb).mono ?_
      rintro e w3 ⟨rfl, rfl⟩
      clear hjb
      generalize N / 2 ^ (j + 1) % qL = R at HX hRq hr
      generalize bitS t j = b at HX hb1 ⊢
      go_wp2_with fail
      go_loopw [6, 7] (fun c i wr => ∃ k : Nat, k ≤ 33 ∧ i = .int .i64 (k : Int) ∧ c = .int .i64 (dc R b k : Int) ∧ RdW (mK R (2 * R + b) k) gr gl w wr) (fun _ i _ => 33 - (intOf i).toNat)
      case atStart => exact ⟨0, by omega, rfl, by rw [dc_zero], hr.cast (fun j _ => mK_zero _ _ j)⟩
      case round =>
        obtain ⟨k, hk2, rfl, rfl, hr2⟩ := hrel
        by_cases hlt : k < 33
        · have c0 : wr.cell? ⟨gr, k, none⟩ = some (Value.int .i64 (byteK R k : Int)) := (hr2.r.at_ hlt).trans (by unfold mK; rw [if_neg (Nat.lt_irrefl k)]; rfl)
          have fz := hr2.r.frozen k
          have hbk := byteK_lt R k
          have hdk := dc_le R b k hb1
          have hdk2 := dc_le R b (k + 1) hb1
          have e1 := step1 (R := R) (b := b) (k := k)
          have e2 := step2 (R := R) (b := b) (k := k)
          have HP : Hid (∀ wx, RdW (mK R (2 * R + b) k) gr gl w wx → RdW (mK R (2 * R + b) (k + 1)) gr gl w (wx.setCell ⟨gr, k, none⟩ (bK (2 * R + b) k))) := Lib.hid (fun wx hx => hx.put hlt _ (fun j _ => mK_put _ _ _ _))
          generalize byteK R k = bk at c0 hbk e1 e2
          generalize hd : dc R b k = d at hdk e1 e2
          clear hd
          go_wp2_with fail
          go_roundw
          case rel => exact ⟨k + 1, by omega, by go_num, rfl, HP.out _ hr2⟩
          case measure => simp [intOf]; omega
        · obtain rfl : k = 33 := by omega
          have hr3 : RdW (bK (2 * R + b)) gr gl w wr := hr2.cast (fun j h => mK_all _ _ j h)
          clear hr2 hr
          have hXl := rest_lt R b hRq hb1
          generalize 2 * R + b = X at HX hr3 hXl
          go_wp2_with fail
          have hX2 : X < 2 ^ 256 * 256 := Nat.lt_trans hXl (by decide)
          refine (rbelow_any X gr _ hX2 hr3.r).mono ?_
          rintro e w4 ⟨rfl, hq⟩
          have hr4 := hr3.below hq
          clear hr3 hq hX2
          by_cases hc : X < qL
          · have hd : decide (X < qL) = true := decide_eq_true hc
            rw [hd]
            have HY : Hid (X = N / 2 ^ j % qL) := Lib.hid (by rw [← HX.out, rest_below hc])
            clear hd hc hXl hb1 hRq HX
            go_wp2_with fail
            go_roundw
            case rel => exact ⟨j, by omega, rfl, by rw [← HY.out]; exact hr4⟩
            case measure => simp [intOf]
          · have hd : decide (X < qL) = false := decide_eq_false hc
            rw [hd]
            have hle : qL ≤ X := by omega
            have HY : Hid (X - qL = N / 2 ^ j % qL) := Lib.hid (by rw [← HX.out, rest_less hc hXl])
            clear hd hc hXl hb1 hRq HX
            go_wp2_with fail
            go_loopw [9, 10] (fun c i wr => ∃ k : Nat, k ≤ 33 ∧ i = .int .i64 (k : Int) ∧ c = .int .i64 (bo X qL k : Int) ∧ RdW (mK X (X - qL) k) gr gl w wr) (fun _ i _ => 33 - (intOf i).toNat)
            case atStart => exact ⟨0, by omega, rfl, by rw [bo_zero]; rfl, hr4.cast (fun j _ => mK_zero _ _ j)⟩
            case round =>
              obtain ⟨k, hk2, rfl, rfl, hr2⟩ := hrel
              by_cases hlt : k < 33
              · have h1 := byteK_lt X k
                have h2 := byteK_lt qL k
                have h3 := bo_le X qL k
                have h4 := byteK_lt (X - qL) k
                have h5 := bo_le X qL (k + 1)
                have hl0 : (k : Int) < 33 := by omega
                have hl1 : (0 : Int) ≤ k := by omega
                clear hr4
                go_wp2_with fail
                refine wp_region_anyL (Two 1000 1001 fun _ _ wx => RdW (mK X (X - qL) k) gr gl w wx) (by kernel_rfl) hr2.drew ?_
                refine anyL_take (i := 0) (v := ?_) rfl (by kernel_rfl) (by kernel_rfl) (by kernel_rfl) (yl_other (by decide) (by decide) rfl (fun f1 f2 wx hT => ?_)) ?_; rotate_left
                · refine lands_value (w := wx) ?_ hT; go_simp <;> rfl
                simp only [pu]
                refine anyL_take (i := 1) (v := ?_) rfl (by kernel_rfl) (by kernel_rfl) (by kernel_rfl) (yl_other (by decide) (by decide) rfl (fun f1 f2 wx hT => ?_)) ?_; rotate_left
                · refine lands_value (w := wx) ?_ hT; go_simp <;> rfl
                simp only [pu]
                refine anyL_take (i := 2) (v := ?_) rfl (by kernel_rfl) (by kernel_rfl) (by kernel_rfl) (yl_other (by decide) (by decide) rfl (fun f1 f2 wx hT => ?_)) ?_; rotate_left
                · refine lands_value (w := wx) ?_ hT; go_simp <;> rfl
                simp only [pu]
                refine anyL_take (i := 3) (v := .int .i64 (byteK X k : Int)) rfl (by kernel_rfl) (by kernel_rfl) (by kernel_rfl) (yl_other (by decide) (by decide) rfl (fun f1 f2 wx hT => ?_)) ?_
                · have c0 := rdk hT hlt; refine lands_value (w := wx) ?_ hT; go_simp
                simp only [pu]
                refine anyL_take (i := 4) (v := ?_) rfl (by kernel_rfl) (by kernel_rfl) (by kernel_rfl) (yl_other (by decide) (by decide) rfl (fun f1 f2 wx hT => ?_)) ?_; rotate_left
                · refine lands_value (w := wx) ?_ hT; go_simp <;> rfl
                simp only [pu]
                refine anyL_take (i := 5) (v := ?_) rfl (by kernel_rfl) (by kernel_rfl) (by kernel_rfl) (yl_other (by decide) (by decide) rfl (fun f1 f2 wx hT => ?_)) ?_; rotate_left
                · refine lands_value (w := wx) ?_ hT; go_simp <;> rfl
                simp only [pu]
                refine anyL_take (i := 6) (v := ?_) rfl (by kernel_rfl) (by kernel_rfl) (by kernel_rfl) (yl_other (by decide) (by decide) rfl (fun f1 f2 wx hT => ?_)) ?_; rotate_left
                · refine lands_value (w := wx) ?_ hT; go_simp <;> rfl
                simp only [pu]
                refine anyL_take (i := 7) (v := .int .i64 (byteK qL k : Int)) rfl (by kernel_rfl) (by kernel_rfl) (by kernel_rfl) (yl_other (by decide) (by decide) rfl (fun f1 f2 wx hT => ?_)) ?_
                · have c0 := hT.la hlt; refine lands_value (w := wx) ?_ hT; go_simp
                simp only [pu]
                refine anyL_take (i := 8) (v := .int .i64 ((byteK X k : Int) - (byteK qL k : Int))) rfl (by kernel_rfl) (by kernel_rfl) (by kernel_rfl) (yl_other (by decide) (by decide) rfl (fun f1 f2 wx hT => ?_)) ?_
                · refine lands_value (w := wx) ?_ hT; go_simp; exact IntWalk.i64_in _ (by omega)
                simp only [pu]
                refine anyL_take (i := 9) (v := ?_) rfl (by kernel_rfl) (by kernel_rfl) (by kernel_rfl) (yl_other (by decide) (by decide) rfl (fun f1 f2 wx hT => ?_)) ?_; rotate_left
                · refine lands_value (w := wx) ?_ hT; go_simp <;> rfl
                simp only [pu]
                refine anyL_take (i := 10) (v := .int .i64 ((byteK X k : Int) - (byteK qL k : Int) - (bo X qL k : Int))) rfl (by kernel_rfl) (by kernel_rfl) (by kernel_rfl) (yl_other (by decide) (by decide) rfl (fun f1 f2 wx hT => ?_)) ?_
                · refine lands_value (w := wx) ?_ hT; go_simp; exact IntWalk.i64_in _ (by omega)
                simp only [pu]
                refine anyL_take (i := 11) (v := .int .i64 ((byteK X k : Int) - (byteK qL k : Int) - (bo X qL k : Int) + 256)) rfl (by kernel_rfl) (by kernel_rfl) (by kernel_rfl) (yl_other (by decide) (by decide) rfl (fun f1 f2 wx hT => ?_)) ?_
                · refine lands_value (w := wx) ?_ hT; go_simp; exact IntWalk.i64_in _ (by omega)
                simp only [pu]
                refine anyL_take (i := 12) (v := ?_) rfl (by kernel_rfl) (by kernel_rfl) (by kernel_rfl) (yl_other (by decide) (by decide) rfl (fun f1 f2 wx hT => ?_)) ?_; rotate_left
                · refine lands_value (w := wx) ?_ hT; go_simp <;> rfl
                simp only [pu]
                refine anyL_done (by kernel_rfl) (fun w5 (h5w : RdW (mK X (X - qL) k) gr gl w w5) => ?_) _
                clear hr2
                have c0 := rdk h5w hlt
                have fz := h5w.r.frozen k
                have e1 := step3 (k := k) hle
                have e2 := step4 (X := X) (k := k)
                have hx0 : (0 : Int) ≤ (byteK X k : Int) - (byteK qL k : Int) - (bo X qL k : Int) + 256 := by omega
                have hx1 : (byteK X k : Int) - (byteK qL k : Int) - (bo X qL k : Int) + 256 < 512 := by omega
                generalize (byteK X k : Int) - (byteK qL k : Int) - (bo X qL k : Int) + 256 = x at e1 e2 hx0 hx1 ⊢
                have HP : Hid (∀ wx, RdW (mK X (X - qL) k) gr gl w wx → RdW (mK X (X - qL) (k + 1)) gr gl w (wx.setCell ⟨gr, k, none⟩ (.int .i64 (byteK (X - qL) k : Int)))) := Lib.hid (fun wx hx => hx.put hlt _ (fun j _ => mK_put _ _ _ _))
                clear h1 h2 h3
                generalize byteK (X - qL) k = y at e1 h4 HP
                go_wp2_with fail
                go_roundw
                case rel => exact ⟨k + 1, by omega, by go_num, rfl, HP.out _ h5w⟩
                case measure => simp [intOf]; omega
              · obtain rfl : k = 33 := by omega
                have hr5 : RdW (bK (X - qL)) gr gl w wr := hr2.cast (fun j h => mK_all _ _ j h)
                clear hr2 hr4
                go_wp2_with fail
                go_roundw
                case rel => exact ⟨j, by omega, rfl, by rw [← HY.out]; exact hr5⟩
                case measure => simp [intOf]
/-- Reduce: P4.1. -/
def redV (s : ByteArray) : ByteArray := bytesV (numV s 64 % qL)
theorem rreduce_any (s : ByteArray) (w : World) :
    Calls Tryz.prog 20 #[.string s] w fun e w' => e = .returned (.string (redV s)) ∧ Below w.heap.size w w' := by
  unfold redV numV
  by_cases h : s.size ≤ 64
  · have := rreduce_short s s.size w rfl h
    rwa [show min s.size 64 = s.size by omega]
  · have hsz : (s.extract 0 64).size = 64 := by rw [ByteArray.size_extract]; omega
    have := rreduce_long s (s.extract 0 64) 64 w hsz (Nat.le_refl _) h rfl
    rw [show min s.size 64 = 64 by omega]
    rwa [bv_congr 64 (fun j hj => byteS_extract s 64 j (by omega) hj)] at this
theorem text_eq (r s : ByteArray) : (r.toList == s.toList) = decide (r = s) := by
  rw [Bool.eq_iff_iff, beq_iff_eq, decide_eq_true_eq, ByteArray.toList_eq, ByteArray.toList_eq]
  exact ⟨fun h => ByteArray.ext (Array.toList_inj.mp h), fun h => by rw [h]⟩
set_option maxRecDepth 100000 in
set_option maxHeartbeats 1000000 in
theorem rright_any (s : ByteArray) (w : World) :
    Calls Tryz.prog 30 #[.string s] w fun e w' => e = .returned (.bool (decide (s.size = 32 ∧ redV s = s))) ∧ Below w.heap.size w w' := by
  by_cases h : s.size = 32
  · have HV : Hid (decide (s.size = 32 ∧ redV s = s) = decide (redV s = s)) := Lib.hid (by rw [decide_eq_decide]; exact ⟨fun h => h.2, fun h2 => ⟨h, h2⟩⟩)
    have hc : ((s.size : Int) == 32) = true := by rw [h]; rfl
    have CR := Lib.hid (fun w => rreduce_any s w)
    generalize redV s = r at HV CR
    clear h
    go_enter Tryz.func30, Tryz.ntmps30
    go_wp2_with fail
    refine (CR.out _).mono ?_
    rintro e w1 ⟨rfl, hq⟩
    go_wp2_with fail
    rw [text_eq]
    go_ret
    exact ⟨by rw [HV.out]; rfl, hq⟩
  · have HV : Hid (decide (s.size = 32 ∧ redV s = s) = false) := Lib.hid (decide_eq_false (fun h2 => h h2.1))
    have hc : ((s.size : Int) == 32) = false := by rw [beq_eq_false_iff_ne]; omega
    clear h
    go_enter Tryz.func30, Tryz.ntmps30
    go_wp2_with fail
    go_ret
    exact ⟨by rw [HV.out]; rfl, Below.refl _ _⟩
end Go.Proofs.YtggalphgnloneaaGreat.L4
/- Clamp of the document's answer; Bit of any number. -/
namespace Go.Proofs.YtggalphgnloneaaGreat.L4
open Go.RowKit
/-- The bytes that Clamp answers. -/
def clampB (s : ByteArray) (j : Nat) : Nat := if j = 31 then byteS s 31 % 64 + 64 else if j = 0 then byteS s 0 / 8 * 8 else byteS s j
def clampL (s : ByteArray) : List UInt8 := (List.range 32).map fun j => UInt8.ofNat (clampB s j)
def clampV (s : ByteArray) : ByteArray × Bool := if s.size = 32 then (⟨(clampL s).toArray⟩, true) else (⟨#[]⟩, false)
theorem clampB_lt (s : ByteArray) (j : Nat) : clampB s j < 256 := by
  unfold clampB
  have h0 := byteS_lt s 0
  have h1 := byteS_lt s j
  split
  · omega
  · split <;> omega
/-- Bytes in a block whose row is a conversion's. -/
structure ClW (f : Nat → Int) (g : Nat) (w wr : World) : Prop where
  c : ∀ j, j < 32 → wr.cell? ⟨g, j, none⟩ = some (.int .u8 (f j))
  fz : ∀ j, j < 32 → wr.frozen? ⟨g, j, none⟩ = false
  b : Below w.heap.size w wr
  ge : w.heap.size ≤ g
theorem ClW.put {f : Nat → Int} {g : Nat} {w wr : World} (h : ClW f g w wr) {k : Nat} (hk : k < 32) (v : Int) : ClW (fun j => if j = k then v else f j) g w (wr.setCell ⟨g, k, none⟩ (.int .u8 v)) :=
  ⟨fun j hj => by
    by_cases h1 : j = k
    · subst h1; simp only [if_true]; exact World.cell?_setCell_same _ _ _ (h.c j hj)
    · have hne : (⟨g, k, none⟩ : Addr) ≠ ⟨g, j, none⟩ := by intro hh; injection hh with _ h2; exact h1 h2.symm
      rw [if_neg h1, World.cell?_setCell_other _ _ _ _ hne]; exact h.c j hj,
   fun j hj => (World.frozen?_setCell _ _ _ _).trans (h.fz j hj), h.b.setCell h.ge _, h.ge⟩
theorem conv_start (s : ByteArray) (w : World) (h : s.size = 32) : ∃ cap W1, (convert 9 29 (.string s)).run Tryz.prog w = .ok (.slice (some ⟨w.heap.size, 0, none⟩) 32 cap) W1 ∧ ClW (fun j => (byteS s j : Int)) w.heap.size w W1 := by
  refine ⟨_, _, (Lib.run_convert_string_bytes w _ _ 5 s Tryz.underlying9 Tryz.underlying29 Tryz.underlying5).trans (by rw [h]), ?_⟩
  have hsz : ∀ j, j < 32 → j < (Lib.bytesCells w 5 s).size := fun j hj => by
    unfold Lib.bytesCells; rw [Array.size_append, Array.size_map]
    have : s.data.size = 32 := h
    omega
  refine ⟨fun j hj => ?_, fun j hj => ?_, ⟨rfl, rfl, rfl, by rw [Lib.bytesWorld_size]; omega, fun k hk => Lib.bytesWorld_at_old _ _ _ _ hk⟩, Nat.le_refl _⟩
  · rw [Lib.bytesWorld_cell _ _ _ _ (by omega)]
    rw [← byteS_at s j (by omega)]
    congr 3
    rw [List.getD_eq_getElem?_getD, List.getElem?_eq_getElem (by simpa using (show j < s.size by omega))]
    rfl
  · have := hsz j hj
    simp [World.frozen?, Lib.bytesWorld_at_new]
    omega
theorem conv_end {f : Nat → Int} {g : Nat} {w wr : World} (h : ClW f g w wr) (s : ByteArray) (hf : ∀ j, j < 32 → f j = (clampB s j : Int)) (cap : Nat) : (convert 29 9 (.slice (some ⟨g, 0, none⟩) 32 cap)).run Tryz.prog wr = .ok (.string ⟨(clampL s).toArray⟩) wr := by
  have hl : (clampL s).length = 32 := by unfold clampL; simp
  have := run_convert_bytes_back (P := Tryz.prog) wr 29 9 5 ⟨g, 0, none⟩ cap (clampL s) Tryz.underlying29 Tryz.underlying5 Tryz.underlying9 (fun j hj => by
    rw [addr_add, Nat.zero_add, h.c j (by omega), hf j (by omega)]
    have hb := clampB_lt s j
    simp [clampL]
    omega)
  rwa [hl] at this
set_option maxRecDepth 100000 in
set_option maxHeartbeats 1000000 in
theorem rclamp_any (s : ByteArray) (w : World) :
    Calls Tryz.prog 39 #[.string s] w fun e w' => e = .returned (.tuple #[.string (clampV s).1, .bool (clampV s).2]) ∧ Below w.heap.size w w' := by
  by_cases h : s.size = 32
  · have HV : Hid (clampV s = (⟨(clampL s).toArray⟩, true)) := Lib.hid (by unfold clampV; rw [if_pos h])
    have hc : ((s.size : Int) != 32) = false := by rw [h]; rfl
    obtain ⟨cap, W1, hcv, hW⟩ := conv_start s w h
    have c0 := hW.c 0 (by omega)
    have f0 := hW.fz 0 (by omega)
    have hq := byteS_lt s 0
    obtain ⟨q, hqd⟩ : ∃ q, q = byteS s 0 / 8 := ⟨_, rfl⟩
    obtain ⟨r, hrd⟩ : ∃ r, r = byteS s 31 % 64 := ⟨_, rfl⟩
    have hq32 : q < 32 := by omega
    have hr64 : r < 64 := by omega
    have eq1 : (byteS s 0 : Int).tdiv 8 = (q : Int) := by rw [Int.tdiv_eq_ediv_of_nonneg (by omega)]; omega
    have eq2 : (byteS s 31 : Int).tmod 64 = (r : Int) := by rw [Int.tmod_eq_emod_of_nonneg (by omega)]; omega
    have hW2 := hW.put (k := 0) (by omega) ((q : Int) * 8)
    have c31 := hW2.c 31 (by omega)
    have f31 := hW2.fz 31 (by omega)
    have hW3 := hW2.put (k := 31) (by omega) ((r : Int) + 64)
    have hend := conv_end hW3 s (fun j hj => by
      unfold clampB
      by_cases h1 : j = 31
      · rw [if_pos h1, if_pos h1, hrd]; omega
      · rw [if_neg h1, if_neg h1]
        by_cases h2 : j = 0
        · rw [if_pos h2, if_pos h2, hqd]; omega
        · rw [if_neg h2, if_neg h2]) cap
    have hb := hW3.b
    simp only [show ¬ (31 : Nat) = 0 by omega, if_false] at c31
    clear hW hW2 hW3 h hqd hrd hq
    go_enter Tryz.func39, Tryz.ntmps39
    go_wp2_with fail
    refine bodyPost_ret (results_tmp2 rfl _ _ _) rfl ⟨?_, hb⟩
    rw [HV.out]; rfl
  · have HV : Hid (clampV s = (⟨#[]⟩, false)) := Lib.hid (by unfold clampV; rw [if_neg h])
    have hc : ((s.size : Int) != 32) = true := by rw [bne_iff_ne]; omega
    clear h
    go_enter Tryz.func39, Tryz.ntmps39
    go_wp2_with fail
    refine bodyPost_ret (results_tmp2 rfl _ _ _) rfl ⟨?_, Below.refl _ _⟩
    rw [HV.out]; rfl
end Go.Proofs.YtggalphgnloneaaGreat.L4
/- Lists of numbers that carry: what MulAdd wants; Bit of any number. -/
namespace Go.Proofs.YtggalphgnloneaaGreat.L4
open Go.RowKit
theorem bv_add (o : Nat → Nat) (j x : Nat) : ∀ n, j < n → bv (fun i => if i = j then o i + x else o i) n = bv o n + x * 2 ^ (8 * j)
  | 0, h => by omega
  | n + 1, h => by
    show bv _ n + (if n = j then o n + x else o n) * 2 ^ (8 * n) = bv o n + o n * 2 ^ (8 * n) + x * 2 ^ (8 * j)
    by_cases hn : n = j
    · subst hn
      rw [if_pos rfl, bv_congr (f := fun i => if i = n then o i + x else o i) (g := o) n (fun i hi => by rw [if_neg (by omega)]), Nat.add_mul]
      omega
    · rw [if_neg hn, bv_add o j x n (by omega)]
      omega
/-- The carry into place k. -/
def cK (o : Nat → Nat) (k : Nat) : Nat := bv o k / 2 ^ (8 * k)
theorem cK_zero (o : Nat → Nat) : cK o 0 = 0 := by unfold cK; show 0 / _ = 0; rw [Nat.zero_div]
theorem cK_sum (o : Nat → Nat) (k : Nat) : bv o (k + 1) / 2 ^ (8 * k) = o k + cK o k := by
  unfold cK
  show (bv o k + o k * 2 ^ (8 * k)) / 2 ^ (8 * k) = _
  rw [Nat.add_mul_div_right _ _ (Nat.pow_pos (by decide)), Nat.add_comm]
theorem cK_next (o : Nat → Nat) (k : Nat) : (o k + cK o k) / 256 = cK o (k + 1) := by
  rw [← cK_sum, Nat.div_div_eq_div_mul, ← pow8]; rfl
theorem bv_high (o : Nat → Nat) (k : Nat) : ∀ n, k ≤ n → ∃ h, bv o n = bv o k + h * 2 ^ (8 * k)
  | 0, hn => ⟨0, by rw [show k = 0 by omega, Nat.zero_mul, Nat.add_zero]⟩
  | n + 1, hn => by
    by_cases he : k = n + 1
    · subst he; exact ⟨0, by rw [Nat.zero_mul]; rfl⟩
    · obtain ⟨h, e⟩ := bv_high o k n (by omega)
      obtain ⟨d, rfl⟩ : ∃ d, n = k + d := ⟨n - k, by omega⟩
      refine ⟨h + o (k + d) * 2 ^ (8 * d), ?_⟩
      show bv o (k + d) + o (k + d) * 2 ^ (8 * (k + d)) = _
      rw [e, Nat.mul_add 8, Nat.pow_add, Nat.add_mul h, Nat.mul_assoc (o (k + d)), Nat.mul_comm (2 ^ (8 * d))]
      omega
theorem cK_byte (o : Nat → Nat) (k n : Nat) (h : k < n) : (o k + cK o k) % 256 = byteK (bv o n) k := by
  obtain ⟨d, e⟩ := bv_high o (k + 1) n h
  unfold byteK
  rw [← cK_sum, e, pow8, show d * (2 ^ (8 * k) * 256) = d * 256 * 2 ^ (8 * k) by rw [Nat.mul_comm (2 ^ (8 * k)), Nat.mul_assoc], Nat.add_mul_div_right _ _ (Nat.pow_pos (by decide)), Nat.add_mul_mod_self_right]
theorem cK_le (o : Nat → Nat) (m : Nat) (ho : ∀ j, o j ≤ m) : ∀ k, cK o k ≤ m
  | 0 => by rw [cK_zero]; omega
  | k + 1 => by
    have h := cK_le o m ho k
    have h1 := ho k
    rw [← cK_next]; omega
end Go.Proofs.YtggalphgnloneaaGreat.L4
/- MulAdd of the document's answer. -/
namespace Go.Proofs.YtggalphgnloneaaGreat.L4
open Go.RowKit
def oV (o : Nat → Nat) (j : Nat) : Value := .int .i64 (o j : Int)
def addO (o : Nat → Nat) (d x : Nat) (j : Nat) : Nat := if j = d then o j + x else o j
/-- Within MulAdd: the list of sums. -/
structure MaW (o : Nat → Nat) (g : Nat) (w wr : World) : Prop where
  r : Blk wr g 3 (row 64 (oV o))
  b : Below w.heap.size w wr
  ge : w.heap.size ≤ g
theorem MaW.drew {o : Nat → Nat} {g : Nat} {w wr : World} (h : MaW o g w wr) : MaW o g w wr.drew := ⟨h.r, h.b.drew, h.ge⟩
theorem MaW.at_ {o : Nat → Nat} {g : Nat} {w wr : World} (h : MaW o g w wr) {j : Nat} (hj : j < 64) : wr.cell? ⟨g, j, none⟩ = some (.int .i64 (o j : Int)) := h.r.at_ hj
theorem MaW.add {o : Nat → Nat} {g : Nat} {w wr : World} (h : MaW o g w wr) {d : Nat} (hd : d < 64) (x : Nat) : MaW (addO o d x) g w (wr.setCell ⟨g, d, none⟩ (.int .i64 ((o d + x : Nat) : Int))) :=
  ⟨(h.r.put hd _).cast_ (row_ext fun j _ => by
    unfold oV addO
    by_cases h1 : j = d
    · subst h1; rw [if_pos rfl, if_pos rfl]
    · rw [if_neg h1, if_neg h1]), h.b.setCell h.ge _, h.ge⟩
theorem addO_bv (o : Nat → Nat) {d : Nat} (hd : d < 64) (x : Nat) : bv (addO o d x) 64 = bv o 64 + x * 2 ^ (8 * d) := bv_add o d x 64 hd
theorem addO_le {o : Nat → Nat} {m x d : Nat} (h : ∀ j, o j ≤ m) (j : Nat) : addO o d x j ≤ m + x := by
  unfold addO; have := h j; split <;> omega
theorem bv_none (n : Nat) : bv (fun _ => 0) n = 0 := by
  induction n with
  | zero => rfl
  | succ n ih => show bv _ n + 0 * _ = 0; rw [ih, Nat.zero_mul]
theorem zero64 : row 64 (oV fun _ => 0) = row 64 (fun _ => Value.int .i64 0) := rfl
theorem mul_next (S x B y k i : Nat) (h : S = B + x * y * 2 ^ (8 * i)) (z : Nat) : S + x * z * 2 ^ (8 * (i + k)) = B + x * (y + z * 2 ^ (8 * k)) * 2 ^ (8 * i) := by
  have e : x * z * 2 ^ (8 * (i + k)) = x * (z * 2 ^ (8 * k)) * 2 ^ (8 * i) := by
    rw [Nat.mul_add 8, Nat.pow_add, Nat.mul_comm (2 ^ (8 * i)), ← Nat.mul_assoc, Nat.mul_assoc x z]
  rw [h, e, Nat.mul_add, Nat.add_mul]; omega
theorem mul_row (A x B i : Nat) : A * B + x * B * 2 ^ (8 * i) = (A + x * 2 ^ (8 * i)) * B := by
  rw [Nat.add_mul, Nat.mul_assoc x, Nat.mul_comm B, ← Nat.mul_assoc]
/-- 64 bytes of a number as a text. -/
def t64 (V : Nat) : ByteArray := ⟨(asBytes ((List.range 64).map (bF V 64))).toArray⟩
theorem t64_size (V : Nat) : (t64 V).size = 64 := by
  show (asBytes _).toArray.size = 64
  simp [asBytes]
theorem t64_byte (V j : Nat) (hj : j < 64) : byteS (t64 V) j = byteK V j := by
  unfold byteS
  rw [dif_pos (by rw [t64_size]; exact hj)]
  show ((t64 V).data[j]'_).toNat = _
  simp only [t64, asBytes, List.getElem_toArray, List.getElem_map, List.getElem_range]
  show (bF V 64 j).toNat = _
  unfold bF
  rw [if_pos hj, BitVec.toNat_ofNat]
  exact Nat.mod_eq_of_lt (byteK_lt _ _)
theorem bv_twice (V i : Nat) (h : V < 2 ^ (8 * i) * 2 ^ (8 * i)) : bv (byteK V) (i + i) = V := by
  rw [bv_bytes, Nat.mul_add, Nat.pow_add, Nat.mod_eq_of_lt h]
/-- MulAdd: P4.1. -/
def maV (a b c : ByteArray) : ByteArray := bytesV ((numV a 32 * numV b 32 + numV c 32) % qL)
theorem numV_lt (s : ByteArray) : numV s 32 < 2 ^ (8 * 32) :=
  Nat.lt_of_lt_of_le (bv_lt _ (byteS_lt s) _) (Nat.pow_le_pow_right (by decide) (by omega))
theorem sum_lt {A B C M : Nat} (hA : A < M) (hB : B < M) (hC : C < M) : A * B + C < M * M := by
  have h1 := Nat.mul_le_mul_left A (Nat.le_of_lt hB)
  have h2 := Nat.mul_le_mul_right M (show A + 1 ≤ M from hA)
  rw [Nat.succ_mul] at h2
  omega
theorem red_t64 {V : Nat} (h : V < 2 ^ (8 * 32) * 2 ^ (8 * 32)) : redV (t64 V) = bytesV (V % qL) := by
  unfold redV numV
  rw [t64_size, show min 64 64 = 32 + 32 by rfl, bv_congr (32 + 32) (fun j hj => t64_byte V j hj), bv_twice V 32 h]
/-- Within MulAdd's end: the sums, the bytes so far. -/
structure MbW (o : Nat → Nat) (V k gb g : Nat) (w wr : World) : Prop where
  d : MaW o g w wr
  o : Blk wr gb 5 (r8 64 (bF V k))
  lt : g < gb
theorem MbW.put {o : Nat → Nat} {V k gb g : Nat} {w wr : World} (h : MbW o V k gb g w wr) (hk : k < 64) : MbW o V (k + 1) gb g w (wr.setCell ⟨gb, k, none⟩ (.int .u8 (byteK V k : Int))) := by
  have l1 := h.d.ge
  have l2 := h.lt
  exact ⟨⟨h.d.r.far (show g ≠ gb by omega) _, h.d.b.setCell (show w.heap.size ≤ gb by omega) _, l1⟩, (h.o.put hk _).cast_ (row_ext fun j _ => by rw [byte_iw]; exact bF_put _ _ _), l2⟩
set_option maxRecDepth 100000 in
set_option maxHeartbeats 8000000 in
theorem rmuladd_any (a b c : ByteArray) (w : World) :
    Calls Tryz.prog 22 #[.string a, .string b, .string c] w fun e w' => e = .returned (.string (maV a b c)) ∧ Below w.heap.size w w' := by
  obtain ⟨na, hna⟩ : ∃ n, n = min a.size 32 := ⟨_, rfl⟩
  have hMa : Hid (na = min a.size 32) := Lib.hid hna
  have h1a : (na : Int) ≤ a.size := by omega
  have h2a : na ≤ 32 := by omega
  have hsa : (a.extract 0 na).size = na := by rw [ByteArray.size_extract]; omega
  have hEa : bv (byteS (a.extract 0 na)) na = numV a 32 := by
    rw [bv_congr na (fun j hj => byteS_extract a na j (by omega) hj)]; unfold numV; rw [← hna]
  generalize hTa : a.extract 0 na = ta at hsa hEa
  have EA := Lib.hid hEa
  clear hEa
  have HA := Lib.hid hTa
  clear hTa hna
  obtain ⟨nb, hnb⟩ : ∃ n, n = min b.size 32 := ⟨_, rfl⟩
  have hMb : Hid (nb = min b.size 32) := Lib.hid hnb
  have h1b : (nb : Int) ≤ b.size := by omega
  have h2b : nb ≤ 32 := by omega
  have hsb : (b.extract 0 nb).size = nb := by rw [ByteArray.size_extract]; omega
  have hEb : bv (byteS (b.extract 0 nb)) nb = numV b 32 := by
    rw [bv_congr nb (fun j hj => byteS_extract b nb j (by omega) hj)]; unfold numV; rw [← hnb]
  generalize hTb : b.extract 0 nb = tb at hsb hEb
  have EB := Lib.hid hEb
  clear hEb
  have HB := Lib.hid hTb
  clear hTb hnb
  obtain ⟨nc, hnc⟩ : ∃ n, n = min c.size 32 := ⟨_, rfl⟩
  have hMc : Hid (nc = min c.size 32) := Lib.hid hnc
  have h1c : (nc : Int) ≤ c.size := by omega
  have h2c : nc ≤ 32 := by omega
  have hsc : (c.extract 0 nc).size = nc := by rw [ByteArray.size_extract]; omega
  have hEc : bv (byteS (c.extract 0 nc)) nc = numV c 32 := by
    rw [bv_congr nc (fun j hj => byteS_extract c nc j (by omega) hj)]; unfold numV; rw [← hnc]
  generalize hTc : c.extract 0 nc = tc at hsc hEc
  have EC := Lib.hid hEc
  clear hEc
  have HC := Lib.hid hTc
  clear hTc hnc
  have hmk : ∀ w, (Instr.makeSlice 58 (.int .i64 64) (.int .i64 64)).run Tryz.prog w = .ok (.slice (some ⟨w.heap.size, 0, none⟩) 64 64) (w.alloc (.cells (row 64 (oV fun _ => 0)) 3)) := fun w => by rw [zero64]; kernel_rfl
  have hmk2 : ∀ w V, (Instr.makeSlice 29 (.int .i64 64) (.int .i64 64)).run Tryz.prog w = .ok (.slice (some ⟨w.heap.size, 0, none⟩) 64 64) (w.alloc (.cells (r8 64 (bF V 0)) 5)) := fun w V => by
    rw [show r8 64 (bF V 0) = row 64 (fun _ => Value.int .u8 0) from row_ext fun i _ => by unfold bF; rw [if_neg (by omega), iw_zero]]; kernel_rfl
  have HK2 := Lib.hid hmk2
  clear hmk2
  have hd0 : MaW (fun _ => 0) w.heap.size w (w.alloc (.cells (row 64 (oV fun _ => 0)) 3)) := ⟨Blk.new w _ _, (Below.refl _ _).alloc (Nat.le_refl _) _, Nat.le_refl _⟩
  go_enter Tryz.func22, Tryz.ntmps22
  go_wp2_with (first
    | (refine wpList_valK (R := fun w' => w' = _) (.int .i64 (na : Int)) rfl (by rw [hMa.out]; exact lands_min (.tmp 17) a.size 32 rfl rfl rfl) ?_; intro w' hw'; rw [hw']; clear hw')
    | (refine wpList_valK (R := fun w' => w' = _) (.int .i64 (nb : Int)) rfl (by rw [hMb.out]; exact lands_min (.tmp 22) b.size 32 rfl rfl rfl) ?_; intro w' hw'; rw [hw']; clear hw')
    | (refine wpList_valK (R := fun w' => w' = _) (.int .i64 (nc : Int)) rfl (by rw [hMc.out]; exact lands_min (.tmp 27) c.size 32 rfl rfl rfl) ?_; intro w' hw'; rw [hw']; clear hw'))
  rw [HA.out, HB.out, HC.out]
  clear hmk HA HB HC hMa hMb hMc h1a h1b h1c
  generalize w.heap.size = g at hd0 ⊢
  go_loopw [8] (fun i wr => ∃ k : Nat, k ≤ na ∧ i = .int .i64 (k : Int) ∧ ∃ o : Nat → Nat, (∀ j, o j ≤ 65025 * (32 * k)) ∧ Hid (bv o 64 = bv (byteS ta) k * bv (byteS tb) nb) ∧ MaW o g w wr) (fun i _ => na - (intOf i).toNat)
  case atStart => exact ⟨0, by omega, rfl, _, fun j => by omega, Lib.hid (by rw [bv_none]; exact (Nat.zero_mul _).symm), hd0⟩
  case round =>
    obtain ⟨i, hi, rfl, o0, ho0, HO, hr⟩ := hrel
    clear hd0
    by_cases hlt : i < na
    · have hia : i < ta.size := by omega
      have HBA := Lib.hid (byteS_at ta i hia)
      have hbx := byteS_lt ta i
      go_wp2_with fail
      go_loopw [9] (fun kk wr => ∃ k : Nat, k ≤ nb ∧ kk = .int .i64 (k : Int) ∧ ∃ o : Nat → Nat, (∀ j, o j ≤ 65025 * (32 * i + k)) ∧ Hid (bv o 64 = bv (byteS ta) i * bv (byteS tb) nb + byteS ta i * bv (byteS tb) k * 2 ^ (8 * i)) ∧ MaW o g w wr) (fun kk _ => nb - (intOf kk).toNat)
      case atStart => exact ⟨0, by omega, rfl, o0, fun j => by have := ho0 j; omega, Lib.hid (by rw [HO.out]; show _ = _ + _ * 0 * _; rw [Nat.mul_zero, Nat.zero_mul, Nat.add_zero]), hr⟩
      case round =>
        obtain ⟨k, hk, rfl, o, ho, HO2, hr2⟩ := hrel
        clear hr HO ho0
        by_cases hlt2 : k < nb
        · have hkb : k < tb.size := by omega
          have HBB := Lib.hid (byteS_at tb k hkb)
          have hby := byteS_lt tb k
          obtain ⟨d, hd⟩ : ∃ d, d = i + k := ⟨_, rfl⟩
          have hd64 : d < 64 := by omega
          have hl0 : (d : Int) < 64 := by omega
          have hl1 : (0 : Int) ≤ d := by omega
          have hod := ho d
          have HN : Hid (bv (addO o d (byteS ta i * byteS tb k)) 64 = bv (byteS ta) i * bv (byteS tb) nb + byteS ta i * bv (byteS tb) (k + 1) * 2 ^ (8 * i)) := Lib.hid (by
            rw [addO_bv o hd64, hd]; exact mul_next _ _ _ _ _ _ HO2.out _)
          have HPUT : Hid (∀ wx m, MaW o g w wx → MaW (addO o d m) g w (wx.setCell ⟨g, d, none⟩ (.int .i64 ((o d + m : Nat) : Int)))) := Lib.hid (fun wx m hx => hx.add hd64 m)
          generalize byteS ta i = x at HBA hbx HN
          generalize byteS tb k = y at HBB hby HN
          have hm1 : x * y ≤ 65025 := Nat.le_trans (Nat.mul_le_mul (show x ≤ 255 by omega) (show y ≤ 255 by omega)) (by decide)
          obtain ⟨m, hm⟩ : ∃ m, m = x * y := ⟨_, rfl⟩
          rw [← hm] at HN hm1
          have hmi : (x : Int) * (y : Int) = (m : Int) := by rw [hm]; exact (Int.natCast_mul x y).symm
          have hdi : (i : Int) + (k : Int) = (d : Int) := by omega
          clear hm hd HO2
          have hbound : ∀ j, addO o d m j ≤ 65025 * (32 * i + (k + 1)) := fun j => by have := addO_le (x := m) (d := d) ho j; omega
          clear ho
          go_wp2_with fail
          refine wp_region_anyL (Two 21 1000 fun f1 _ wx => MaW (if f1 then addO o d m else o) g w wx) (by kernel_rfl) hr2.drew ?_
          refine anyL_take (i := 0) (v := ?_) rfl (by kernel_rfl) (by kernel_rfl) (by kernel_rfl) (yl_other (by decide) (by decide) rfl (fun f1 f2 wx hT => ?_)) ?_; rotate_left
          · refine lands_value (w := wx) ?_ hT; go_simp <;> rfl
          simp only [pu]
          refine anyL_take (i := 1) (v := ?_) rfl (by kernel_rfl) (by kernel_rfl) (by kernel_rfl) (yl_other (by decide) (by decide) rfl (fun f1 f2 wx hT => ?_)) ?_; rotate_left
          · refine lands_value (w := wx) ?_ hT; go_simp <;> rfl
          simp only [pu]
          refine anyL_take (i := 2) (v := ?_) rfl (by kernel_rfl) (by kernel_rfl) (by kernel_rfl) (yl_other (by decide) (by decide) rfl (fun f1 f2 wx hT => ?_)) ?_; rotate_left
          · refine lands_value (w := wx) ?_ hT; go_simp <;> rfl
          simp only [pu]
          refine anyL_take (i := 3) (v := .int .i64 (d : Int)) rfl (by kernel_rfl) (by kernel_rfl) (by kernel_rfl) (yl_other (by decide) (by decide) rfl (fun f1 f2 wx hT => ?_)) ?_
          · refine lands_value (w := wx) ?_ hT; go_simp <;> first | exact IntWalk.i64_in _ (by omega) | (rw [IntWalk.i64_in _ (by omega)]; omega) | (rw [IntWalk.i64_in _ (by omega)])
          simp only [pu]
          refine anyL_take (i := 4) (v := ?_) rfl (by kernel_rfl) (by kernel_rfl) (by kernel_rfl) (yl_other (by decide) (by decide) rfl (fun f1 f2 wx hT => ?_)) ?_; rotate_left
          · refine lands_value (w := wx) ?_ hT; go_simp <;> rfl
          simp only [pu]
          refine anyL_take (i := 5) (v := ?_) rfl (by kernel_rfl) (by kernel_rfl) (by kernel_rfl) (yl_other (by decide) (by decide) rfl (fun f1 f2 wx hT => ?_)) ?_; rotate_left
          · refine lands_value (w := wx) ?_ hT; go_simp <;> rfl
          simp only [pu]
          refine anyL_take (i := 6) (v := ?_) rfl (by kernel_rfl) (by kernel_rfl) (by kernel_rfl) (yl_other (by decide) (by decide) rfl (fun f1 f2 wx hT => ?_)) ?_; rotate_left
          · refine lands_value (w := wx) ?_ hT; go_simp <;> rfl
          simp only [pu]
          refine anyL_take (i := 7) (v := .int .i64 (d : Int)) rfl (by kernel_rfl) (by kernel_rfl) (by kernel_rfl) (yl_other (by decide) (by decide) rfl (fun f1 f2 wx hT => ?_)) ?_
          · refine lands_value (w := wx) ?_ hT; go_simp <;> first | exact IntWalk.i64_in _ (by omega) | (rw [IntWalk.i64_in _ (by omega)]; omega) | (rw [IntWalk.i64_in _ (by omega)])
          simp only [pu]
          refine anyL_take (i := 8) (v := ?_) rfl (by kernel_rfl) (by kernel_rfl) (by kernel_rfl) (yl_other (by decide) (by decide) rfl (fun f1 f2 wx hT => ?_)) ?_; rotate_left
          · refine lands_value (w := wx) ?_ hT; go_simp <;> rfl
          simp only [pu]
          refine anyL_take (i := 9) (v := .int .i64 (o d : Int)) rfl (by kernel_rfl) (by kernel_rfl) (by kernel_rfl) (yl_ahead (n := 12) (by decide) (by decide) (by kernel_rfl) rfl (fun f2 wx hT => ?_)) ?_
          · have c0 : wx.cell? ⟨g, d, none⟩ = some (Value.int .i64 (o d : Int)) := hT.at_ hd64; refine lands_value (w := wx) ?_ hT; go_simp
          simp only [pu]
          refine anyL_take (i := 10) (v := ?_) rfl (by kernel_rfl) (by kernel_rfl) (by kernel_rfl) (yl_other (by decide) (by decide) rfl (fun f1 f2 wx hT => ?_)) ?_; rotate_left
          · refine lands_value (w := wx) ?_ hT; go_simp <;> rfl
          simp only [pu]
          refine anyL_take (i := 11) (v := ?_) rfl (by kernel_rfl) (by kernel_rfl) (by kernel_rfl) (yl_other (by decide) (by decide) rfl (fun f1 f2 wx hT => ?_)) ?_; rotate_left
          · refine lands_value (w := wx) ?_ hT; go_simp <;> rfl
          simp only [pu]
          refine anyL_take (i := 12) (v := .int .u8 (x : Int)) rfl (by kernel_rfl) (by kernel_rfl) (by kernel_rfl) (yl_other (by decide) (by decide) rfl (fun f1 f2 wx hT => ?_)) ?_
          · refine lands_value (w := wx) ?_ hT; go_simp; rw [HBA.out]
          simp only [pu]
          refine anyL_take (i := 13) (v := .int .i64 (x : Int)) rfl (by kernel_rfl) (by kernel_rfl) (by kernel_rfl) (yl_other (by decide) (by decide) rfl (fun f1 f2 wx hT => ?_)) ?_
          · refine lands_value (w := wx) ?_ hT; go_simp <;> first | exact IntWalk.i64_in _ (by omega) | (rw [IntWalk.i64_in _ (by omega)]; omega) | (rw [IntWalk.i64_in _ (by omega)])
          simp only [pu]
          refine anyL_take (i := 14) (v := ?_) rfl (by kernel_rfl) (by kernel_rfl) (by kernel_rfl) (yl_other (by decide) (by decide) rfl (fun f1 f2 wx hT => ?_)) ?_; rotate_left
          · refine lands_value (w := wx) ?_ hT; go_simp <;> rfl
          simp only [pu]
          refine anyL_take (i := 15) (v := ?_) rfl (by kernel_rfl) (by kernel_rfl) (by kernel_rfl) (yl_other (by decide) (by decide) rfl (fun f1 f2 wx hT => ?_)) ?_; rotate_left
          · refine lands_value (w := wx) ?_ hT; go_simp <;> rfl
          simp only [pu]
          refine anyL_take (i := 16) (v := .int .u8 (y : Int)) rfl (by kernel_rfl) (by kernel_rfl) (by kernel_rfl) (yl_other (by decide) (by decide) rfl (fun f1 f2 wx hT => ?_)) ?_
          · refine lands_value (w := wx) ?_ hT; go_simp; rw [HBB.out]
          simp only [pu]
          refine anyL_take (i := 17) (v := .int .i64 (y : Int)) rfl (by kernel_rfl) (by kernel_rfl) (by kernel_rfl) (yl_other (by decide) (by decide) rfl (fun f1 f2 wx hT => ?_)) ?_
          · refine lands_value (w := wx) ?_ hT; go_simp <;> first | exact IntWalk.i64_in _ (by omega) | (rw [IntWalk.i64_in _ (by omega)]; omega) | (rw [IntWalk.i64_in _ (by omega)])
          simp only [pu]
          refine anyL_take (i := 18) (v := .int .i64 (m : Int)) rfl (by kernel_rfl) (by kernel_rfl) (by kernel_rfl) (yl_other (by decide) (by decide) rfl (fun f1 f2 wx hT => ?_)) ?_
          · refine lands_value (w := wx) ?_ hT; go_simp <;> first | exact IntWalk.i64_in _ (by omega) | (rw [IntWalk.i64_in _ (by omega)]; omega) | (rw [IntWalk.i64_in _ (by omega)])
          simp only [pu]
          refine anyL_take (i := 19) (v := .int .i64 ((o d + m : Nat) : Int)) rfl (by kernel_rfl) (by kernel_rfl) (by kernel_rfl) (yl_other (by decide) (by decide) rfl (fun f1 f2 wx hT => ?_)) ?_
          · refine lands_value (w := wx) ?_ hT; go_simp <;> first | exact IntWalk.i64_in _ (by omega) | (rw [IntWalk.i64_in _ (by omega)]; omega) | (rw [IntWalk.i64_in _ (by omega)])
          simp only [pu]
          refine anyL_take (i := 20) (v := ?_) rfl (by kernel_rfl) (by kernel_rfl) (by kernel_rfl) (yl_other (by decide) (by decide) rfl (fun f1 f2 wx hT => ?_)) ?_; rotate_left
          · refine lands_value (w := wx) ?_ hT; go_simp <;> rfl
          simp only [pu]
          refine anyL_take (i := 21) (v := undef) rfl (by kernel_rfl) (by kernel_rfl) (by kernel_rfl) (yl_first (by decide) rfl (fun f2 wx hT => ?_)) ?_
          · have c0 : wx.cell? ⟨g, d, none⟩ = some (Value.int .i64 (o d : Int)) := hT.at_ hd64; have fo := hT.r.frozen d; have K := HPUT.out _ m hT; go_simp; exact ⟨rfl, K⟩
          simp only [Act.put]
          refine anyL_done (by kernel_rfl) (fun w5 (K : MaW (addO o d m) g w w5) => ?_) _
          clear hr2 HPUT
          go_wp2_with fail
          go_roundw
          case rel => exact ⟨k + 1, by omega, by go_num, _, hbound, HN, K⟩
          case measure => simp [intOf]; omega
        · obtain rfl : k = nb := by omega
          have HN : Hid (bv o 64 = bv (byteS ta) (i + 1) * bv (byteS tb) k) := Lib.hid (by rw [HO2.out]; exact mul_row _ _ _ _)
          have hb2 : ∀ j, o j ≤ 65025 * (32 * (i + 1)) := fun j => by have := ho j; omega
          clear ho HO2
          go_wp2_with fail
          go_roundw
          case rel => exact ⟨i + 1, by omega, by go_num, _, hb2, HN, hr2⟩
          case measure => simp [intOf]; omega
    · obtain rfl : i = na := by omega
      have hob : ∀ j, o0 j ≤ 66585600 := fun j => by have := ho0 j; omega
      generalize hP : bv (byteS ta) i * bv (byteS tb) nb = P at HO
      have HP := Lib.hid hP
      clear hP ho0 hlt hi
      go_wp2_with fail
      go_loopw [10] (fun kk wr => ∃ k : Nat, k ≤ nc ∧ kk = .int .i64 (k : Int) ∧ ∃ o : Nat → Nat, (∀ j, o j ≤ 66585600 + 255 * k) ∧ Hid (bv o 64 = P + bv (byteS tc) k) ∧ MaW o g w wr) (fun kk _ => nc - (intOf kk).toNat)
      case atStart => exact ⟨0, by omega, rfl, o0, fun j => by have := hob j; omega, Lib.hid (by rw [HO.out]; rfl), hr⟩
      case round =>
        obtain ⟨k, hk, rfl, o, ho, HO2, hr2⟩ := hrel
        clear hr HO hob
        by_cases hlt2 : k < nc
        · have hkc : k < tc.size := by omega
          have HBC := Lib.hid (byteS_at tc k hkc)
          have hbz := byteS_lt tc k
          have hd64 : k < 64 := by omega
          have hl0 : (k : Int) < 64 := by omega
          have hl1 : (0 : Int) ≤ k := by omega
          have hod := ho k
          have HN : Hid (bv (addO o k (byteS tc k)) 64 = P + bv (byteS tc) (k + 1)) := Lib.hid (by
            rw [addO_bv o hd64, HO2.out, Nat.add_assoc]; rfl)
          have HPUT : Hid (∀ wx m, MaW o g w wx → MaW (addO o k m) g w (wx.setCell ⟨g, k, none⟩ (.int .i64 ((o k + m : Nat) : Int)))) := Lib.hid (fun wx m hx => hx.add hd64 m)
          generalize byteS tc k = z at HBC hbz HN
          have hbound : ∀ j, addO o k z j ≤ 66585600 + 255 * (k + 1) := fun j => by have := addO_le (x := z) (d := k) ho j; omega
          clear ho HO2
          go_wp2_with fail
          refine wp_region_anyL (Two 12 1000 fun f1 _ wx => MaW (if f1 then addO o k z else o) g w wx) (by kernel_rfl) hr2.drew ?_
          refine anyL_take (i := 0) (v := ?_) rfl (by kernel_rfl) (by kernel_rfl) (by kernel_rfl) (yl_other (by decide) (by decide) rfl (fun f1 f2 wx hT => ?_)) ?_; rotate_left
          · refine lands_value (w := wx) ?_ hT; go_simp <;> rfl
          simp only [pu]
          refine anyL_take (i := 1) (v := ?_) rfl (by kernel_rfl) (by kernel_rfl) (by kernel_rfl) (yl_other (by decide) (by decide) rfl (fun f1 f2 wx hT => ?_)) ?_; rotate_left
          · refine lands_value (w := wx) ?_ hT; go_simp <;> rfl
          simp only [pu]
          refine anyL_take (i := 2) (v := ?_) rfl (by kernel_rfl) (by kernel_rfl) (by kernel_rfl) (yl_other (by decide) (by decide) rfl (fun f1 f2 wx hT => ?_)) ?_; rotate_left
          · refine lands_value (w := wx) ?_ hT; go_simp <;> rfl
          simp only [pu]
          refine anyL_take (i := 3) (v := ?_) rfl (by kernel_rfl) (by kernel_rfl) (by kernel_rfl) (yl_other (by decide) (by decide) rfl (fun f1 f2 wx hT => ?_)) ?_; rotate_left
          · refine lands_value (w := wx) ?_ hT; go_simp <;> rfl
          simp only [pu]
          refine anyL_take (i := 4) (v := ?_) rfl (by kernel_rfl) (by kernel_rfl) (by kernel_rfl) (yl_other (by decide) (by decide) rfl (fun f1 f2 wx hT => ?_)) ?_; rotate_left
          · refine lands_value (w := wx) ?_ hT; go_simp <;> rfl
          simp only [pu]
          refine anyL_take (i := 5) (v := .int .i64 (o k : Int)) rfl (by kernel_rfl) (by kernel_rfl) (by kernel_rfl) (yl_ahead (n := 12) (by decide) (by decide) (by kernel_rfl) rfl (fun f2 wx hT => ?_)) ?_
          · have c0 : wx.cell? ⟨g, k, none⟩ = some (Value.int .i64 (o k : Int)) := hT.at_ hd64; refine lands_value (w := wx) ?_ hT; go_simp
          simp only [pu]
          refine anyL_take (i := 6) (v := ?_) rfl (by kernel_rfl) (by kernel_rfl) (by kernel_rfl) (yl_other (by decide) (by decide) rfl (fun f1 f2 wx hT => ?_)) ?_; rotate_left
          · refine lands_value (w := wx) ?_ hT; go_simp <;> rfl
          simp only [pu]
          refine anyL_take (i := 7) (v := ?_) rfl (by kernel_rfl) (by kernel_rfl) (by kernel_rfl) (yl_other (by decide) (by decide) rfl (fun f1 f2 wx hT => ?_)) ?_; rotate_left
          · refine lands_value (w := wx) ?_ hT; go_simp <;> rfl
          simp only [pu]
          refine anyL_take (i := 8) (v := .int .u8 (z : Int)) rfl (by kernel_rfl) (by kernel_rfl) (by kernel_rfl) (yl_other (by decide) (by decide) rfl (fun f1 f2 wx hT => ?_)) ?_
          · refine lands_value (w := wx) ?_ hT; go_simp; rw [HBC.out]
          simp only [pu]
          refine anyL_take (i := 9) (v := .int .i64 (z : Int)) rfl (by kernel_rfl) (by kernel_rfl) (by kernel_rfl) (yl_other (by decide) (by decide) rfl (fun f1 f2 wx hT => ?_)) ?_
          · refine lands_value (w := wx) ?_ hT; go_simp <;> first | exact IntWalk.i64_in _ (by omega) | (rw [IntWalk.i64_in _ (by omega)]; omega) | (rw [IntWalk.i64_in _ (by omega)])
          simp only [pu]
          refine anyL_take (i := 10) (v := .int .i64 ((o k + z : Nat) : Int)) rfl (by kernel_rfl) (by kernel_rfl) (by kernel_rfl) (yl_other (by decide) (by decide) rfl (fun f1 f2 wx hT => ?_)) ?_
          · refine lands_value (w := wx) ?_ hT; go_simp <;> first | exact IntWalk.i64_in _ (by omega) | (rw [IntWalk.i64_in _ (by omega)]; omega) | (rw [IntWalk.i64_in _ (by omega)])
          simp only [pu]
          refine anyL_take (i := 11) (v := ?_) rfl (by kernel_rfl) (by kernel_rfl) (by kernel_rfl) (yl_other (by decide) (by decide) rfl (fun f1 f2 wx hT => ?_)) ?_; rotate_left
          · refine lands_value (w := wx) ?_ hT; go_simp <;> rfl
          simp only [pu]
          refine anyL_take (i := 12) (v := undef) rfl (by kernel_rfl) (by kernel_rfl) (by kernel_rfl) (yl_first (by decide) rfl (fun f2 wx hT => ?_)) ?_
          · have c0 : wx.cell? ⟨g, k, none⟩ = some (Value.int .i64 (o k : Int)) := hT.at_ hd64; have fo := hT.r.frozen k; have K := HPUT.out _ z hT; go_simp; exact ⟨rfl, K⟩
          simp only [Act.put]
          refine anyL_done (by kernel_rfl) (fun w5 (K : MaW (addO o k z) g w w5) => ?_) _
          clear hr2 HPUT
          go_wp2_with fail
          go_roundw
          case rel => exact ⟨k + 1, by omega, by go_num, _, hbound, HN, K⟩
          case measure => simp [intOf]; omega
        · obtain rfl : k = nc := by omega
          have hob : ∀ j, o j ≤ 66593760 := fun j => by have := ho j; omega
          obtain ⟨V, hV⟩ : ∃ V, V = bv o 64 := ⟨_, rfl⟩
          have HVM : Hid (V = numV a 32 * numV b 32 + numV c 32) := Lib.hid (by rw [hV, HO2.out, ← HP.out, EA.out, EB.out, EC.out])
          have HV : Hid (∀ j, j < 64 → (o j + cK o j) % 256 = byteK V j) := Lib.hid (fun j hj => by rw [hV]; exact cK_byte o j 64 hj)
          have HRED : Hid (maV a b c = redV (t64 V)) := Lib.hid (by
            rw [red_t64 (by rw [HVM.out]; exact sum_lt (numV_lt _) (numV_lt _) (numV_lt _)), HVM.out]; rfl)
          have hmk := fun w => HK2.out w V
          have hy0 : MbW o V 0 wr.heap.size g w (wr.alloc (.cells (r8 64 (bF V 0)) 5)) := ⟨⟨hr2.r.alloc _, hr2.b.alloc hr2.b.size _, hr2.ge⟩, Blk.new wr _ _, hr2.r.lt⟩
          clear ho HO2 hV HVM HP hr2 hlt2 hk EA EB EC HK2
          go_wp2_with fail
          clear hmk
          generalize wr.heap.size = gb at hy0 ⊢
          go_loopw [11, 13] (fun cc i wr => ∃ k : Nat, k ≤ 64 ∧ i = .int .i64 (k : Int) ∧ cc = .int .i64 (cK o k : Int) ∧ MbW o V k gb g w wr) (fun _ i _ => 64 - (intOf i).toNat)
          case atStart => exact ⟨0, by omega, rfl, by rw [cK_zero]; rfl, hy0⟩
          case round =>
            obtain ⟨k, hk, rfl, rfl, hr⟩ := hrel
            clear hy0
            by_cases hlt3 : k < 64
            · have c0 : wr.cell? ⟨g, k, none⟩ = some (Value.int .i64 (o k : Int)) := hr.d.at_ hlt3
              have c1 := hr.o.at_ hlt3
              have fz := hr.o.frozen k
              have hx1 := hob k
              have hx2 := cK_le o 66593760 hob k
              have hx3 := cK_le o 66593760 hob (k + 1)
              obtain ⟨x, hx⟩ : ∃ x, x = o k + cK o k := ⟨_, rfl⟩
              have hsum : (o k : Int) + (cK o k : Int) = (x : Int) := by omega
              have hxb : x < 200000000 := by omega
              have hu : IntKind.u8.wrap (x : Int) = (byteK V k : Int) := by
                rw [IntKind.wrap_u8, ← HV.out k hlt3, ← hx]; omega
              have hdv : (x : Int).tdiv 256 = (cK o (k + 1) : Int) := by
                rw [Int.tdiv_eq_ediv_of_nonneg (by omega), ← cK_next, ← hx]; omega
              have hbk := byteK_lt V k
              have HPUT : Hid (∀ wx, MbW o V k gb g w wx → MbW o V (k + 1) gb g w (wx.setCell ⟨gb, k, none⟩ (.int .u8 (byteK V k : Int)))) := Lib.hid (fun wx hx => hx.put hlt3)
              generalize byteK V k = bk at hu hbk HPUT
              clear hx
              go_wp2_with fail
              go_roundw
              case rel => exact ⟨k + 1, by omega, by go_num, rfl, HPUT.out _ hr⟩
              case measure => simp [intOf]; omega
            · obtain rfl : k = 64 := by omega
              have hcv : (convert 29 9 (.slice (some ⟨gb, 0, none⟩) 64 64)).run Tryz.prog wr = .ok (.string (t64 V)) wr := run_string_of_blk wr _ _ 5 Tryz.underlying29 Tryz.underlying5 Tryz.underlying9 _ _ _ _ _ hr.o
              have hb := hr.d.b
              have CR := Lib.hid (fun w => rreduce_any (t64 V) w)
              generalize redV (t64 V) = OUT at CR HRED
              generalize t64 V = TT at hcv CR
              clear hr HV hob
              go_wp2_with fail
              refine (CR.out _).mono ?_
              rintro e w9 ⟨rfl, hq⟩
              go_wp2_with fail
              go_ret
              exact ⟨by rw [HRED.out]; rfl, hb.trans (hq.mono hb.size)⟩
end Go.Proofs.YtggalphgnloneaaGreat.L4
