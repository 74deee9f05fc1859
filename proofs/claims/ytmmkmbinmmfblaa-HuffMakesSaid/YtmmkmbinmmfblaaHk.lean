/- The reference's least of chapter 9. -/
import Derived.Test.YtmmkmbinmmfblaaMC
import Derived.Test.YtmmkmbinmmfblaaMB
import Derived.Test.YtmmkmbinmmfblaaMA
namespace Go.Proofs.Ytmmkmbinmmfblaa
open Go.RowKit
/-- Nodes in a block: weight, number, symbols (a slice). -/
structure NB (g n : Nat) (K : Nat → Kd) (S : Nat → Value) (w : World) : Prop where
  c0 : ∀ i, i < n → w.cell? ⟨g, i * 3, none⟩ = some (.int .i64 ((K i).1 : Int))
  c1 : ∀ i, i < n → w.cell? ⟨g, i * 3 + 1, none⟩ = some (.int .i64 ((K i).2 : Int))
  c2 : ∀ i, i < n → w.cell? ⟨g, i * 3 + 2, none⟩ = some (S i)
  lt : g < w.heap.size
theorem NB.below {g n : Nat} {K : Nat → Kd} {S : Nat → Value} {w w' : World} (h : NB g n K S w) (hb : Below w.heap.size w w') : NB g n K S w' :=
  ⟨fun i hi => (hb.cell (p := ⟨g, i * 3, none⟩) h.lt).trans (h.c0 i hi), fun i hi => (hb.cell (p := ⟨g, i * 3 + 1, none⟩) h.lt).trans (h.c1 i hi), fun i hi => (hb.cell (p := ⟨g, i * 3 + 2, none⟩) h.lt).trans (h.c2 i hi), Nat.lt_of_lt_of_le h.lt hb.size⟩
/-- The least one of the first m. -/
def lsI (K : Nat → Kd) : Nat → Nat
  | 0 => 0
  | m + 1 => if klt (K m) (K (lsI K m)) then m else lsI K m
theorem lsI_lt (K : Nat → Kd) {m : Nat} (h : 0 < m) : lsI K m < m := by
  induction m with
  | zero => omega
  | succ m ih =>
    unfold lsI
    split
    · omega
    · rcases Nat.eq_zero_or_pos m with rfl | h0
      · exact Nat.one_pos
      · have := ih h0; omega
set_option maxRecDepth 100000 in
set_option maxHeartbeats 8000000 in
theorem rleast9_any (g n cap : Nat) (K : Nat → Kd) (S : Nat → Value) (w : World) (h : NB g n K S w) (hn : n ≤ 1000) (h1 : 1 ≤ n) :
    Calls Try.prog 37 #[.slice (some ⟨g, 0, none⟩) n cap] w fun e w' => e = .returned (.int .i64 (lsI K n : Int)) ∧ Below w.heap.size w w' := by
  go_enter Try.func37, Try.ntmps37
  go_wp2_with fail
  go_loopw [3, 4] (fun a i wr => ∃ m : Nat, 1 ≤ m ∧ m ≤ n ∧ i = .int .i64 (m : Int) ∧ a = .int .i64 (lsI K m : Int) ∧ Below w.heap.size w wr) (fun _ i _ => n - (intOf i).toNat)
  case atStart => exact ⟨1, Nat.le_refl _, h1, rfl, by show _ = Value.int .i64 (((if klt (K 0) (K 0) then 0 else 0 : Nat)) : Int); rw [if_neg (klt_irrefl _)]; rfl, Below.refl _ _⟩
  case round =>
    obtain ⟨m, hm1, hm, rfl, rfl, hr⟩ := hrel
    have hl := lsI_lt K (show 0 < m by omega)
    by_cases hlt : m < n
    · have hb := h.below hr
      have HN : Hid (lsI K (m + 1) = if klt (K m) (K (lsI K m)) then m else lsI K m) := Lib.hid rfl
      obtain ⟨q, hq⟩ : ∃ q, q = lsI K m := ⟨_, rfl⟩
      rw [← hq] at hl HN ⊢
      have hqn : q < n := by omega
      clear hq
      by_cases hlt1 : (K m).1 < (K q).1
      · have hi1 : ((K m).1 : Int) < ((K q).1 : Int) := by omega
        have HR : Hid (lsI K (m + 1) = m) := Lib.hid (by rw [HN.out, if_pos (.inl hlt1)])
        go_wp2_with fail
        refine wp_region_anyL (Two 1000 1001 fun _ _ wx => Below w.heap.size w wx) (by kernel_rfl) hr.drew ?_
        refine anyL_take (i := 0) (v := ?_) rfl (by kernel_rfl) (by kernel_rfl) (by kernel_rfl) (yl_other (by decide) (by decide) rfl (fun f1 f2 wx hT => ?_)) ?_; rotate_left
        · refine lands_value (w := wx) ?_ hT; go_simp <;> rfl
        simp only [pu]
        refine anyL_take (i := 1) (v := ?_) rfl (by kernel_rfl) (by kernel_rfl) (by kernel_rfl) (yl_other (by decide) (by decide) rfl (fun f1 f2 wx hT => ?_)) ?_; rotate_left
        · refine lands_value (w := wx) ?_ hT; go_simp <;> rfl
        simp only [pu]
        refine anyL_take (i := 2) (v := .pointer (some ⟨g, m * 3, none⟩)) rfl (by kernel_rfl) (by kernel_rfl) (by kernel_rfl) (yl_other (by decide) (by decide) rfl (fun f1 f2 wx hT => ?_)) ?_
        · refine lands_value (w := wx) ?_ hT; go_simp; try rfl
        simp only [pu]
        refine anyL_take (i := 3) (v := .pointer (some ⟨g, m * 3, none⟩)) rfl (by kernel_rfl) (by kernel_rfl) (by kernel_rfl) (yl_other (by decide) (by decide) rfl (fun f1 f2 wx hT => ?_)) ?_
        · refine lands_value (w := wx) ?_ hT; go_simp; try rfl
        simp only [pu]
        refine anyL_take (i := 4) (v := .int .i64 ((K m).1 : Int)) rfl (by kernel_rfl) (by kernel_rfl) (by kernel_rfl) (yl_other (by decide) (by decide) rfl (fun f1 f2 wx hT => ?_)) ?_
        · refine lands_value (w := wx) ?_ hT; have k := (h.below hT).c0 m hlt; go_simp
        simp only [pu]
        refine anyL_take (i := 5) (v := ?_) rfl (by kernel_rfl) (by kernel_rfl) (by kernel_rfl) (yl_other (by decide) (by decide) rfl (fun f1 f2 wx hT => ?_)) ?_; rotate_left
        · refine lands_value (w := wx) ?_ hT; go_simp <;> rfl
        simp only [pu]
        refine anyL_take (i := 6) (v := ?_) rfl (by kernel_rfl) (by kernel_rfl) (by kernel_rfl) (yl_other (by decide) (by decide) rfl (fun f1 f2 wx hT => ?_)) ?_; rotate_left
        · refine lands_value (w := wx) ?_ hT; go_simp <;> rfl
        simp only [pu]
        refine anyL_take (i := 7) (v := .pointer (some ⟨g, q * 3, none⟩)) rfl (by kernel_rfl) (by kernel_rfl) (by kernel_rfl) (yl_other (by decide) (by decide) rfl (fun f1 f2 wx hT => ?_)) ?_
        · refine lands_value (w := wx) ?_ hT; go_simp; try rfl
        simp only [pu]
        refine anyL_take (i := 8) (v := .pointer (some ⟨g, q * 3, none⟩)) rfl (by kernel_rfl) (by kernel_rfl) (by kernel_rfl) (yl_other (by decide) (by decide) rfl (fun f1 f2 wx hT => ?_)) ?_
        · refine lands_value (w := wx) ?_ hT; go_simp; try rfl
        simp only [pu]
        refine anyL_take (i := 9) (v := .int .i64 ((K q).1 : Int)) rfl (by kernel_rfl) (by kernel_rfl) (by kernel_rfl) (yl_other (by decide) (by decide) rfl (fun f1 f2 wx hT => ?_)) ?_
        · refine lands_value (w := wx) ?_ hT; have k := (h.below hT).c0 q hqn; go_simp
        simp only [pu]
        refine anyL_take (i := 10) (v := .bool true) rfl (by kernel_rfl) (by kernel_rfl) (by kernel_rfl) (yl_other (by decide) (by decide) rfl (fun f1 f2 wx hT => ?_)) ?_
        · refine lands_value (w := wx) ?_ hT; go_simp; try rfl
        simp only [pu]
        refine anyL_take (i := 11) (v := .bool true) rfl (by kernel_rfl) (by kernel_rfl) (by kernel_rfl) (yl_other (by decide) (by decide) rfl (fun f1 f2 wx hT => ?_)) ?_
        · refine lands_value (w := wx) ?_ hT; go_simp; try rfl
        simp only [pu]
        refine anyL_take (i := 12) rfl (by kernel_rfl) (by kernel_rfl) (by kernel_rfl) (yl_skip (by decide) (by decide) rfl) ?_
        simp only [pu]
        refine anyL_take (i := 13) rfl (by kernel_rfl) (by kernel_rfl) (by kernel_rfl) (yl_skip (by decide) (by decide) rfl) ?_
        simp only [pu]
        refine anyL_take (i := 14) rfl (by kernel_rfl) (by kernel_rfl) (by kernel_rfl) (yl_skip (by decide) (by decide) rfl) ?_
        simp only [pu]
        refine anyL_take (i := 15) rfl (by kernel_rfl) (by kernel_rfl) (by kernel_rfl) (yl_skip (by decide) (by decide) rfl) ?_
        simp only [pu]
        refine anyL_take (i := 16) rfl (by kernel_rfl) (by kernel_rfl) (by kernel_rfl) (yl_skip (by decide) (by decide) rfl) ?_
        simp only [pu]
        refine anyL_take (i := 17) rfl (by kernel_rfl) (by kernel_rfl) (by kernel_rfl) (yl_skip (by decide) (by decide) rfl) ?_
        simp only [pu]
        refine anyL_take (i := 18) rfl (by kernel_rfl) (by kernel_rfl) (by kernel_rfl) (yl_skip (by decide) (by decide) rfl) ?_
        simp only [pu]
        refine anyL_take (i := 19) rfl (by kernel_rfl) (by kernel_rfl) (by kernel_rfl) (yl_skip (by decide) (by decide) rfl) ?_
        simp only [pu]
        refine anyL_take (i := 20) rfl (by kernel_rfl) (by kernel_rfl) (by kernel_rfl) (yl_skip (by decide) (by decide) rfl) ?_
        simp only [pu]
        refine anyL_take (i := 21) rfl (by kernel_rfl) (by kernel_rfl) (by kernel_rfl) (yl_skip (by decide) (by decide) rfl) ?_
        simp only [pu]
        refine anyL_take (i := 22) rfl (by kernel_rfl) (by kernel_rfl) (by kernel_rfl) (yl_skip (by decide) (by decide) rfl) ?_
        simp only [pu]
        refine anyL_take (i := 23) rfl (by kernel_rfl) (by kernel_rfl) (by kernel_rfl) (yl_skip (by decide) (by decide) rfl) ?_
        simp only [pu]
        refine anyL_take (i := 24) rfl (by kernel_rfl) (by kernel_rfl) (by kernel_rfl) (yl_skip (by decide) (by decide) rfl) ?_
        simp only [pu]
        refine anyL_take (i := 25) rfl (by kernel_rfl) (by kernel_rfl) (by kernel_rfl) (yl_skip (by decide) (by decide) rfl) ?_
        simp only [pu]
        refine anyL_take (i := 26) rfl (by kernel_rfl) (by kernel_rfl) (by kernel_rfl) (yl_skip (by decide) (by decide) rfl) ?_
        simp only [pu]
        refine anyL_take (i := 27) rfl (by kernel_rfl) (by kernel_rfl) (by kernel_rfl) (yl_skip (by decide) (by decide) rfl) ?_
        simp only [pu]
        refine anyL_take (i := 28) rfl (by kernel_rfl) (by kernel_rfl) (by kernel_rfl) (yl_skip (by decide) (by decide) rfl) ?_
        simp only [pu]
        refine anyL_take (i := 29) rfl (by kernel_rfl) (by kernel_rfl) (by kernel_rfl) (yl_skip (by decide) (by decide) rfl) ?_
        simp only [pu]
        refine anyL_take (i := 30) rfl (by kernel_rfl) (by kernel_rfl) (by kernel_rfl) (yl_skip (by decide) (by decide) rfl) ?_
        simp only [pu]
        refine anyL_take (i := 31) rfl (by kernel_rfl) (by kernel_rfl) (by kernel_rfl) (yl_skip (by decide) (by decide) rfl) ?_
        simp only [pu]
        refine anyL_take (i := 32) rfl (by kernel_rfl) (by kernel_rfl) (by kernel_rfl) (yl_skip (by decide) (by decide) rfl) ?_
        simp only [pu]
        refine anyL_take (i := 33) rfl (by kernel_rfl) (by kernel_rfl) (by kernel_rfl) (yl_skip (by decide) (by decide) rfl) ?_
        simp only [pu]
        refine anyL_take (i := 34) rfl (by kernel_rfl) (by kernel_rfl) (by kernel_rfl) (yl_skip (by decide) (by decide) rfl) ?_
        simp only [pu]
        refine anyL_take (i := 35) rfl (by kernel_rfl) (by kernel_rfl) (by kernel_rfl) (yl_skip (by decide) (by decide) rfl) ?_
        simp only [pu]
        refine anyL_take (i := 36) (v := .bool true) rfl (by kernel_rfl) (by kernel_rfl) (by kernel_rfl) (yl_other (by decide) (by decide) rfl (fun f1 f2 wx hT => ?_)) ?_
        · refine lands_value (w := wx) ?_ hT; go_simp; try rfl
        simp only [pu]
        refine anyL_done (by kernel_rfl) (fun w3 (hr3 : Below w.heap.size w w3) => ?_) _
        clear hr hb HN
        go_wp2_with fail
        go_roundw
        case rel => exact ⟨m + 1, by omega, by omega, by go_num, by rw [HR.out], hr3⟩
        case measure => simp [intOf]; omega
      · by_cases heq1 : (K m).1 = (K q).1
        · by_cases hlt2 : (K m).2 < (K q).2
          · have hi1 : ¬ ((K m).1 : Int) < ((K q).1 : Int) := by omega
            have hi2 : ((K m).1 : Int) = ((K q).1 : Int) := by omega
            have hi3 : ((K m).2 : Int) < ((K q).2 : Int) := by omega
            have HR : Hid (lsI K (m + 1) = m) := Lib.hid (by rw [HN.out, if_pos (.inr ⟨heq1, hlt2⟩)])
            go_wp2_with fail
            refine wp_region_anyL (Two 1000 1001 fun _ _ wx => Below w.heap.size w wx) (by kernel_rfl) hr.drew ?_
            refine anyL_take (i := 0) (v := ?_) rfl (by kernel_rfl) (by kernel_rfl) (by kernel_rfl) (yl_other (by decide) (by decide) rfl (fun f1 f2 wx hT => ?_)) ?_; rotate_left
            · refine lands_value (w := wx) ?_ hT; go_simp <;> rfl
            simp only [pu]
            refine anyL_take (i := 1) (v := ?_) rfl (by kernel_rfl) (by kernel_rfl) (by kernel_rfl) (yl_other (by decide) (by decide) rfl (fun f1 f2 wx hT => ?_)) ?_; rotate_left
            · refine lands_value (w := wx) ?_ hT; go_simp <;> rfl
            simp only [pu]
            refine anyL_take (i := 2) (v := .pointer (some ⟨g, m * 3, none⟩)) rfl (by kernel_rfl) (by kernel_rfl) (by kernel_rfl) (yl_other (by decide) (by decide) rfl (fun f1 f2 wx hT => ?_)) ?_
            · refine lands_value (w := wx) ?_ hT; go_simp; try rfl
            simp only [pu]
            refine anyL_take (i := 3) (v := .pointer (some ⟨g, m * 3, none⟩)) rfl (by kernel_rfl) (by kernel_rfl) (by kernel_rfl) (yl_other (by decide) (by decide) rfl (fun f1 f2 wx hT => ?_)) ?_
            · refine lands_value (w := wx) ?_ hT; go_simp; try rfl
            simp only [pu]
            refine anyL_take (i := 4) (v := .int .i64 ((K m).1 : Int)) rfl (by kernel_rfl) (by kernel_rfl) (by kernel_rfl) (yl_other (by decide) (by decide) rfl (fun f1 f2 wx hT => ?_)) ?_
            · refine lands_value (w := wx) ?_ hT; have k := (h.below hT).c0 m hlt; go_simp
            simp only [pu]
            refine anyL_take (i := 5) (v := ?_) rfl (by kernel_rfl) (by kernel_rfl) (by kernel_rfl) (yl_other (by decide) (by decide) rfl (fun f1 f2 wx hT => ?_)) ?_; rotate_left
            · refine lands_value (w := wx) ?_ hT; go_simp <;> rfl
            simp only [pu]
            refine anyL_take (i := 6) (v := ?_) rfl (by kernel_rfl) (by kernel_rfl) (by kernel_rfl) (yl_other (by decide) (by decide) rfl (fun f1 f2 wx hT => ?_)) ?_; rotate_left
            · refine lands_value (w := wx) ?_ hT; go_simp <;> rfl
            simp only [pu]
            refine anyL_take (i := 7) (v := .pointer (some ⟨g, q * 3, none⟩)) rfl (by kernel_rfl) (by kernel_rfl) (by kernel_rfl) (yl_other (by decide) (by decide) rfl (fun f1 f2 wx hT => ?_)) ?_
            · refine lands_value (w := wx) ?_ hT; go_simp; try rfl
            simp only [pu]
            refine anyL_take (i := 8) (v := .pointer (some ⟨g, q * 3, none⟩)) rfl (by kernel_rfl) (by kernel_rfl) (by kernel_rfl) (yl_other (by decide) (by decide) rfl (fun f1 f2 wx hT => ?_)) ?_
            · refine lands_value (w := wx) ?_ hT; go_simp; try rfl
            simp only [pu]
            refine anyL_take (i := 9) (v := .int .i64 ((K q).1 : Int)) rfl (by kernel_rfl) (by kernel_rfl) (by kernel_rfl) (yl_other (by decide) (by decide) rfl (fun f1 f2 wx hT => ?_)) ?_
            · refine lands_value (w := wx) ?_ hT; have k := (h.below hT).c0 q hqn; go_simp
            simp only [pu]
            refine anyL_take (i := 10) (v := .bool false) rfl (by kernel_rfl) (by kernel_rfl) (by kernel_rfl) (yl_other (by decide) (by decide) rfl (fun f1 f2 wx hT => ?_)) ?_
            · refine lands_value (w := wx) ?_ hT; go_simp; try rfl
            simp only [pu]
            refine anyL_take (i := 11) (v := .bool false) rfl (by kernel_rfl) (by kernel_rfl) (by kernel_rfl) (yl_other (by decide) (by decide) rfl (fun f1 f2 wx hT => ?_)) ?_
            · refine lands_value (w := wx) ?_ hT; go_simp; try rfl
            simp only [pu]
            refine anyL_take (i := 12) (v := ?_) rfl (by kernel_rfl) (by kernel_rfl) (by kernel_rfl) (yl_other (by decide) (by decide) rfl (fun f1 f2 wx hT => ?_)) ?_; rotate_left
            · refine lands_value (w := wx) ?_ hT; go_simp <;> rfl
            simp only [pu]
            refine anyL_take (i := 13) (v := ?_) rfl (by kernel_rfl) (by kernel_rfl) (by kernel_rfl) (yl_other (by decide) (by decide) rfl (fun f1 f2 wx hT => ?_)) ?_; rotate_left
            · refine lands_value (w := wx) ?_ hT; go_simp <;> rfl
            simp only [pu]
            refine anyL_take (i := 14) (v := .pointer (some ⟨g, m * 3, none⟩)) rfl (by kernel_rfl) (by kernel_rfl) (by kernel_rfl) (yl_other (by decide) (by decide) rfl (fun f1 f2 wx hT => ?_)) ?_
            · refine lands_value (w := wx) ?_ hT; go_simp; try rfl
            simp only [pu]
            refine anyL_take (i := 15) (v := .pointer (some ⟨g, m * 3, none⟩)) rfl (by kernel_rfl) (by kernel_rfl) (by kernel_rfl) (yl_other (by decide) (by decide) rfl (fun f1 f2 wx hT => ?_)) ?_
            · refine lands_value (w := wx) ?_ hT; go_simp; try rfl
            simp only [pu]
            refine anyL_take (i := 16) (v := .int .i64 ((K m).1 : Int)) rfl (by kernel_rfl) (by kernel_rfl) (by kernel_rfl) (yl_other (by decide) (by decide) rfl (fun f1 f2 wx hT => ?_)) ?_
            · refine lands_value (w := wx) ?_ hT; have k := (h.below hT).c0 m hlt; go_simp
            simp only [pu]
            refine anyL_take (i := 17) (v := ?_) rfl (by kernel_rfl) (by kernel_rfl) (by kernel_rfl) (yl_other (by decide) (by decide) rfl (fun f1 f2 wx hT => ?_)) ?_; rotate_left
            · refine lands_value (w := wx) ?_ hT; go_simp <;> rfl
            simp only [pu]
            refine anyL_take (i := 18) (v := ?_) rfl (by kernel_rfl) (by kernel_rfl) (by kernel_rfl) (yl_other (by decide) (by decide) rfl (fun f1 f2 wx hT => ?_)) ?_; rotate_left
            · refine lands_value (w := wx) ?_ hT; go_simp <;> rfl
            simp only [pu]
            refine anyL_take (i := 19) (v := .pointer (some ⟨g, q * 3, none⟩)) rfl (by kernel_rfl) (by kernel_rfl) (by kernel_rfl) (yl_other (by decide) (by decide) rfl (fun f1 f2 wx hT => ?_)) ?_
            · refine lands_value (w := wx) ?_ hT; go_simp; try rfl
            simp only [pu]
            refine anyL_take (i := 20) (v := .pointer (some ⟨g, q * 3, none⟩)) rfl (by kernel_rfl) (by kernel_rfl) (by kernel_rfl) (yl_other (by decide) (by decide) rfl (fun f1 f2 wx hT => ?_)) ?_
            · refine lands_value (w := wx) ?_ hT; go_simp; try rfl
            simp only [pu]
            refine anyL_take (i := 21) (v := .int .i64 ((K q).1 : Int)) rfl (by kernel_rfl) (by kernel_rfl) (by kernel_rfl) (yl_other (by decide) (by decide) rfl (fun f1 f2 wx hT => ?_)) ?_
            · refine lands_value (w := wx) ?_ hT; have k := (h.below hT).c0 q hqn; go_simp
            simp only [pu]
            refine anyL_take (i := 22) (v := .bool true) rfl (by kernel_rfl) (by kernel_rfl) (by kernel_rfl) (yl_other (by decide) (by decide) rfl (fun f1 f2 wx hT => ?_)) ?_
            · refine lands_value (w := wx) ?_ hT; go_simp; try rfl
            simp only [pu]
            refine anyL_take (i := 23) (v := .bool true) rfl (by kernel_rfl) (by kernel_rfl) (by kernel_rfl) (yl_other (by decide) (by decide) rfl (fun f1 f2 wx hT => ?_)) ?_
            · refine lands_value (w := wx) ?_ hT; go_simp; try rfl
            simp only [pu]
            refine anyL_take (i := 24) (v := ?_) rfl (by kernel_rfl) (by kernel_rfl) (by kernel_rfl) (yl_other (by decide) (by decide) rfl (fun f1 f2 wx hT => ?_)) ?_; rotate_left
            · refine lands_value (w := wx) ?_ hT; go_simp <;> rfl
            simp only [pu]
            refine anyL_take (i := 25) (v := ?_) rfl (by kernel_rfl) (by kernel_rfl) (by kernel_rfl) (yl_other (by decide) (by decide) rfl (fun f1 f2 wx hT => ?_)) ?_; rotate_left
            · refine lands_value (w := wx) ?_ hT; go_simp <;> rfl
            simp only [pu]
            refine anyL_take (i := 26) (v := .pointer (some ⟨g, m * 3, none⟩)) rfl (by kernel_rfl) (by kernel_rfl) (by kernel_rfl) (yl_other (by decide) (by decide) rfl (fun f1 f2 wx hT => ?_)) ?_
            · refine lands_value (w := wx) ?_ hT; go_simp; try rfl
            simp only [pu]
            refine anyL_take (i := 27) (v := .pointer (some ⟨g, m * 3 + 1, none⟩)) rfl (by kernel_rfl) (by kernel_rfl) (by kernel_rfl) (yl_other (by decide) (by decide) rfl (fun f1 f2 wx hT => ?_)) ?_
            · refine lands_value (w := wx) ?_ hT; go_simp; try rfl
            simp only [pu]
            refine anyL_take (i := 28) (v := .int .i64 ((K m).2 : Int)) rfl (by kernel_rfl) (by kernel_rfl) (by kernel_rfl) (yl_other (by decide) (by decide) rfl (fun f1 f2 wx hT => ?_)) ?_
            · refine lands_value (w := wx) ?_ hT; have k := (h.below hT).c1 m hlt; go_simp
            simp only [pu]
            refine anyL_take (i := 29) (v := ?_) rfl (by kernel_rfl) (by kernel_rfl) (by kernel_rfl) (yl_other (by decide) (by decide) rfl (fun f1 f2 wx hT => ?_)) ?_; rotate_left
            · refine lands_value (w := wx) ?_ hT; go_simp <;> rfl
            simp only [pu]
            refine anyL_take (i := 30) (v := ?_) rfl (by kernel_rfl) (by kernel_rfl) (by kernel_rfl) (yl_other (by decide) (by decide) rfl (fun f1 f2 wx hT => ?_)) ?_; rotate_left
            · refine lands_value (w := wx) ?_ hT; go_simp <;> rfl
            simp only [pu]
            refine anyL_take (i := 31) (v := .pointer (some ⟨g, q * 3, none⟩)) rfl (by kernel_rfl) (by kernel_rfl) (by kernel_rfl) (yl_other (by decide) (by decide) rfl (fun f1 f2 wx hT => ?_)) ?_
            · refine lands_value (w := wx) ?_ hT; go_simp; try rfl
            simp only [pu]
            refine anyL_take (i := 32) (v := .pointer (some ⟨g, q * 3 + 1, none⟩)) rfl (by kernel_rfl) (by kernel_rfl) (by kernel_rfl) (yl_other (by decide) (by decide) rfl (fun f1 f2 wx hT => ?_)) ?_
            · refine lands_value (w := wx) ?_ hT; go_simp; try rfl
            simp only [pu]
            refine anyL_take (i := 33) (v := .int .i64 ((K q).2 : Int)) rfl (by kernel_rfl) (by kernel_rfl) (by kernel_rfl) (yl_other (by decide) (by decide) rfl (fun f1 f2 wx hT => ?_)) ?_
            · refine lands_value (w := wx) ?_ hT; have k := (h.below hT).c1 q hqn; go_simp
            simp only [pu]
            refine anyL_take (i := 34) (v := .bool true) rfl (by kernel_rfl) (by kernel_rfl) (by kernel_rfl) (yl_other (by decide) (by decide) rfl (fun f1 f2 wx hT => ?_)) ?_
            · refine lands_value (w := wx) ?_ hT; go_simp; try rfl
            simp only [pu]
            refine anyL_take (i := 35) (v := .bool true) rfl (by kernel_rfl) (by kernel_rfl) (by kernel_rfl) (yl_other (by decide) (by decide) rfl (fun f1 f2 wx hT => ?_)) ?_
            · refine lands_value (w := wx) ?_ hT; go_simp; try rfl
            simp only [pu]
            refine anyL_take (i := 36) (v := .bool true) rfl (by kernel_rfl) (by kernel_rfl) (by kernel_rfl) (yl_other (by decide) (by decide) rfl (fun f1 f2 wx hT => ?_)) ?_
            · refine lands_value (w := wx) ?_ hT; go_simp; try rfl
            simp only [pu]
            refine anyL_done (by kernel_rfl) (fun w3 (hr3 : Below w.heap.size w w3) => ?_) _
            clear hr hb HN
            go_wp2_with fail
            go_roundw
            case rel => exact ⟨m + 1, by omega, by omega, by go_num, by rw [HR.out], hr3⟩
            case measure => simp [intOf]; omega
          · have hi1 : ¬ ((K m).1 : Int) < ((K q).1 : Int) := by omega
            have hi2 : ((K m).1 : Int) = ((K q).1 : Int) := by omega
            have hi3 : ¬ ((K m).2 : Int) < ((K q).2 : Int) := by omega
            have HR : Hid (lsI K (m + 1) = q) := Lib.hid (by rw [HN.out, if_neg (by unfold klt; omega)])
            go_wp2_with fail
            refine wp_region_anyL (Two 1000 1001 fun _ _ wx => Below w.heap.size w wx) (by kernel_rfl) hr.drew ?_
            refine anyL_take (i := 0) (v := ?_) rfl (by kernel_rfl) (by kernel_rfl) (by kernel_rfl) (yl_other (by decide) (by decide) rfl (fun f1 f2 wx hT => ?_)) ?_; rotate_left
            · refine lands_value (w := wx) ?_ hT; go_simp <;> rfl
            simp only [pu]
            refine anyL_take (i := 1) (v := ?_) rfl (by kernel_rfl) (by kernel_rfl) (by kernel_rfl) (yl_other (by decide) (by decide) rfl (fun f1 f2 wx hT => ?_)) ?_; rotate_left
            · refine lands_value (w := wx) ?_ hT; go_simp <;> rfl
            simp only [pu]
            refine anyL_take (i := 2) (v := .pointer (some ⟨g, m * 3, none⟩)) rfl (by kernel_rfl) (by kernel_rfl) (by kernel_rfl) (yl_other (by decide) (by decide) rfl (fun f1 f2 wx hT => ?_)) ?_
            · refine lands_value (w := wx) ?_ hT; go_simp; try rfl
            simp only [pu]
            refine anyL_take (i := 3) (v := .pointer (some ⟨g, m * 3, none⟩)) rfl (by kernel_rfl) (by kernel_rfl) (by kernel_rfl) (yl_other (by decide) (by decide) rfl (fun f1 f2 wx hT => ?_)) ?_
            · refine lands_value (w := wx) ?_ hT; go_simp; try rfl
            simp only [pu]
            refine anyL_take (i := 4) (v := .int .i64 ((K m).1 : Int)) rfl (by kernel_rfl) (by kernel_rfl) (by kernel_rfl) (yl_other (by decide) (by decide) rfl (fun f1 f2 wx hT => ?_)) ?_
            · refine lands_value (w := wx) ?_ hT; have k := (h.below hT).c0 m hlt; go_simp
            simp only [pu]
            refine anyL_take (i := 5) (v := ?_) rfl (by kernel_rfl) (by kernel_rfl) (by kernel_rfl) (yl_other (by decide) (by decide) rfl (fun f1 f2 wx hT => ?_)) ?_; rotate_left
            · refine lands_value (w := wx) ?_ hT; go_simp <;> rfl
            simp only [pu]
            refine anyL_take (i := 6) (v := ?_) rfl (by kernel_rfl) (by kernel_rfl) (by kernel_rfl) (yl_other (by decide) (by decide) rfl (fun f1 f2 wx hT => ?_)) ?_; rotate_left
            · refine lands_value (w := wx) ?_ hT; go_simp <;> rfl
            simp only [pu]
            refine anyL_take (i := 7) (v := .pointer (some ⟨g, q * 3, none⟩)) rfl (by kernel_rfl) (by kernel_rfl) (by kernel_rfl) (yl_other (by decide) (by decide) rfl (fun f1 f2 wx hT => ?_)) ?_
            · refine lands_value (w := wx) ?_ hT; go_simp; try rfl
            simp only [pu]
            refine anyL_take (i := 8) (v := .pointer (some ⟨g, q * 3, none⟩)) rfl (by kernel_rfl) (by kernel_rfl) (by kernel_rfl) (yl_other (by decide) (by decide) rfl (fun f1 f2 wx hT => ?_)) ?_
            · refine lands_value (w := wx) ?_ hT; go_simp; try rfl
            simp only [pu]
            refine anyL_take (i := 9) (v := .int .i64 ((K q).1 : Int)) rfl (by kernel_rfl) (by kernel_rfl) (by kernel_rfl) (yl_other (by decide) (by decide) rfl (fun f1 f2 wx hT => ?_)) ?_
            · refine lands_value (w := wx) ?_ hT; have k := (h.below hT).c0 q hqn; go_simp
            simp only [pu]
            refine anyL_take (i := 10) (v := .bool false) rfl (by kernel_rfl) (by kernel_rfl) (by kernel_rfl) (yl_other (by decide) (by decide) rfl (fun f1 f2 wx hT => ?_)) ?_
            · refine lands_value (w := wx) ?_ hT; go_simp; try rfl
            simp only [pu]
            refine anyL_take (i := 11) (v := .bool false) rfl (by kernel_rfl) (by kernel_rfl) (by kernel_rfl) (yl_other (by decide) (by decide) rfl (fun f1 f2 wx hT => ?_)) ?_
            · refine lands_value (w := wx) ?_ hT; go_simp; try rfl
            simp only [pu]
            refine anyL_take (i := 12) (v := ?_) rfl (by kernel_rfl) (by kernel_rfl) (by kernel_rfl) (yl_other (by decide) (by decide) rfl (fun f1 f2 wx hT => ?_)) ?_; rotate_left
            · refine lands_value (w := wx) ?_ hT; go_simp <;> rfl
            simp only [pu]
            refine anyL_take (i := 13) (v := ?_) rfl (by kernel_rfl) (by kernel_rfl) (by kernel_rfl) (yl_other (by decide) (by decide) rfl (fun f1 f2 wx hT => ?_)) ?_; rotate_left
            · refine lands_value (w := wx) ?_ hT; go_simp <;> rfl
            simp only [pu]
            refine anyL_take (i := 14) (v := .pointer (some ⟨g, m * 3, none⟩)) rfl (by kernel_rfl) (by kernel_rfl) (by kernel_rfl) (yl_other (by decide) (by decide) rfl (fun f1 f2 wx hT => ?_)) ?_
            · refine lands_value (w := wx) ?_ hT; go_simp; try rfl
            simp only [pu]
            refine anyL_take (i := 15) (v := .pointer (some ⟨g, m * 3, none⟩)) rfl (by kernel_rfl) (by kernel_rfl) (by kernel_rfl) (yl_other (by decide) (by decide) rfl (fun f1 f2 wx hT => ?_)) ?_
            · refine lands_value (w := wx) ?_ hT; go_simp; try rfl
            simp only [pu]
            refine anyL_take (i := 16) (v := .int .i64 ((K m).1 : Int)) rfl (by kernel_rfl) (by kernel_rfl) (by kernel_rfl) (yl_other (by decide) (by decide) rfl (fun f1 f2 wx hT => ?_)) ?_
            · refine lands_value (w := wx) ?_ hT; have k := (h.below hT).c0 m hlt; go_simp
            simp only [pu]
            refine anyL_take (i := 17) (v := ?_) rfl (by kernel_rfl) (by kernel_rfl) (by kernel_rfl) (yl_other (by decide) (by decide) rfl (fun f1 f2 wx hT => ?_)) ?_; rotate_left
            · refine lands_value (w := wx) ?_ hT; go_simp <;> rfl
            simp only [pu]
            refine anyL_take (i := 18) (v := ?_) rfl (by kernel_rfl) (by kernel_rfl) (by kernel_rfl) (yl_other (by decide) (by decide) rfl (fun f1 f2 wx hT => ?_)) ?_; rotate_left
            · refine lands_value (w := wx) ?_ hT; go_simp <;> rfl
            simp only [pu]
            refine anyL_take (i := 19) (v := .pointer (some ⟨g, q * 3, none⟩)) rfl (by kernel_rfl) (by kernel_rfl) (by kernel_rfl) (yl_other (by decide) (by decide) rfl (fun f1 f2 wx hT => ?_)) ?_
            · refine lands_value (w := wx) ?_ hT; go_simp; try rfl
            simp only [pu]
            refine anyL_take (i := 20) (v := .pointer (some ⟨g, q * 3, none⟩)) rfl (by kernel_rfl) (by kernel_rfl) (by kernel_rfl) (yl_other (by decide) (by decide) rfl (fun f1 f2 wx hT => ?_)) ?_
            · refine lands_value (w := wx) ?_ hT; go_simp; try rfl
            simp only [pu]
            refine anyL_take (i := 21) (v := .int .i64 ((K q).1 : Int)) rfl (by kernel_rfl) (by kernel_rfl) (by kernel_rfl) (yl_other (by decide) (by decide) rfl (fun f1 f2 wx hT => ?_)) ?_
            · refine lands_value (w := wx) ?_ hT; have k := (h.below hT).c0 q hqn; go_simp
            simp only [pu]
            refine anyL_take (i := 22) (v := .bool true) rfl (by kernel_rfl) (by kernel_rfl) (by kernel_rfl) (yl_other (by decide) (by decide) rfl (fun f1 f2 wx hT => ?_)) ?_
            · refine lands_value (w := wx) ?_ hT; go_simp; try rfl
            simp only [pu]
            refine anyL_take (i := 23) (v := .bool true) rfl (by kernel_rfl) (by kernel_rfl) (by kernel_rfl) (yl_other (by decide) (by decide) rfl (fun f1 f2 wx hT => ?_)) ?_
            · refine lands_value (w := wx) ?_ hT; go_simp; try rfl
            simp only [pu]
            refine anyL_take (i := 24) (v := ?_) rfl (by kernel_rfl) (by kernel_rfl) (by kernel_rfl) (yl_other (by decide) (by decide) rfl (fun f1 f2 wx hT => ?_)) ?_; rotate_left
            · refine lands_value (w := wx) ?_ hT; go_simp <;> rfl
            simp only [pu]
            refine anyL_take (i := 25) (v := ?_) rfl (by kernel_rfl) (by kernel_rfl) (by kernel_rfl) (yl_other (by decide) (by decide) rfl (fun f1 f2 wx hT => ?_)) ?_; rotate_left
            · refine lands_value (w := wx) ?_ hT; go_simp <;> rfl
            simp only [pu]
            refine anyL_take (i := 26) (v := .pointer (some ⟨g, m * 3, none⟩)) rfl (by kernel_rfl) (by kernel_rfl) (by kernel_rfl) (yl_other (by decide) (by decide) rfl (fun f1 f2 wx hT => ?_)) ?_
            · refine lands_value (w := wx) ?_ hT; go_simp; try rfl
            simp only [pu]
            refine anyL_take (i := 27) (v := .pointer (some ⟨g, m * 3 + 1, none⟩)) rfl (by kernel_rfl) (by kernel_rfl) (by kernel_rfl) (yl_other (by decide) (by decide) rfl (fun f1 f2 wx hT => ?_)) ?_
            · refine lands_value (w := wx) ?_ hT; go_simp; try rfl
            simp only [pu]
            refine anyL_take (i := 28) (v := .int .i64 ((K m).2 : Int)) rfl (by kernel_rfl) (by kernel_rfl) (by kernel_rfl) (yl_other (by decide) (by decide) rfl (fun f1 f2 wx hT => ?_)) ?_
            · refine lands_value (w := wx) ?_ hT; have k := (h.below hT).c1 m hlt; go_simp
            simp only [pu]
            refine anyL_take (i := 29) (v := ?_) rfl (by kernel_rfl) (by kernel_rfl) (by kernel_rfl) (yl_other (by decide) (by decide) rfl (fun f1 f2 wx hT => ?_)) ?_; rotate_left
            · refine lands_value (w := wx) ?_ hT; go_simp <;> rfl
            simp only [pu]
            refine anyL_take (i := 30) (v := ?_) rfl (by kernel_rfl) (by kernel_rfl) (by kernel_rfl) (yl_other (by decide) (by decide) rfl (fun f1 f2 wx hT => ?_)) ?_; rotate_left
            · refine lands_value (w := wx) ?_ hT; go_simp <;> rfl
            simp only [pu]
            refine anyL_take (i := 31) (v := .pointer (some ⟨g, q * 3, none⟩)) rfl (by kernel_rfl) (by kernel_rfl) (by kernel_rfl) (yl_other (by decide) (by decide) rfl (fun f1 f2 wx hT => ?_)) ?_
            · refine lands_value (w := wx) ?_ hT; go_simp; try rfl
            simp only [pu]
            refine anyL_take (i := 32) (v := .pointer (some ⟨g, q * 3 + 1, none⟩)) rfl (by kernel_rfl) (by kernel_rfl) (by kernel_rfl) (yl_other (by decide) (by decide) rfl (fun f1 f2 wx hT => ?_)) ?_
            · refine lands_value (w := wx) ?_ hT; go_simp; try rfl
            simp only [pu]
            refine anyL_take (i := 33) (v := .int .i64 ((K q).2 : Int)) rfl (by kernel_rfl) (by kernel_rfl) (by kernel_rfl) (yl_other (by decide) (by decide) rfl (fun f1 f2 wx hT => ?_)) ?_
            · refine lands_value (w := wx) ?_ hT; have k := (h.below hT).c1 q hqn; go_simp
            simp only [pu]
            refine anyL_take (i := 34) (v := .bool false) rfl (by kernel_rfl) (by kernel_rfl) (by kernel_rfl) (yl_other (by decide) (by decide) rfl (fun f1 f2 wx hT => ?_)) ?_
            · refine lands_value (w := wx) ?_ hT; go_simp; try rfl
            simp only [pu]
            refine anyL_take (i := 35) (v := .bool false) rfl (by kernel_rfl) (by kernel_rfl) (by kernel_rfl) (yl_other (by decide) (by decide) rfl (fun f1 f2 wx hT => ?_)) ?_
            · refine lands_value (w := wx) ?_ hT; go_simp; try rfl
            simp only [pu]
            refine anyL_take (i := 36) (v := .bool false) rfl (by kernel_rfl) (by kernel_rfl) (by kernel_rfl) (yl_other (by decide) (by decide) rfl (fun f1 f2 wx hT => ?_)) ?_
            · refine lands_value (w := wx) ?_ hT; go_simp; try rfl
            simp only [pu]
            refine anyL_done (by kernel_rfl) (fun w3 (hr3 : Below w.heap.size w w3) => ?_) _
            clear hr hb HN
            go_wp2_with fail
            go_roundw
            case rel => exact ⟨m + 1, by omega, by omega, by go_num, by rw [HR.out], hr3⟩
            case measure => simp [intOf]; omega
        · have hi1 : ¬ ((K m).1 : Int) < ((K q).1 : Int) := by omega
          have hi2 : ¬ ((K m).1 : Int) = ((K q).1 : Int) := by omega
          have HR : Hid (lsI K (m + 1) = q) := Lib.hid (by rw [HN.out, if_neg (by unfold klt; omega)])
          go_wp2_with fail
          refine wp_region_anyL (Two 1000 1001 fun _ _ wx => Below w.heap.size w wx) (by kernel_rfl) hr.drew ?_
          refine anyL_take (i := 0) (v := ?_) rfl (by kernel_rfl) (by kernel_rfl) (by kernel_rfl) (yl_other (by decide) (by decide) rfl (fun f1 f2 wx hT => ?_)) ?_; rotate_left
          · refine lands_value (w := wx) ?_ hT; go_simp <;> rfl
          simp only [pu]
          refine anyL_take (i := 1) (v := ?_) rfl (by kernel_rfl) (by kernel_rfl) (by kernel_rfl) (yl_other (by decide) (by decide) rfl (fun f1 f2 wx hT => ?_)) ?_; rotate_left
          · refine lands_value (w := wx) ?_ hT; go_simp <;> rfl
          simp only [pu]
          refine anyL_take (i := 2) (v := .pointer (some ⟨g, m * 3, none⟩)) rfl (by kernel_rfl) (by kernel_rfl) (by kernel_rfl) (yl_other (by decide) (by decide) rfl (fun f1 f2 wx hT => ?_)) ?_
          · refine lands_value (w := wx) ?_ hT; go_simp; try rfl
          simp only [pu]
          refine anyL_take (i := 3) (v := .pointer (some ⟨g, m * 3, none⟩)) rfl (by kernel_rfl) (by kernel_rfl) (by kernel_rfl) (yl_other (by decide) (by decide) rfl (fun f1 f2 wx hT => ?_)) ?_
          · refine lands_value (w := wx) ?_ hT; go_simp; try rfl
          simp only [pu]
          refine anyL_take (i := 4) (v := .int .i64 ((K m).1 : Int)) rfl (by kernel_rfl) (by kernel_rfl) (by kernel_rfl) (yl_other (by decide) (by decide) rfl (fun f1 f2 wx hT => ?_)) ?_
          · refine lands_value (w := wx) ?_ hT; have k := (h.below hT).c0 m hlt; go_simp
          simp only [pu]
          refine anyL_take (i := 5) (v := ?_) rfl (by kernel_rfl) (by kernel_rfl) (by kernel_rfl) (yl_other (by decide) (by decide) rfl (fun f1 f2 wx hT => ?_)) ?_; rotate_left
          · refine lands_value (w := wx) ?_ hT; go_simp <;> rfl
          simp only [pu]
          refine anyL_take (i := 6) (v := ?_) rfl (by kernel_rfl) (by kernel_rfl) (by kernel_rfl) (yl_other (by decide) (by decide) rfl (fun f1 f2 wx hT => ?_)) ?_; rotate_left
          · refine lands_value (w := wx) ?_ hT; go_simp <;> rfl
          simp only [pu]
          refine anyL_take (i := 7) (v := .pointer (some ⟨g, q * 3, none⟩)) rfl (by kernel_rfl) (by kernel_rfl) (by kernel_rfl) (yl_other (by decide) (by decide) rfl (fun f1 f2 wx hT => ?_)) ?_
          · refine lands_value (w := wx) ?_ hT; go_simp; try rfl
          simp only [pu]
          refine anyL_take (i := 8) (v := .pointer (some ⟨g, q * 3, none⟩)) rfl (by kernel_rfl) (by kernel_rfl) (by kernel_rfl) (yl_other (by decide) (by decide) rfl (fun f1 f2 wx hT => ?_)) ?_
          · refine lands_value (w := wx) ?_ hT; go_simp; try rfl
          simp only [pu]
          refine anyL_take (i := 9) (v := .int .i64 ((K q).1 : Int)) rfl (by kernel_rfl) (by kernel_rfl) (by kernel_rfl) (yl_other (by decide) (by decide) rfl (fun f1 f2 wx hT => ?_)) ?_
          · refine lands_value (w := wx) ?_ hT; have k := (h.below hT).c0 q hqn; go_simp
          simp only [pu]
          refine anyL_take (i := 10) (v := .bool false) rfl (by kernel_rfl) (by kernel_rfl) (by kernel_rfl) (yl_other (by decide) (by decide) rfl (fun f1 f2 wx hT => ?_)) ?_
          · refine lands_value (w := wx) ?_ hT; go_simp; try rfl
          simp only [pu]
          refine anyL_take (i := 11) (v := .bool false) rfl (by kernel_rfl) (by kernel_rfl) (by kernel_rfl) (yl_other (by decide) (by decide) rfl (fun f1 f2 wx hT => ?_)) ?_
          · refine lands_value (w := wx) ?_ hT; go_simp; try rfl
          simp only [pu]
          refine anyL_take (i := 12) (v := ?_) rfl (by kernel_rfl) (by kernel_rfl) (by kernel_rfl) (yl_other (by decide) (by decide) rfl (fun f1 f2 wx hT => ?_)) ?_; rotate_left
          · refine lands_value (w := wx) ?_ hT; go_simp <;> rfl
          simp only [pu]
          refine anyL_take (i := 13) (v := ?_) rfl (by kernel_rfl) (by kernel_rfl) (by kernel_rfl) (yl_other (by decide) (by decide) rfl (fun f1 f2 wx hT => ?_)) ?_; rotate_left
          · refine lands_value (w := wx) ?_ hT; go_simp <;> rfl
          simp only [pu]
          refine anyL_take (i := 14) (v := .pointer (some ⟨g, m * 3, none⟩)) rfl (by kernel_rfl) (by kernel_rfl) (by kernel_rfl) (yl_other (by decide) (by decide) rfl (fun f1 f2 wx hT => ?_)) ?_
          · refine lands_value (w := wx) ?_ hT; go_simp; try rfl
          simp only [pu]
          refine anyL_take (i := 15) (v := .pointer (some ⟨g, m * 3, none⟩)) rfl (by kernel_rfl) (by kernel_rfl) (by kernel_rfl) (yl_other (by decide) (by decide) rfl (fun f1 f2 wx hT => ?_)) ?_
          · refine lands_value (w := wx) ?_ hT; go_simp; try rfl
          simp only [pu]
          refine anyL_take (i := 16) (v := .int .i64 ((K m).1 : Int)) rfl (by kernel_rfl) (by kernel_rfl) (by kernel_rfl) (yl_other (by decide) (by decide) rfl (fun f1 f2 wx hT => ?_)) ?_
          · refine lands_value (w := wx) ?_ hT; have k := (h.below hT).c0 m hlt; go_simp
          simp only [pu]
          refine anyL_take (i := 17) (v := ?_) rfl (by kernel_rfl) (by kernel_rfl) (by kernel_rfl) (yl_other (by decide) (by decide) rfl (fun f1 f2 wx hT => ?_)) ?_; rotate_left
          · refine lands_value (w := wx) ?_ hT; go_simp <;> rfl
          simp only [pu]
          refine anyL_take (i := 18) (v := ?_) rfl (by kernel_rfl) (by kernel_rfl) (by kernel_rfl) (yl_other (by decide) (by decide) rfl (fun f1 f2 wx hT => ?_)) ?_; rotate_left
          · refine lands_value (w := wx) ?_ hT; go_simp <;> rfl
          simp only [pu]
          refine anyL_take (i := 19) (v := .pointer (some ⟨g, q * 3, none⟩)) rfl (by kernel_rfl) (by kernel_rfl) (by kernel_rfl) (yl_other (by decide) (by decide) rfl (fun f1 f2 wx hT => ?_)) ?_
          · refine lands_value (w := wx) ?_ hT; go_simp; try rfl
          simp only [pu]
          refine anyL_take (i := 20) (v := .pointer (some ⟨g, q * 3, none⟩)) rfl (by kernel_rfl) (by kernel_rfl) (by kernel_rfl) (yl_other (by decide) (by decide) rfl (fun f1 f2 wx hT => ?_)) ?_
          · refine lands_value (w := wx) ?_ hT; go_simp; try rfl
          simp only [pu]
          refine anyL_take (i := 21) (v := .int .i64 ((K q).1 : Int)) rfl (by kernel_rfl) (by kernel_rfl) (by kernel_rfl) (yl_other (by decide) (by decide) rfl (fun f1 f2 wx hT => ?_)) ?_
          · refine lands_value (w := wx) ?_ hT; have k := (h.below hT).c0 q hqn; go_simp
          simp only [pu]
          refine anyL_take (i := 22) (v := .bool false) rfl (by kernel_rfl) (by kernel_rfl) (by kernel_rfl) (yl_other (by decide) (by decide) rfl (fun f1 f2 wx hT => ?_)) ?_
          · refine lands_value (w := wx) ?_ hT; go_simp; try rfl
          simp only [pu]
          refine anyL_take (i := 23) (v := .bool false) rfl (by kernel_rfl) (by kernel_rfl) (by kernel_rfl) (yl_other (by decide) (by decide) rfl (fun f1 f2 wx hT => ?_)) ?_
          · refine lands_value (w := wx) ?_ hT; go_simp; try rfl
          simp only [pu]
          refine anyL_take (i := 24) rfl (by kernel_rfl) (by kernel_rfl) (by kernel_rfl) (yl_skip (by decide) (by decide) rfl) ?_
          simp only [pu]
          refine anyL_take (i := 25) rfl (by kernel_rfl) (by kernel_rfl) (by kernel_rfl) (yl_skip (by decide) (by decide) rfl) ?_
          simp only [pu]
          refine anyL_take (i := 26) rfl (by kernel_rfl) (by kernel_rfl) (by kernel_rfl) (yl_skip (by decide) (by decide) rfl) ?_
          simp only [pu]
          refine anyL_take (i := 27) rfl (by kernel_rfl) (by kernel_rfl) (by kernel_rfl) (yl_skip (by decide) (by decide) rfl) ?_
          simp only [pu]
          refine anyL_take (i := 28) rfl (by kernel_rfl) (by kernel_rfl) (by kernel_rfl) (yl_skip (by decide) (by decide) rfl) ?_
          simp only [pu]
          refine anyL_take (i := 29) rfl (by kernel_rfl) (by kernel_rfl) (by kernel_rfl) (yl_skip (by decide) (by decide) rfl) ?_
          simp only [pu]
          refine anyL_take (i := 30) rfl (by kernel_rfl) (by kernel_rfl) (by kernel_rfl) (yl_skip (by decide) (by decide) rfl) ?_
          simp only [pu]
          refine anyL_take (i := 31) rfl (by kernel_rfl) (by kernel_rfl) (by kernel_rfl) (yl_skip (by decide) (by decide) rfl) ?_
          simp only [pu]
          refine anyL_take (i := 32) rfl (by kernel_rfl) (by kernel_rfl) (by kernel_rfl) (yl_skip (by decide) (by decide) rfl) ?_
          simp only [pu]
          refine anyL_take (i := 33) rfl (by kernel_rfl) (by kernel_rfl) (by kernel_rfl) (yl_skip (by decide) (by decide) rfl) ?_
          simp only [pu]
          refine anyL_take (i := 34) rfl (by kernel_rfl) (by kernel_rfl) (by kernel_rfl) (yl_skip (by decide) (by decide) rfl) ?_
          simp only [pu]
          refine anyL_take (i := 35) (v := .bool false) rfl (by kernel_rfl) (by kernel_rfl) (by kernel_rfl) (yl_other (by decide) (by decide) rfl (fun f1 f2 wx hT => ?_)) ?_
          · refine lands_value (w := wx) ?_ hT; go_simp; try rfl
          simp only [pu]
          refine anyL_take (i := 36) (v := .bool false) rfl (by kernel_rfl) (by kernel_rfl) (by kernel_rfl) (yl_other (by decide) (by decide) rfl (fun f1 f2 wx hT => ?_)) ?_
          · refine lands_value (w := wx) ?_ hT; go_simp; try rfl
          simp only [pu]
          refine anyL_done (by kernel_rfl) (fun w3 (hr3 : Below w.heap.size w w3) => ?_) _
          clear hr hb HN
          go_wp2_with fail
          go_roundw
          case rel => exact ⟨m + 1, by omega, by omega, by go_num, by rw [HR.out], hr3⟩
          case measure => simp [intOf]; omega
    · obtain rfl : m = n := by omega
      go_wp2_with fail
      go_ret
      exact ⟨rfl, hr⟩
end Go.Proofs.Ytmmkmbinmmfblaa
