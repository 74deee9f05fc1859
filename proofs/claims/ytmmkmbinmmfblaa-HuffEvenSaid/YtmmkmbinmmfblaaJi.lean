/- The closure by which symbols are sorted: by weight, then by number. -/
import Derived.Test.YtmmkmbinmmfblaaMB
import Derived.Test.YtmmkmbinmmfblaaMC
import Derived.Test.YtmmkmbinmmfblaaHr
import Derived.Test.YtmmkmbinmmfblaaMA
import Derived.Shelf.SlSortCmp.WholeK
import Derived.IntWalk
namespace Go.Proofs.Ytmmkmbinmmfblaa
open Go.RowKit
/-- cmp.Compare. -/
def cmpI (x y : Int) : Int := if x < y then -1 else if x > y then 1 else 0
/-- The closure's answer. -/
def cmpK (x y : Kd) : Int := if cmpI x.1 y.1 ≠ 0 then cmpI x.1 y.1 else cmpI x.2 y.2
def encK (x : Kd) : List Value := [.int .i64 (x.1 : Int), .int .i64 (x.2 : Int)]
theorem cmpK_neg (x y : Kd) : cmpK x y < 0 ↔ klt x y := by
  unfold cmpK cmpI klt
  by_cases h1 : x.1 < y.1
  · have e : (x.1 : Int) < (y.1 : Int) := by omega
    simp only [if_pos e]
    omega
  · have e : ¬ (x.1 : Int) < (y.1 : Int) := by omega
    by_cases h2 : x.1 > y.1
    · have e2 : (x.1 : Int) > (y.1 : Int) := by omega
      simp only [if_neg e, if_pos e2]
      omega
    · have e2 : ¬ (x.1 : Int) > (y.1 : Int) := by omega
      simp only [if_neg e, if_neg e2]
      split
      · omega
      · split
        · omega
        · split <;> omega
theorem cmpK_lt (x y : Kd) : ltOf cmpK x y = decide (klt x y) := decide_eq_decide.2 (cmpK_neg x y)
theorem compare_any (x y : Int) (w : World) :
    Calls Try.prog 43 #[.int .i64 x, .int .i64 y] w fun e w' => e = .returned (.int .i64 (cmpI x y)) ∧ w' = w := by
  unfold cmpI
  by_cases h1 : x < y
  · rw [if_pos h1]
    go_enter Try.func43, Try.ntmps43
    go_wp2
    go_ret
    exact ⟨rfl, rfl⟩
  · rw [if_neg h1]
    by_cases h2 : x > y
    · rw [if_pos h2]
      go_enter Try.func43, Try.ntmps43
      go_wp2
      go_ret
      exact ⟨rfl, rfl⟩
    · rw [if_neg h2]
      go_enter Try.func43, Try.ntmps43
      go_wp2
      go_ret
      exact ⟨rfl, rfl⟩
theorem or_any (x y : Int) (g : Nat) (w : World) (h0 : w.cell? ⟨g, 0, none⟩ = some (.int .i64 x)) (h1 : w.cell? ⟨g, 1, none⟩ = some (.int .i64 y)) :
    Calls Try.prog 42 #[.slice (some ⟨g, 0, none⟩) 2 2] w fun e w' => e = .returned (.int .i64 (if x ≠ 0 then x else y)) ∧ w' = w := by
  have HR : Hid ((x ≠ 0 → (if x ≠ 0 then x else y) = x) ∧ (x = 0 → (if x ≠ 0 then x else y) = y)) := Lib.hid ⟨fun h => if_pos h, fun h => if_neg (by omega)⟩
  generalize (if x ≠ 0 then x else y) = r at *
  go_enter Try.func42, Try.ntmps42
  go_wp2_with fail
  go_loopw [5, 8] (fun _ i wr => ∃ k : Nat, k ≤ 2 ∧ i = .int .i64 (k : Int) ∧ (1 ≤ k → x = 0) ∧ (2 ≤ k → y = 0) ∧ w = wr) (fun _ i _ => 2 - (intOf i).toNat)
  case atStart => exact ⟨0, by omega, rfl, by omega, by omega, rfl⟩
  case round =>
    obtain ⟨k, hk, rfl, hx, hy, rfl⟩ := hrel
    rcases (show k = 0 ∨ k = 1 ∨ k = 2 by omega) with rfl | rfl | rfl
    · clear hx hy
      by_cases hx : x = 0
      · subst hx
        go_wp2_with fail
        go_roundw
        case rel => exact ⟨1, by omega, by go_num, fun _ => by trivial, by omega, by trivial⟩
        case measure => simp [intOf]
      · have hq : (x != 0) = true := by simpa using hx
        have e := HR.out.1 hx
        subst e
        clear HR
        go_wp2_with fail
        go_ret
        exact ⟨rfl, rfl⟩
    · obtain rfl := hx (by omega)
      clear hx hy
      have e := HR.out.2 rfl
      subst e
      by_cases hy : r = 0
      · subst hy
        go_wp2_with fail
        go_roundw
        case rel => exact ⟨2, by omega, by go_num, fun _ => by trivial, fun _ => by trivial, by trivial⟩
        case measure => simp [intOf]
      · have hq : (r != 0) = true := by simpa using hy
        clear HR
        go_wp2_with fail
        go_ret
        exact ⟨rfl, rfl⟩
    · obtain rfl := hx (by omega)
      obtain rfl := hy (by omega)
      have e := HR.out.2 rfl
      subst e
      clear HR hx hy
      go_wp2_with fail
      go_ret
      exact ⟨rfl, rfl⟩
set_option maxRecDepth 100000 in
set_option maxHeartbeats 2000000 in
theorem closure_any (x y : Kd) (W : World) :
    Calls Try.prog 41 #[.agg #[.int .i64 (x.1 : Int), .int .i64 (x.2 : Int)], .agg #[.int .i64 (y.1 : Int), .int .i64 (y.2 : Int)]] W fun e w' => e = .returned (.int .i64 (cmpK x y)) ∧ ∃ q os', w' = Sort.grow (W.drewN q) os' := by
  go_enter Try.func41, Try.ntmps41
  go_wp2_with fail
  obtain ⟨W1, hW1⟩ : ∃ W1, W1 = (W.alloc (.cells #[.int .i64 (x.1 : Int), .int .i64 (x.2 : Int)] 75)).alloc (.cells #[.int .i64 (y.1 : Int), .int .i64 (y.2 : Int)] 75) := ⟨_, rfl⟩
  have bA : Blk W1.drew W.heap.size 75 #[.int .i64 (x.1 : Int), .int .i64 (x.2 : Int)] := by rw [hW1]; exact ((Blk.new W _ _).alloc _).drew
  have bB : Blk W1.drew (W.heap.size + 1) 75 #[.int .i64 (y.1 : Int), .int .i64 (y.2 : Int)] := by rw [hW1]; exact ((Blk.new _ _ _).cast' ⟨by simp, rfl⟩).drew
  have HA0 : Hid (W1.drew.cell? ⟨W.heap.size, 0, none⟩ = some (.int .i64 (x.1 : Int))) := Lib.hid (bA.cell 0)
  have HA1 : Hid (W1.drew.cell? ⟨W.heap.size, 1, none⟩ = some (.int .i64 (x.2 : Int))) := Lib.hid (bA.cell 1)
  have HB0 : Hid (W1.drew.cell? ⟨W.heap.size + 1, 0, none⟩ = some (.int .i64 (y.1 : Int))) := Lib.hid (bB.cell 0)
  have HB1 : Hid (W1.drew.cell? ⟨W.heap.size + 1, 1, none⟩ = some (.int .i64 (y.2 : Int))) := Lib.hid (bB.cell 1)
  have bC : Blk (W1.drew.alloc (.cells #[.int .i64 (cmpI x.1 y.1), .int .i64 (cmpI x.2 y.2)] 3)) W1.heap.size 3 #[.int .i64 (cmpI x.1 y.1), .int .i64 (cmpI x.2 y.2)] := Blk.new W1.drew _ _
  have HC0 : Hid ((W1.drew.alloc (.cells #[.int .i64 (cmpI x.1 y.1), .int .i64 (cmpI x.2 y.2)] 3)).cell? ⟨W1.heap.size, 0, none⟩ = some (.int .i64 (cmpI x.1 y.1))) := Lib.hid (bC.cell 0)
  have HC1 : Hid ((W1.drew.alloc (.cells #[.int .i64 (cmpI x.1 y.1), .int .i64 (cmpI x.2 y.2)] 3)).cell? ⟨W1.heap.size, 1, none⟩ = some (.int .i64 (cmpI x.2 y.2))) := Lib.hid (bC.cell 1)
  have HG : Hid (∃ q os', W1.drew.alloc (.cells #[.int .i64 (cmpI x.1 y.1), .int .i64 (cmpI x.2 y.2)] 3) = Sort.grow (W.drewN q) os') := Lib.hid (by
    refine ⟨1, #[.cells #[.int .i64 (x.1 : Int), .int .i64 (x.2 : Int)] 75, .cells #[.int .i64 (y.1 : Int), .int .i64 (y.2 : Int)] 75, .cells #[.int .i64 (cmpI x.1 y.1), .int .i64 (cmpI x.2 y.2)] 3], ?_⟩
    rw [hW1, Sort.alloc_eq_grow, Sort.alloc_eq_grow, Sort.alloc_eq_grow, Sort.drew_grow, Sort.drew_grow, Sort.grow_grow, Sort.grow_grow]
    rfl)
  rw [← hW1]
  clear hW1 bA bB bC
  refine wp_region_anyL (Two 10 11 fun a _ wx => bif a then wx = W1.drew.alloc (.cells #[.int .i64 (cmpI x.1 y.1), .int .i64 (cmpI x.2 y.2)] 3) else wx = W1.drew) (by kernel_rfl) rfl ?_
  refine anyL_take (i := 0) (v := ?_) rfl (by kernel_rfl) (by kernel_rfl) (by kernel_rfl) (yl_other (by decide) (by decide) rfl (fun f1 f2 wx hT => ?_)) ?_; rotate_left
  · refine lands_value (w := wx) ?_ hT; go_simp <;> rfl
  simp only [pu]
  refine anyL_take (i := 1) (v := .int .i64 (x.1 : Int)) rfl (by kernel_rfl) (by kernel_rfl) (by kernel_rfl) (yl_ahead (n := 12) (by decide) (by decide) (by kernel_rfl) rfl (fun f2 wx hT => ?_)) ?_
  · have hT : wx = _ := hT; subst hT; have c0 := HA0.out; refine lands_value (w := W1.drew) ?_ rfl; go_simp
  simp only [pu]
  refine anyL_take (i := 2) (v := ?_) rfl (by kernel_rfl) (by kernel_rfl) (by kernel_rfl) (yl_other (by decide) (by decide) rfl (fun f1 f2 wx hT => ?_)) ?_; rotate_left
  · refine lands_value (w := wx) ?_ hT; go_simp <;> rfl
  simp only [pu]
  refine anyL_take (i := 3) (v := .int .i64 (y.1 : Int)) rfl (by kernel_rfl) (by kernel_rfl) (by kernel_rfl) (yl_ahead (n := 12) (by decide) (by decide) (by kernel_rfl) rfl (fun f2 wx hT => ?_)) ?_
  · have hT : wx = _ := hT; subst hT; have c0 := HB0.out; refine lands_value (w := W1.drew) ?_ rfl; go_simp
  simp only [pu]
  refine anyL_take (i := 4) (v := .int .i64 (cmpI x.1 y.1)) rfl (by kernel_rfl) (by kernel_rfl) (by kernel_rfl) (yl_ahead (n := 12) (by decide) (by decide) (by kernel_rfl) rfl (fun f2 wx hT => ?_)) ?_
  · have hT : wx = _ := hT; subst hT; exact lands_calls ((compare_any (x.1 : Int) (y.1 : Int) _).mono fun _ _ ⟨he, hb⟩ => ⟨he, hb⟩) (by go_simp)
  simp only [pu]
  refine anyL_take (i := 5) (v := ?_) rfl (by kernel_rfl) (by kernel_rfl) (by kernel_rfl) (yl_other (by decide) (by decide) rfl (fun f1 f2 wx hT => ?_)) ?_; rotate_left
  · refine lands_value (w := wx) ?_ hT; go_simp <;> rfl
  simp only [pu]
  refine anyL_take (i := 6) (v := .int .i64 (x.2 : Int)) rfl (by kernel_rfl) (by kernel_rfl) (by kernel_rfl) (yl_ahead (n := 12) (by decide) (by decide) (by kernel_rfl) rfl (fun f2 wx hT => ?_)) ?_
  · have hT : wx = _ := hT; subst hT; have c0 := HA1.out; refine lands_value (w := W1.drew) ?_ rfl; go_simp
  simp only [pu]
  refine anyL_take (i := 7) (v := ?_) rfl (by kernel_rfl) (by kernel_rfl) (by kernel_rfl) (yl_other (by decide) (by decide) rfl (fun f1 f2 wx hT => ?_)) ?_; rotate_left
  · refine lands_value (w := wx) ?_ hT; go_simp <;> rfl
  simp only [pu]
  refine anyL_take (i := 8) (v := .int .i64 (y.2 : Int)) rfl (by kernel_rfl) (by kernel_rfl) (by kernel_rfl) (yl_ahead (n := 12) (by decide) (by decide) (by kernel_rfl) rfl (fun f2 wx hT => ?_)) ?_
  · have hT : wx = _ := hT; subst hT; have c0 := HB1.out; refine lands_value (w := W1.drew) ?_ rfl; go_simp
  simp only [pu]
  refine anyL_take (i := 9) (v := .int .i64 (cmpI x.2 y.2)) rfl (by kernel_rfl) (by kernel_rfl) (by kernel_rfl) (yl_ahead (n := 12) (by decide) (by decide) (by kernel_rfl) rfl (fun f2 wx hT => ?_)) ?_
  · have hT : wx = _ := hT; subst hT; exact lands_calls ((compare_any (x.2 : Int) (y.2 : Int) _).mono fun _ _ ⟨he, hb⟩ => ⟨he, hb⟩) (by go_simp)
  simp only [pu]
  refine anyL_take (i := 10) (v := .slice (some ⟨W1.heap.size, 0, none⟩) 2 2) rfl (by kernel_rfl) (by kernel_rfl) (by kernel_rfl) (yl_first (by decide) rfl (fun f2 wx hT => ?_)) ?_
  · have hT : wx = _ := hT; subst hT; refine lands_value (w := W1.drew.alloc (.cells #[.int .i64 (cmpI x.1 y.1), .int .i64 (cmpI x.2 y.2)] 3)) ?_ rfl; go_simp
  simp only [pu]
  refine anyL_take (i := 11) (v := .int .i64 (cmpK x y)) rfl (by kernel_rfl) (by kernel_rfl) (by kernel_rfl) (yl_late (by decide) rfl (by kernel_rfl) rfl (fun wx hT => ?_)) ?_
  · have hT : wx = _ := hT; subst hT; exact lands_calls ((or_any (cmpI x.1 y.1) (cmpI x.2 y.2) W1.heap.size _ HC0.out HC1.out).mono fun _ _ ⟨he, hb⟩ => ⟨he, hb⟩) (by go_simp)
  simp only [pu]
  refine anyL_take (i := 12) (v := ?_) rfl (by kernel_rfl) (by kernel_rfl) (by kernel_rfl) (yl_other (by decide) (by decide) rfl (fun f1 f2 wx hT => ?_)) ?_; rotate_left
  · refine lands_value (w := wx) ?_ hT; go_simp <;> rfl
  simp only [pu]
  refine anyL_done (by kernel_rfl) (fun wr2 hT => ?_) _
  have hT : wr2 = _ := hT
  subst hT
  go_wp2_with fail
  go_ret
  exact ⟨rfl, HG.out⟩
theorem closure_lays (blk off size : Nat) (w : World) : CmpLays Try.prog 41 #[] encK 2 cmpK blk off size w :=
  fun _ _ _ _ x y => closure_any x y _
theorem cmpK_swo : Sort.SWO (ltOf cmpK) where
  irrefl x := by rw [cmpK_lt, decide_eq_false (klt_irrefl x)]
  trans x y z h1 h2 := by
    rw [cmpK_lt, decide_eq_true_eq] at *
    exact klt_trans h1 h2
  ntrans x y z h1 h2 := by
    rw [cmpK_lt, decide_eq_false_iff_not] at *
    unfold klt at *
    omega
end Go.Proofs.Ytmmkmbinmmfblaa
