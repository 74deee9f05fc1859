/- Comparing numbers; Right, Small, Odd, timesSquare, half of the layer field. -/
import Derived.Test.YtjggclhhimccoaaGh
namespace Go.Proofs.Ytjggclhhimccoaa
open Go.RowKit
theorem run_part_cell {P : Program} (w : World) (E : TypeId) (d : TypeDesc) (hE : P.underlying E = some d) (hd : (match d with | .struct _ | .array _ _ => true | _ => false) = false) (xs : Array Value) (i : Nat) (v : Value) (hv : xs[i]? = some v) : (part E xs i).run P w = .ok v w := by
  have hagg : (isAgg E).run P w = .ok false w := by
    unfold isAgg
    rw [Sem.run_bind, run_underlying hE w]
    cases d <;> simp_all
  simp [part, Sem.run_bind, hagg, hv]
/-- Are the first words of both alike? -/
def eq4 (f g : Nat → BitVec 64) : Bool := f 0 == g 0 && (f 1 == g 1 && (f 2 == g 2 && f 3 == g 3))
theorem iw_beq (x y : BitVec 64) : (iw x == iw y) = (x == y) := by
  rw [Bool.eq_iff_iff, beq_iff_eq, beq_iff_eq]
  constructor
  · intro h; apply BitVec.eq_of_toNat_eq; unfold iw at h; omega
  · intro h; rw [h]
theorem run_equalIn_row {P : Program} (w : World) (d : Nat) (T E : TypeId) (hT : P.underlying T = some (.array 4 E)) (hE : P.underlying E = some (.int .u64)) (hi : (P.info? E).map (·.size) = some 1) (f g : Nat → BitVec 64) :
    (Op.equalIn (d + 2) T (.agg (r64 4 f)) (.agg (r64 4 g))).run P w = .ok (eq4 f g) w := by
  cases hq : P.info? E with
  | none => simp [hq] at hi
  | some i =>
    have hs : i.size = 1 := by simpa [hq] using hi
    have hp : ∀ (h : Nat → BitVec 64) (j : Nat), j < 4 → ∀ w, (part E (r64 4 h) j).run P w = .ok (.int .u64 (iw (h j))) w := fun h j hj w => run_part_cell w E _ hE rfl _ j _ (row_get _ hj)
    have he : ∀ a b w, (Op.equalIn (d + 1) E (.int .u64 a) (.int .u64 b)).run P w = .ok (a == b) w := fun a b w => run_equalIn_int w d E .u64 .u64 a b hE
    unfold Op.equalIn
    simp [Sem.run_bind, run_underlying hT, sizeOf, typeInfo, hq, hs, List.range', hp, he, iw_beq]
    unfold eq4
    by_cases h0 : f 0 = g 0 <;> by_cases h1 : f 1 = g 1 <;> by_cases h2 : f 2 = g 2 <;> by_cases h3 : f 3 = g 3 <;> simp [h0, h1, h2, h3]
theorem eq4_same (f : Nat → BitVec 64) : eq4 f f = true := by unfold eq4; simp
theorem F4_inj (a b : Nat) (ha : a < M256) (hb : b < M256) (h0 : F4 a 0 = F4 b 0) (h1 : F4 a 1 = F4 b 1) (h2 : F4 a 2 = F4 b 2) (h3 : F4 a 3 = F4 b 3) : a = b := by
  have e1 := words_a a ha
  have e2 := words_a b hb
  rw [e1, e2, h0, h1, h2, h3]
theorem eq4_F4 (a b : Nat) (ha : a < M256) (hb : b < M256) : eq4 (F4 a) (F4 b) = decide (a = b) := by
  by_cases h : a = b
  · subst h; rw [eq4_same]; simp
  · rw [decide_eq_false h]
    cases he : eq4 (F4 a) (F4 b) with
    | false => rfl
    | true =>
      exfalso
      unfold eq4 at he
      simp only [Bool.and_eq_true, beq_iff_eq] at he
      exact h (F4_inj a b ha hb he.1 he.2.1 he.2.2.1 he.2.2.2)
theorem run_eq_fe (f g : Nat → BitVec 64) (w : World) : (Op.equalIn 10000 24 (.agg (r64 4 f)) (.agg (r64 4 g))).run Try.prog w = .ok (eq4 f g) w :=
  run_equalIn_row w 9998 24 22 Try.underlying24 Try.underlying22 (by kernel_rfl) f g
theorem run_eq_num (a b : Nat) (ha : a < M256) (hb : b < M256) (w : World) : (Op.equalIn 10000 24 (.agg (r64 4 (F4 a))) (.agg (r64 4 (F4 b)))).run Try.prog w = .ok (decide (a = b)) w := by
  rw [run_eq_fe, eq4_F4 a b ha hb]
theorem run_eq_fe4 (f g : Nat → BitVec 64) (w : World) : (Op.equalIn 10000 23 (.agg (r64 4 f)) (.agg (r64 4 g))).run Try.prog w = .ok (eq4 f g) w :=
  run_equalIn_row w 9998 23 22 Try.underlying23 Try.underlying22 (by kernel_rfl) f g
theorem guard_fe : Try.prog.eqGuardType Try.prog.depth 24 = false := by kernel_rfl
theorem guard_fe4 : Try.prog.eqGuardType Try.prog.depth 23 = false := by kernel_rfl
theorem pP_lt : pP < M256 := by decide
theorem mod_lt_M (n : Nat) : n % pP < M256 := Nat.lt_trans (Nat.mod_lt _ (by decide)) pP_lt
/-- One block of a call. -/
structure L1 (a : Nat) (w wr : World) : Prop where
  d : Blk wr w.heap.size 24 (r64 4 (F4 a))
  l : Below w.heap.size w wr
theorem L1.below {a : Nat} {w wr w' : World} (h : L1 a w wr) (hb : Below wr.heap.size wr w') : L1 a w w' := ⟨h.d.below hb h.d.lt, h.l.trans (hb.mono h.l.size)⟩
set_option maxRecDepth 100000 in
set_option maxHeartbeats 1000000 in
theorem fright_any (a : Nat) (w : World) (ha : a < M256) :
    Calls Try.prog 22 #[.agg (r64 4 (F4 a))] w fun e w' => e = .returned (.bool (decide (a % pP = a))) ∧ Below w.heap.size w w' := by
  have L0 : L1 a w (w.alloc (.cells (r64 4 (F4 a)) 24)) := ⟨Blk.new w _ _, (Below.refl _ _).alloc (Nat.le_refl _) _⟩
  have he := run_eq_num (a % pP) a (mod_lt_M a) ha
  have hg := guard_fe
  go_enter Try.func22, Try.ntmps22
  go_wp2_with fail
  refine wp_gen (L1 a w) L0 (fun w1 h1 => ?_)
  clear L0
  refine wp_region_anyL (Two 1000 1001 fun _ _ wx => L1 a w wx) (by kernel_rfl) ⟨h1.d, h1.l.drew⟩ ?_
  refine anyL_take (i := 0) (v := .agg (r64 4 (F4 a))) rfl (by kernel_rfl) (by kernel_rfl) (by kernel_rfl) (yl_other (by decide) (by decide) rfl (fun f1 f2 wx hT => ?_)) ?_
  · exact lands_fe _ rfl _ rfl _ hT.d hT
  simp only [Act.put, List.setIfInBounds_toArray, List.set_cons_zero, List.set_cons_succ]
  refine anyL_take (i := 1) (v := .agg (r64 4 (F4 (a % pP)))) rfl (by kernel_rfl) (by kernel_rfl) (by kernel_rfl) (yl_other (by decide) (by decide) rfl (fun f1 f2 wx hT => ?_)) ?_
  · exact lands_calls (w := wx) ((reduced_any a wx ha).mono fun _ _ ⟨he, hb⟩ => ⟨he, hT.below hb⟩) (by go_simp)
  simp only [Act.put, List.setIfInBounds_toArray, List.set_cons_zero, List.set_cons_succ]
  refine anyL_take (i := 2) (v := .agg (r64 4 (F4 a))) rfl (by kernel_rfl) (by kernel_rfl) (by kernel_rfl) (yl_other (by decide) (by decide) rfl (fun f1 f2 wx hT => ?_)) ?_
  · exact lands_fe _ rfl _ rfl _ hT.d hT
  simp only [Act.put, List.setIfInBounds_toArray, List.set_cons_zero, List.set_cons_succ]
  refine anyL_take (i := 3) (v := ?_) rfl (by kernel_rfl) (by kernel_rfl) (by kernel_rfl) (yl_other (by decide) (by decide) rfl (fun f1 f2 wx hT => ?_)) ?_; rotate_left
  · refine lands_value (w := wx) ?_ hT; go_simp <;> rfl
  simp only [Act.put, List.setIfInBounds_toArray, List.set_cons_zero, List.set_cons_succ]
  refine anyL_take (i := 4) (v := ?_) rfl (by kernel_rfl) (by kernel_rfl) (by kernel_rfl) (yl_other (by decide) (by decide) rfl (fun f1 f2 wx hT => ?_)) ?_; rotate_left
  · refine lands_value (w := wx) ?_ hT; go_simp <;> rfl
  simp only [Act.put, List.setIfInBounds_toArray, List.set_cons_zero, List.set_cons_succ]
  refine anyL_done (by kernel_rfl) (fun w3 (K : L1 a w w3) => ?_) _
  clear he hg
  go_wp2_with fail
  go_ret
  exact ⟨rfl, K.l⟩
end Go.Proofs.Ytjggclhhimccoaa
