/- Parts of a block of numbers stored into; comparing points; multiples of a point as a table; bytes of a slice. -/
import Derived.Test.YtggalphgnloneaaGreatQb
import Derived.Test.YtggalphgnloneaaGreatMK
namespace Go.Proofs.YtggalphgnloneaaGreat
open Go.RowKit
/-- Numbers k to k + m turned into those of h. -/
def setN (f : Nat → Nat) (k m : Nat) (h : Nat → Nat) (j : Nat) : Nat := if k ≤ j ∧ j < k + m then h (j - k) else f j
theorem over_nums (f h : Nat → Nat) (k m n : Nat) : row (4 * n) (over (numF f) (4 * k) (4 * m) (numF h)) = nums n (setN f k m h) := row_ext fun i _ => by
  unfold over numF setN
  by_cases c : k ≤ i / 4 ∧ i / 4 < k + m
  · rw [if_pos (by omega), if_pos c, show (i - 4 * k) / 4 = i / 4 - k by omega, show (i - 4 * k) % 4 = i % 4 by omega]
  · rw [if_neg (by omega), if_neg c]
theorem lands_store_nums {P : Program} {R : World → Prop} {o : Oper} {a : Act} {w : World} (k m : Nat) (ty : TypeId) (x y : Operand) (ho : o.op = .store ty x y) (g n : Nat) (f h : Nat → Nat) (hx : a.eval x = .pointer (some ⟨g, 4 * k, none⟩)) (hy : a.eval y = .agg (nums m h)) (t : TypeId) (hb : Blk w g t (nums n f)) (hn : k + m ≤ n)
    (hi : (P.info? ty).map (·.size) = some (4 * m)) (hR : R (w.setRow g (nums n (setN f k m h)))) : Lands P R undef ((execOp a.eval o).run P w) := by
  have h0 := run_storeCells_at (P := P) g (4 * k) t (row (4 * m) (numF h)).toList 0 (row (4 * n) (numF f)) w hb (by simp [row]; omega) (fun v hv => by simp [row] at hv; obtain ⟨i, _, rfl⟩ := hv; rfl)
  rw [over_row (by omega), over_nums] at h0
  have hs : (storeVar ty ⟨g, 4 * k, none⟩ (.agg (nums m h))).run P w = .ok () (w.setRow g (nums n (setN f k m h))) := by
    cases hq : P.info? ty with
    | none => simp [hq] at hi
    | some i =>
      have hs : i.size = 4 * m := by simpa [hq] using hi
      unfold nums at *
      simp [storeVar, sizeOf, typeInfo, hq, Value.cells, hs, h0, row_size]
  have : (execOp a.eval o).run P w = .ok .skip (w.setRow g (nums n (setN f k m h))) := by
    unfold execOp
    simp only [ho, hx, hy, Instr.storeAt, Instr.sureAddr, Sem.run_bind, Sem.run_pure, Result.andThen_ok, hs]
  rw [this]; exact ⟨rfl, hR⟩
theorem row_extract (N o n : Nat) (F : Nat → Value) (h : o + n ≤ N) : (row N F).extract o (o + n) = row n fun i => F (o + i) := by
  apply Array.ext'
  apply List.ext_getElem?
  intro j
  rw [row_getElem, Array.toList_extract]
  simp only [List.extract_eq_take_drop, List.getElem?_take, List.getElem?_drop, row_getElem]
  by_cases hj : j < n
  · rw [if_pos (by omega), if_pos (by omega), if_pos hj]
  · rw [if_neg (by omega), if_neg hj]
theorem run_part_num {P : Program} (w : World) (ty : TypeId) (d : TypeDesc) (hu : P.underlying ty = some d) (hd : d.isRow = true) (hi : (P.info? ty).map (·.size) = some 4) (n k : Nat) (f : Nat → Nat) (hk : k < n) (off : Nat) (ho : off = 4 * k) : (part ty (nums n f) off).run P w = .ok (.agg (r64 4 (F4 (f k)))) w := by
  subst ho
  cases hq : P.info? ty with
  | none => simp [hq] at hi
  | some i =>
    have hs : i.size = 4 := by simpa [hq] using hi
    have hagg : (isAgg ty).run P w = .ok true w := by
      unfold isAgg
      rw [Sem.run_bind, run_underlying hu w]
      cases d <;> simp_all [TypeDesc.isRow]
    have he : (nums n f).extract (4 * k) (4 * k + 4) = r64 4 (F4 (f k)) := by
      unfold nums
      rw [row_extract _ _ _ _ (by omega), part_num]
    simp [part, Sem.run_bind, hagg, sizeOf, typeInfo, hq, hs, he]
/-- Comparing points. -/
def eqP (P Q : Pt) : Bool := decide (P.x = Q.x) && decide (P.y = Q.y)
theorem eqP_iff {P Q : Pt} : eqP P Q = true ↔ P = Q := by
  unfold eqP
  rw [Bool.and_eq_true, decide_eq_true_iff, decide_eq_true_iff]
  exact ⟨fun h => Pt.same h.1 h.2, fun h => h ▸ ⟨rfl, rfl⟩⟩
theorem eqP_no {P Q : Pt} : eqP P Q = false ↔ P ≠ Q := by
  rw [← Bool.not_eq_true, eqP_iff]
structure Pt.ok (P : Pt) : Prop where
  x : P.x < M256
  y : P.y < M256
theorem onC.ok {P : Pt} (h : onC P) : P.ok := ⟨lt_M h.x, lt_M h.y⟩
theorem run_eq_fe9 (a b : Nat) (ha : a < M256) (hb : b < M256) (w : World) : (Op.equalIn 9999 40 (.agg (r64 4 (F4 a))) (.agg (r64 4 (F4 b)))).run Tryz.prog w = .ok (decide (a = b)) w := by
  rw [← eq4_F4 a b ha hb]
  exact run_equalIn_row w 9997 40 38 Tryz.underlying40 Tryz.underlying38 (by kernel_rfl) _ _
theorem run_eq_pt (P Q : Pt) (hP : P.ok) (hQ : Q.ok) (w : World) : (Op.equalIn 10000 42 (.agg (nums 2 (two P.x P.y))) (.agg (nums 2 (two Q.x Q.y)))).run Tryz.prog w = .ok (eqP P Q) w := by
  have hp : ∀ (R : Pt) w, (part 40 (nums 2 (two R.x R.y)) 0).run Tryz.prog w = .ok (.agg (r64 4 (F4 R.x))) w := fun R w => run_part_num w _ _ Tryz.underlying40 rfl (by kernel_rfl) 2 0 _ (by decide) 0 rfl
  have hp4 : ∀ (R : Pt) w, (part 40 (nums 2 (two R.x R.y)) 4).run Tryz.prog w = .ok (.agg (r64 4 (F4 R.y))) w := fun R w => run_part_num w _ _ Tryz.underlying40 rfl (by kernel_rfl) 2 1 _ (by decide) 4 rfl
  rw [run_equalIn_struct w 9999 42 _ _ (by kernel_rfl) (by kernel_rfl)]
  simp [Program.fieldsOf, Tryz.underlying42, Op.eqFields, Sem.run_bind, hp, hp4, run_eq_fe9 _ _ hP.x hQ.x, run_eq_fe9 _ _ hP.y hQ.y]
  unfold eqP
  by_cases h1 : P.x = Q.x
  · by_cases h2 : P.y = Q.y <;> simp [h1, h2]
  · simp [h1]
theorem guard_pt : Tryz.prog.eqGuardType Tryz.prog.depth 42 = false := by kernel_rfl
theorem lands_neqP {R : World → Prop} {o : Oper} {ac : Act} {w : World} (x y : Operand) (ho : o.op = .binOp .neq 42 x y 42) (P Q : Pt) (hx : ac.eval x = .agg (nums 2 (two P.x P.y))) (hy : ac.eval y = .agg (nums 2 (two Q.x Q.y))) (hP : P.ok) (hQ : Q.ok) (c : Bool) (hc : (!eqP P Q) = c) (hR : R w) :
    Lands Tryz.prog R (.bool c) ((execOp ac.eval o).run Tryz.prog w) := by
  have : (execOp ac.eval o).run Tryz.prog w = .ok (.value (.bool c)) w := by
    unfold execOp
    simp only [ho, hx, hy, Sem.run_bind, run_eqGuard_agg _ _ _ _ _ _ _ guard_pt, Result.andThen_ok, run_neq_struct, run_eq_pt P Q hP hQ, hc, Sem.run_pure]
  rw [this]; exact ⟨rfl, hR⟩
theorem lands_eqlP {R : World → Prop} {o : Oper} {ac : Act} {w : World} (x y : Operand) (ho : o.op = .binOp .eql 42 x y 42) (P Q : Pt) (hx : ac.eval x = .agg (nums 2 (two P.x P.y))) (hy : ac.eval y = .agg (nums 2 (two Q.x Q.y))) (hP : P.ok) (hQ : Q.ok) (c : Bool) (hc : eqP P Q = c) (hR : R w) :
    Lands Tryz.prog R (.bool c) ((execOp ac.eval o).run Tryz.prog w) := by
  have : (execOp ac.eval o).run Tryz.prog w = .ok (.value (.bool c)) w := by
    unfold execOp
    simp only [ho, hx, hy, Sem.run_bind, run_eqGuard_agg _ _ _ _ _ _ _ guard_pt, Result.andThen_ok, run_eql_struct, run_eq_pt P Q hP hQ, hc, Sem.run_pure]
  rw [this]; exact ⟨rfl, hR⟩
/-- The multiples of a point, as multiples lays them down. -/
noncomputable def mulQ (P : Pt) : Nat → R3
  | 0 => ⟨pZ.x, pZ.y, 1⟩
  | k + 1 => (R3.mk P.x P.y 1).plus (mulQ P k)
theorem mulQ_ok (P : Pt) : ∀ k, (mulQ P k).ok
  | 0 => ⟨by show 0 < M256; decide, by show 1 < M256; decide, by show 1 < M256; decide⟩
  | _ + 1 => R3.plus_ok
def R3.co (r : R3) : Nat → Nat := tri r.x r.y r.z
noncomputable def tab (P : Pt) (k j : Nat) : Nat := if j / 3 ≤ k then (mulQ P (j / 3)).co (j % 3) else 0
theorem tab_zero (P : Pt) : nums 48 (setN (fun _ => 0) 0 3 (tri pZ.x pZ.y 1)) = nums 48 (tab P 0) := nums_ext fun j _ => by
  unfold setN tab
  by_cases h : j < 3
  · rw [if_pos (by omega), if_pos (by omega), show j / 3 = 0 by omega, show j % 3 = j by omega]; rfl
  · rw [if_neg (by omega), if_neg (by omega)]
theorem tab_next (P : Pt) (k : Nat) (r : R3) (hr : r = mulQ P (k + 1)) : nums 48 (setN (tab P k) (3 * (k + 1)) 3 (tri r.x r.y r.z)) = nums 48 (tab P (k + 1)) := nums_ext fun j _ => by
  unfold setN tab
  by_cases h : 3 * (k + 1) ≤ j ∧ j < 3 * (k + 1) + 3
  · rw [if_pos h, if_pos (by omega), show j / 3 = k + 1 by omega, show j % 3 = j - 3 * (k + 1) by omega, ← hr]; rfl
  · rw [if_neg h]
    by_cases h2 : j / 3 ≤ k
    · rw [if_pos h2, if_pos (by omega)]
    · rw [if_neg h2, if_neg (by omega)]
theorem tab_at (P : Pt) (K k : Nat) (h : k ≤ K) : (nums 3 fun j => tab P K (3 * k + j)) = nums 3 (tri (mulQ P k).x (mulQ P k).y (mulQ P k).z) := nums_ext fun j hj => by
  unfold tab
  rw [show (3 * k + j) / 3 = k by omega, show (3 * k + j) % 3 = j by omega, if_pos h]; rfl
theorem zero_tab : ∀ w, (zeroValue 77).run Tryz.prog w = .ok (.agg (nums 48 (fun _ => 0))) w := fun w => by kernel_rfl
end Go.Proofs.YtggalphgnloneaaGreat
