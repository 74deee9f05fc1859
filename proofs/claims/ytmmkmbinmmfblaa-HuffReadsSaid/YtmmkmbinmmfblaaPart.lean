/- A part of a block as an array: loaded, stored. -/
import Derived.Test.YtmmkmbinmmfblaaRows2
import Derived.Laws.CopyRow
import Derived.Deep.MidRow
import Derived.StillTailTactics
namespace Go.Proofs.Ytmmkmbinmmfblaa
open Go.RowKit
/-- F with f laid over the n places from o on. -/
def over (F : Nat → Value) (o n : Nat) (f : Nat → Value) (i : Nat) : Value := if o ≤ i ∧ i < o + n then f (i - o) else F i
section
variable {P : Program} {w : World} {g o n N : Nat} {t ty : TypeId} {F f : Nat → Value} {d : TypeDesc}
theorem Blk.range (h : Blk w g t (row N F)) (hn : o + n ≤ N) : w.rangeAt g o ((List.range n).map fun i => F (o + i)) := fun j v hv => by
  have hj : j < n := by
    rcases Nat.lt_or_ge j n with h1 | h1
    · exact h1
    · rw [List.getElem?_eq_none (by simpa using h1)] at hv; cases hv
  have : v = F (o + j) := by simp [hj] at hv; exact hv.symm
  rw [this]; exact h.at_ (by omega)
theorem run_loadAt_part (h : Blk w g t (row N F)) (hn : o + n ≤ N) (hu : P.underlying ty = some d) (hd : d.isRow = true) (hi : (P.info? ty).map (·.size) = some n) :
    (Instr.loadAt ty (.pointer (some ⟨g, o, none⟩))).run P w = .ok (.agg (row n fun i => F (o + i))) w := by
  have := run_loadAt_mid (P := P) w g o ty _ d (h.range hn) hu hd (by rw [hi]; simp)
  simpa [row] using this
theorem wpList_load_part {ops : Array Oper} {rest : List Oper} {op : Oper} {a : Act} {Q : Exit → Act → World → Prop} (hgd : op.guard = none) (ty : TypeId) (x : Operand) (ho : op.op = .load ty x)
    (g o n N : Nat) (F : Nat → Value) (hx : a.eval x = .pointer (some ⟨g, o, none⟩)) (t : TypeId) (hb : Blk w g t (row N F)) (hn : o + n ≤ N) (d : TypeDesc)
    (hu : P.underlying ty = some d) (hd : d.isRow = true) (hi : (P.info? ty).map (·.size) = some n)
    (h : wpList P ops Q rest (a.put op.dst (.agg (row n fun i => F (o + i)))) w) : wpList P ops Q (op :: rest) a w :=
  wpList_plain hgd fun _ hK => by
    unfold Oper.wp execOp
    simp only [ho, hx, Sem.run_bind, run_loadAt_part hb hn hu hd hi, Result.andThen_ok]
    exact hK _ _ h
theorem wpStill_load_part {ops : Array Oper} {rest : List Oper} {op : Oper} {a : Act} {Q : Act → Prop} (hgd : op.guard = none) (ty : TypeId) (x : Operand) (ho : op.op = .load ty x)
    (g o n N : Nat) (F : Nat → Value) (hx : a.eval x = .pointer (some ⟨g, o, none⟩)) (t : TypeId) (hb : Blk w g t (row N F)) (hn : o + n ≤ N) (d : TypeDesc)
    (hu : P.underlying ty = some d) (hd : d.isRow = true) (hi : (P.info? ty).map (·.size) = some n)
    (h : wpStill P ops w Q rest (a.put op.dst (.agg (row n fun i => F (o + i))))) : wpStill P ops w Q (op :: rest) a :=
  wpStill_step fun K hK => by
    rw [if_pos (by simp [Region.wanted, hgd])]
    unfold Oper.still execOp
    simp only [ho, hx, Sem.run_bind, run_loadAt_part hb hn hu hd hi, Result.andThen_ok]
    exact ⟨rfl, hK _ h⟩
theorem wpStill_build {ops : Array Oper} {rest : List Oper} {op : Oper} {a : Act} {Q : Act → Prop} (hgd : op.guard = none) (t : TypeId) (parts : Array (Nat × Operand)) (ho : op.op = .build t parts)
    (l : List (Nat × Value)) (hl : (parts.map fun (i, x) => (i, a.eval x)).toList = l) (cells : Array Value) (hc : P.built t l = some cells)
    (h : wpStill P ops w Q rest (a.put op.dst (.agg cells))) : wpStill P ops w Q (op :: rest) a :=
  wpStill_step fun K hK => by
    rw [if_pos (by simp [Region.wanted, hgd])]
    subst hl
    unfold Oper.still execOp
    simp only [ho, Sem.run_bind, run_build w t _ cells hc, Result.andThen_ok]
    exact ⟨rfl, hK _ h⟩
theorem row_getElem (n : Nat) (f : Nat → Value) (j : Nat) : (row n f).toList[j]? = if j < n then some (f j) else none := by
  by_cases h : j < n <;> simp [row, h]
theorem over_row (hn : o + n ≤ N) : ((row N F).toList.take (o + 0) ++ (row n f).toList ++ (row N F).toList.drop (o + 0 + (row n f).toList.length)).toArray = row N (over F o n f) := by
  apply Array.ext'
  apply List.ext_getElem?
  intro j
  have e1 : (row n f).toList.length = n := by simp [row]
  have e2 : ((row N F).toList.take (o + 0)).length = o := by simp [row]; omega
  have e3 : ((row N F).toList.take (o + 0) ++ (row n f).toList).length = o + n := by rw [List.length_append, e1, e2]
  show (((row N F).toList.take (o + 0) ++ (row n f).toList) ++ (row N F).toList.drop (o + 0 + (row n f).toList.length))[j]? = _
  rw [List.getElem?_append, List.getElem?_append, e3, e2, List.getElem?_take, List.getElem?_drop, row_getElem, row_getElem, row_getElem, row_getElem, e1]
  unfold over
  by_cases h1 : j < o
  · rw [if_pos (by omega), if_pos h1, if_pos (by omega), if_pos (by omega), if_pos (by omega), if_neg (by omega)]
  · by_cases h2 : j < o + n
    · rw [if_pos h2, if_neg h1, if_pos (by omega), if_pos (by omega), if_pos (by omega)]
    · by_cases h3 : j < N
      · rw [if_neg h2, if_pos (by omega), if_pos h3, if_neg (by omega), show o + 0 + n + (j - (o + n)) = j by omega]
      · rw [if_neg h2, if_neg (by omega), if_neg h3]
theorem wpList_store_part {ops : Array Oper} {rest : List Oper} {op : Oper} {a : Act} {Q : Exit → Act → World → Prop} (hgd : op.guard = none) (ty : TypeId) (x y : Operand) (ho : op.op = .store ty x y)
    (g o n N : Nat) (F f : Nat → Value) (hx : a.eval x = .pointer (some ⟨g, o, none⟩)) (hy : a.eval y = .agg (row n f)) (t : TypeId) (hb : Blk w g t (row N F)) (hn : o + n ≤ N)
    (hi : (P.info? ty).map (·.size) = some n) (h1 : ∀ i, (f i).oneCell' = true)
    (h : wpList P ops Q rest (a.put op.dst undef) (w.setRow g (row N (over F o n f)))) : wpList P ops Q (op :: rest) a w :=
  wpList_plain hgd fun _ hK => by
    have := run_storeCells_at (P := P) g o t (row n f).toList 0 (row N F) w hb (by simp [row]; omega) (fun v hv => by simp [row] at hv; obtain ⟨i, _, rfl⟩ := hv; exact h1 i)
    rw [over_row hn] at this
    have hs : (storeVar ty ⟨g, o, none⟩ (.agg (row n f))).run P w = .ok () (w.setRow g (row N (over F o n f))) := by
      cases hq : P.info? ty with
      | none => simp [hq] at hi
      | some i =>
        have hs : i.size = n := by simpa [hq] using hi
        simp [storeVar, sizeOf, typeInfo, hq, Value.cells, hs, this, row_size]
    unfold Oper.wp execOp
    simp only [ho, hx, hy, Instr.storeAt, Instr.sureAddr, Sem.run_bind, Sem.run_pure, Result.andThen_ok, hs]
    exact hK _ _ h
/-- A whole row loaded; a whole row stored as it is: as steps of a region that draws. -/
theorem step_load_row {P : Program} {ops : Array Oper} {o : Oper} {a : Act} {w : World} {K : Act → World → Prop} {Q : Exit → Act → World → Prop} {E : Prop} (hgd : o.guard = none) (ty : TypeId) (x : Operand) (ho : o.op = .load ty x)
    (g : Nat) (hx : a.eval x = .pointer (some ⟨g, 0, none⟩)) (t : TypeId) (cs : Array Value) (d : TypeDesc) (hg : Blk w g t cs)
    (hu : P.underlying ty = some d) (hd : (match d with | .struct _ | .array _ _ => true | _ => false) = true) (hi : (P.info? ty).map (·.size) = some cs.size)
    (h : K (a.put o.dst (.agg cs)) w) : if Region.wanted o (yielded ops a.tmps) = true then Oper.wp P o a w K Q else E := by
  rw [if_pos (by simp [Region.wanted, hgd])]
  exact wp_load_row ty x ho g hx t cs (0, 0) d hg hu hd hi h
theorem step_store_same {P : Program} {ops : Array Oper} {o : Oper} {a : Act} {w : World} {K : Act → World → Prop} {Q : Exit → Act → World → Prop} {E : Prop} (hgd : o.guard = none) (ty : TypeId) (x y : Operand) (ho : o.op = .store ty x y)
    (g : Nat) (cs : Array Value) (hx : a.eval x = .pointer (some ⟨g, 0, none⟩)) (hy : a.eval y = .agg cs) (t : TypeId) (hg : Blk w g t cs)
    (hi : (P.info? ty).map (·.size) = some cs.size) (h1 : cs.all (·.oneCell') = true)
    (h : K (a.put o.dst undef) w) : if Region.wanted o (yielded ops a.tmps) = true then Oper.wp P o a w K Q else E := by
  rw [if_pos (by simp [Region.wanted, hgd])]
  refine wp_store_row ty x y ho g cs hx hy t cs hg hi rfl h1 ?_
  rw [setRow_self w g cs t (0, 0) hg]
  exact h
end
end Go.Proofs.Ytmmkmbinmmfblaa
