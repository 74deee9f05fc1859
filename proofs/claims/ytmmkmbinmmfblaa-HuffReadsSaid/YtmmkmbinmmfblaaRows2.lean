/- Rows of cells as functions of the index; blocks known whole. -/
import Derived.Test.YtmmkmbinmmfblaaWords
import Derived.Below
import Derived.Laws.OwnMore
import Derived.Laws.Rows
import Derived.Deep.Draws
namespace Go.Proofs.Ytmmkmbinmmfblaa
open Go.RowKit
def row (n : Nat) (f : Nat → Value) : Array Value := ((List.range n).map f).toArray
theorem row_size (n : Nat) (f : Nat → Value) : (row n f).size = n := by simp [row]
theorem row_get {n : Nat} (f : Nat → Value) {i : Nat} (h : i < n) : (row n f)[i]? = some (f i) := by
  simp [row, h]
theorem row_ext {n : Nat} {f g : Nat → Value} (h : ∀ i, i < n → f i = g i) : row n f = row n g := by
  unfold row; congr 1; apply List.map_congr_left; intro i hi; exact h i (List.mem_range.1 hi)
theorem row_set {n : Nat} (f : Nat → Value) {i : Nat} (h : i < n) (v : Value) : (row n f).setIfInBounds i v = row n (fun j => if j = i then v else f j) := by
  apply Array.ext'
  apply List.ext_getElem?
  intro j
  simp only [row, Array.toList_setIfInBounds, List.getElem?_set, List.length_map, List.length_range, List.getElem?_map]
  by_cases hj : i = j
  · subst hj; simp [h]
  · have : ¬ j = i := fun e => hj e.symm
    by_cases hn : j < n <;> simp [hj, this, hn]
theorem row_of (a : Array Value) (d : Value) : a = row a.size (fun i => a[i]?.getD d) := by
  apply Array.ext'
  apply List.ext_getElem?
  intro j
  by_cases hj : j < a.size <;> simp [row, hj]
theorem row_one {n : Nat} {f : Nat → Value} (h : ∀ i, (f i).oneCell' = true) : (row n f).all (·.oneCell') = true := by
  simp [row, h]
def Blk (w : World) (g : Nat) (t : TypeId) (cs : Array Value) : Prop := w.heap[g]? = some (.cells cs t (0, 0))
section
variable {w w' : World} {g : Nat} {t : TypeId} {cs : Array Value}
theorem Blk.lt (h : Blk w g t cs) : g < w.heap.size := by
  rcases Nat.lt_or_ge g w.heap.size with hlt | hge
  · exact hlt
  · unfold Blk at h; rw [Array.getElem?_eq_none hge] at h; cases h
theorem Blk.cell (h : Blk w g t cs) (i : Nat) : w.cell? ⟨g, i, none⟩ = cs[i]? := cell_of_row w g i cs t (0, 0) h
theorem Blk.at_ {n : Nat} {f : Nat → Value} (h : Blk w g t (row n f)) {i : Nat} (hi : i < n) : w.cell? ⟨g, i, none⟩ = some (f i) := (h.cell i).trans (row_get f hi)
theorem Blk.cast_ {cs' : Array Value} (h : Blk w g t cs) (e : cs = cs') : Blk w g t cs' := e ▸ h
theorem Blk.cast' {g' : Nat} {cs' : Array Value} (h : Blk w g t cs) (e : g = g' ∧ cs = cs') : Blk w g' t cs' := by obtain ⟨rfl, rfl⟩ := e; exact h
theorem Blk.frozen (h : Blk w g t cs) (i : Nat) : w.frozen? ⟨g, i, none⟩ = false := by
  unfold Blk at h
  simp [World.frozen?, h]
theorem Blk.new (w : World) (t : TypeId) (cs : Array Value) : Blk (w.alloc (.cells cs t)) w.heap.size t cs := heap_alloc_new w _
theorem Blk.drew (h : Blk w g t cs) : Blk w.drew g t cs := h
theorem Blk.drewN (h : Blk w g t cs) (n : Nat) : Blk (w.drewN n) g t cs := h
theorem Blk.alloc (h : Blk w g t cs) (o : Obj) : Blk (w.alloc o) g t cs := (Below.heap_alloc w o g h.lt).trans h
theorem Blk.set_ (h : Blk w g t cs) (i : Nat) (u : Value) : Blk (w.setCell ⟨g, i, none⟩ u) g t (cs.setIfInBounds i u) := by
  unfold Blk at h ⊢
  simp [World.setCell, Array.getElem?_modify, h]
theorem Blk.put {n : Nat} {f : Nat → Value} (h : Blk w g t (row n f)) {i : Nat} (hi : i < n) (u : Value) : Blk (w.setCell ⟨g, i, none⟩ u) g t (row n (fun j => if j = i then u else f j)) := by
  rw [← row_set f hi]; exact h.set_ i u
theorem Blk.far (h : Blk w g t cs) {p : Addr} (hp : g ≠ p.block) (u : Value) : Blk (w.setCell p u) g t cs := (Below.heap_setCell w p u g hp).trans h
theorem Blk.below {B : Nat} (h : Blk w g t cs) (hb : Below B w w') (hg : g < B) : Blk w' g t cs := (hb.block g hg).trans h
theorem Blk.row_ (h : Blk w g t cs) (cs' : Array Value) : Blk (w.setRow g cs') g t cs' := setRow_heap w g cs cs' t _ h
theorem Blk.row_far (h : Blk w g t cs) {k : Nat} (hk : g ≠ k) (cs' : Array Value) : Blk (w.setRow k cs') g t cs := (setRow_other w k g cs' hk).trans h
theorem below_setRow' {B k : Nat} {w0 : World} (hb : Below B w0 w) (hBg : B ≤ k) (cs : Array Value) : Below B w0 (w.setRow k cs) :=
  hb.trans ⟨rfl, rfl, rfl, by simp, fun i hi => setRow_other w k i cs (by omega)⟩
end
/-- An array's element by its index, the elements of one cell each. -/
theorem run_index_cell {P : Program} (w : World) (T E n : Nat) (d : TypeDesc) (hT : P.underlying T = some (.array n E)) (hE : P.underlying E = some d)
    (hd : (match d with | .struct _ | .array _ _ => true | _ => false) = false) (hi : (P.info? E).map (·.size) = some 1)
    (cs : Array Value) (v : Value) (j : Nat) (hj : j < n) (hc : cs[j]? = some v) (k : IntKind) : (Instr.index T (.agg cs) (.int k (j : Int))).run P w = .ok v w := by
  cases hq : P.info? E with
  | none => simp [hq] at hi
  | some i =>
    have hs : i.size = 1 := by simpa [hq] using hi
    have hagg : (isAgg E).run P w = .ok false w := by
      unfold isAgg
      rw [Sem.run_bind, run_underlying hE w]
      cases d <;> simp_all
    have h0 : 0 ≤ (j : Int) ∧ (j : Int) < (n : Int) := by omega
    simp [Instr.index, run_underlying hT, asIntOf, h0, part, hagg, sizeOf, typeInfo, hq, hs, hc, Sem.run_bind]
    intro hh; omega
theorem addr_add (g o l : Nat) : (⟨g, o, none⟩ : Addr).add l = ⟨g, o + l, none⟩ := by
  unfold Addr.add; split <;> simp_all
/-- A part of an array that is a variable, the elements of one cell each. -/
theorem run_sliceAt_cell {P : Program} (w : World) (T E n : Nat) (hT : P.underlying T = some (.array n E)) (hi : (P.info? E).map (·.size) = some 1)
    (g o l h : Nat) (hl : l < n) (hlh : l ≤ h) (hn : h ≤ n) (k k' : IntKind) (il ih : Int) (el : il = (l : Int)) (eh : ih = (h : Int)) :
    (Instr.sliceAt T (.pointer (some ⟨g, o, none⟩)) (some (.int k il)) (some (.int k' ih)) none).run P w = .ok (.slice (some ⟨g, o + l, none⟩) (h - l) (n - l)) w := by
  subst el eh
  cases hq : P.info? E with
  | none => simp [hq] at hi
  | some i =>
    have hs : i.size = 1 := by simpa [hq] using hi
    simp [Instr.sliceAt, Instr.sureAddr, run_underlying hT, Instr.sliceBounds, Instr.sliceBound, asIntOf, Sem.run_bind, sizeOf, typeInfo, hq, hs, hlh, hn, addr_add, show ¬ n = l by omega]
/-- The address of an array's element, the elements of one cell each. -/
theorem run_indexAt_cell {P : Program} (w : World) (T E n : Nat) (hT : P.underlying T = some (.array n E)) (hi : (P.info? E).map (·.size) = some 1)
    (g o j : Nat) (hj : j < n) (k : IntKind) (i : Int) (ei : i = (j : Int)) :
    (Instr.indexAt T (.pointer (some ⟨g, o, none⟩)) (.int k i)).run P w = .ok (.pointer (some ⟨g, o + j, none⟩)) w := by
  subst ei
  cases hq : P.info? E with
  | none => simp [hq] at hi
  | some i =>
    have hs : i.size = 1 := by simpa [hq] using hi
    have h0 : 0 ≤ (j : Int) ∧ (j : Int) < (n : Int) := by omega
    simp [Instr.indexAt, Instr.sureAddr, run_underlying hT, asIntOf, Sem.run_bind, sizeOf, typeInfo, hq, hs, h0, addr_add]
    intro hh; omega
/-- A world in the goal under a name, with what is known of it. -/
theorem wp_gen {P : Program} {c : Code} {Q : Exit → Act → World → Prop} {a : Act} {w : World} (R : World → Prop) (h : R w) (k : ∀ w', R w' → c.wp P Q a w') : c.wp P Q a w := k w h
theorem wpList_gen {P : Program} {ops : Array Oper} {Q : Exit → Act → World → Prop} {r : List Oper} {a : Act} {w : World} (R : World → Prop) (h : R w) (k : ∀ w', R w' → wpList P ops Q r a w') : wpList P ops Q r a w := k w h
theorem any_gen {F : World → Prop} {w : World} (R : World → Prop) (h : R w) (k : ∀ w', R w' → F w') : F w := k w h
/-- An array's first elements. -/
theorem run_sliceAt_head {P : Program} (w : World) (T E n : Nat) (hT : P.underlying T = some (.array n E)) (hi : (P.info? E).map (·.size) = some 1)
    (g o h : Nat) (hn : h ≤ n) (k : IntKind) (ih : Int) (eh : ih = (h : Int)) :
    (Instr.sliceAt T (.pointer (some ⟨g, o, none⟩)) none (some (.int k ih)) none).run P w = .ok (.slice (some ⟨g, o, none⟩) h n) w := by
  subst eh
  cases hq : P.info? E with
  | none => simp [hq] at hi
  | some i =>
    simp [Instr.sliceAt, Instr.sureAddr, run_underlying hT, Instr.sliceBounds, Instr.sliceBound, asIntOf, Sem.run_bind, sizeOf, typeInfo, hq, hn, addr_add]
end Go.Proofs.Ytmmkmbinmmfblaa
