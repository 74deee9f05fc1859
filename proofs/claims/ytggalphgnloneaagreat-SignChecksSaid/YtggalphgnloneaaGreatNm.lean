/- Blocks of several numbers of four words: structs of numbers, and arrays of such. -/
import Derived.Test.YtggalphgnloneaaGreatRe
import Derived.Test.YtggalphgnloneaaGreatMH
namespace Go.Proofs.YtggalphgnloneaaGreat
open Go.RowKit
section
variable {P : Program} {ops : Array Oper} {Q : Exit → Act → World → Prop} {o : Oper} {rest : List Oper} {a : Act} {w w0 : World} {B : Nat} {l : Blks}
/-- An operation that is a value: the world stays. -/
theorem wL (v : Value) (h : Lands P (fun x => x = w) v ((execOp a.eval o).run P w)) (k : wpList P ops Q rest (a.put o.dst v) w) (hg : o.guard = none := by rfl) : wpList P ops Q (o :: rest) a w :=
  wpList_val v hg h (fun _ e => by subst e; exact k)
theorem wLG (v : Value) (h : Lands P (fun x => x = w) v ((execOp a.eval o).run P w)) (k : wpList P ops Q rest (a.put o.dst v) w) (hw : Region.wanted o (yielded ops a.tmps) = true := by rfl) : wpList P ops Q (o :: rest) a w :=
  wpList_valG v hw h (fun _ e => by subst e; exact k)
theorem wV (v : Value) (k : wpList P ops Q rest (a.put o.dst v) w) (hg : o.guard = none := by rfl) (h : (execOp a.eval o).run P w = .ok (.value v) w := by go_simp <;> rfl) : wpList P ops Q (o :: rest) a w :=
  wL v (by rw [h]; exact ⟨rfl, rfl⟩) k hg
theorem wVG (v : Value) (k : wpList P ops Q rest (a.put o.dst v) w) (hw : Region.wanted o (yielded ops a.tmps) = true := by rfl) (h : (execOp a.eval o).run P w = .ok (.value v) w := by go_simp <;> rfl) : wpList P ops Q (o :: rest) a w :=
  wLG v (by rw [h]; exact ⟨rfl, rfl⟩) k hw
/-- A call. -/
theorem wC {f : FuncId} {args : Array Value} {v : Value} (hT : KD B w0 l w) (hc : Calls P f args w fun e w' => e = .returned v ∧ Below w.heap.size w w') (k : ∀ w', KD B w0 l w' → wpList P ops Q rest (a.put o.dst v) w')
    (hg : o.guard = none := by rfl) (h : (execOp a.eval o).run P w = .ok (.enter f args) w := by go_simp) : wpList P ops Q (o :: rest) a w :=
  wpList_val v hg (hT.call hc h) k
theorem wCG {f : FuncId} {args : Array Value} {v : Value} (hT : KD B w0 l w) (hc : Calls P f args w fun e w' => e = .returned v ∧ Below w.heap.size w w') (k : ∀ w', KD B w0 l w' → wpList P ops Q rest (a.put o.dst v) w')
    (hw : Region.wanted o (yielded ops a.tmps) = true := by rfl) (h : (execOp a.eval o).run P w = .ok (.enter f args) w := by go_simp) : wpList P ops Q (o :: rest) a w :=
  wpList_valG v hw (hT.call hc h) k
/-- A block is made. -/
theorem wA {v : Value} {T : TypeId} {cs : Array Value} (hT : KD B w0 l w) (h : (execOp a.eval o).run P w = .ok (.value v) (w.alloc (.cells cs T))) (k : ∀ w', KD B w0 ((w.heap.size, T, cs) :: l) w' → wpList P ops Q rest (a.put o.dst v) w')
    (hg : o.guard = none := by rfl) : wpList P ops Q (o :: rest) a w :=
  wpList_val v hg (by rw [h]; exact ⟨rfl, hT.add _ _⟩) k
end
def numF (f : Nat → Nat) (i : Nat) : Value := .int .u64 (iw (F4 (f (i / 4)) (i % 4)))
/-- n numbers' words. -/
def nums (n : Nat) (f : Nat → Nat) : Array Value := row (4 * n) (numF f)
theorem nums_ext {n : Nat} {f g : Nat → Nat} (h : ∀ k, k < n → f k = g k) : nums n f = nums n g := row_ext fun i hi => by
  unfold numF; rw [h (i / 4) (by omega)]
theorem part_num (f : Nat → Nat) (k : Nat) : (row 4 fun i => numF f (4 * k + i)) = r64 4 (F4 (f k)) := row_ext fun i hi => by
  unfold numF
  rw [show (4 * k + i) / 4 = k by omega, show (4 * k + i) % 4 = i by omega]
theorem part_nums (f : Nat → Nat) (k n : Nat) : (row (4 * n) fun i => numF f (4 * k + i)) = nums n fun j => f (k + j) := row_ext fun i hi => by
  unfold numF
  rw [show (4 * k + i) / 4 = k + i / 4 by omega, show (4 * k + i) % 4 = i % 4 by omega]
def two (x y : Nat) (k : Nat) : Nat := if k = 0 then x else y
def tri (x y z : Nat) (k : Nat) : Nat := if k = 0 then x else if k = 1 then y else z
def qua (x y z t : Nat) (k : Nat) : Nat := if k = 0 then x else if k = 1 then y else if k = 2 then z else t
section
variable {P : Program} {R : World → Prop} {o : Oper} {a : Act} {w : World}
theorem lands_part (ty : TypeId) (x : Operand) (ho : o.op = .load ty x) (g off n N : Nat) (F : Nat → Value) (hx : a.eval x = .pointer (some ⟨g, off, none⟩)) (t : TypeId) (hb : Blk w g t (row N F)) (hn : off + n ≤ N) (d : TypeDesc)
    (hu : P.underlying ty = some d) (hd : d.isRow = true) (hi : (P.info? ty).map (·.size) = some n) (hR : R w) : Lands P R (.agg (row n fun i => F (off + i))) ((execOp a.eval o).run P w) := by
  have : (execOp a.eval o).run P w = .ok (.value (.agg (row n fun i => F (off + i)))) w := by
    unfold execOp
    simp only [ho, hx, Sem.run_bind, Sem.run_pure, Result.andThen_ok, run_loadAt_part hb hn hu hd hi]
  rw [this]; exact ⟨rfl, hR⟩
/-- A number of a block of numbers. -/
theorem lands_num (k : Nat) (ty : TypeId) (x : Operand) (ho : o.op = .load ty x) (g n : Nat) (f : Nat → Nat) (hx : a.eval x = .pointer (some ⟨g, 4 * k, none⟩)) (t : TypeId) (hb : Blk w g t (nums n f)) (hn : k < n) (d : TypeDesc)
    (hu : P.underlying ty = some d) (hd : d.isRow = true) (hi : (P.info? ty).map (·.size) = some 4) (hR : R w) : Lands P R (.agg (r64 4 (F4 (f k)))) ((execOp a.eval o).run P w) := by
  rw [← part_num]
  exact lands_part ty x ho g (4 * k) 4 (4 * n) _ hx t hb (by omega) d hu hd hi hR
/-- Some numbers of it. -/
theorem lands_nums (k m : Nat) (ty : TypeId) (x : Operand) (ho : o.op = .load ty x) (g n : Nat) (f : Nat → Nat) (hx : a.eval x = .pointer (some ⟨g, 4 * k, none⟩)) (t : TypeId) (hb : Blk w g t (nums n f)) (hn : k + m ≤ n) (d : TypeDesc)
    (hu : P.underlying ty = some d) (hd : d.isRow = true) (hi : (P.info? ty).map (·.size) = some (4 * m)) (hR : R w) : Lands P R (.agg (nums m fun j => f (k + j))) ((execOp a.eval o).run P w) := by
  rw [← part_nums]
  exact lands_part ty x ho g (4 * k) (4 * m) (4 * n) _ hx t hb (by omega) d hu hd hi hR
theorem lands_built (ty : TypeId) (parts : Array (Nat × Operand)) (ho : o.op = .build ty parts) (l : List (Nat × Value)) (hl : (parts.map fun (i, x) => (i, a.eval x)).toList = l) (cells : Array Value) (hc : P.built ty l = some cells) (hR : R w) :
    Lands P R (.agg cells) ((execOp a.eval o).run P w) := lands_lit ty parts ho cells (by rw [hl]; exact hc) hR
/-- A variable made by alloc. -/
theorem alloc_run (ty : TypeId) (z : Array Value) (ho : o.op = .alloc ty) (hz : ∀ w, (zeroValue ty).run P w = .ok (.agg z) w) : ∀ w, (execOp a.eval o).run P w = .ok (.value (.pointer (some ⟨w.heap.size, 0, none⟩))) (w.alloc (.cells z ty)) := fun w => by
  have h := hz w
  unfold execOp
  simp only [ho, Instr.alloc, Sem.run_bind, h, Result.andThen_ok]
  go_simp
theorem box_run (ty : TypeId) (x : Operand) (z : Array Value) (ho : o.op = .box ty x) (hx : a.eval x = .agg z) : ∀ w, (execOp a.eval o).run P w = .ok (.value (.pointer (some ⟨w.heap.size, 0, none⟩))) (w.alloc (.cells z ty)) := fun w => by
  unfold execOp
  simp only [ho, Instr.box, hx]
  go_simp
end
end Go.Proofs.YtggalphgnloneaaGreat
