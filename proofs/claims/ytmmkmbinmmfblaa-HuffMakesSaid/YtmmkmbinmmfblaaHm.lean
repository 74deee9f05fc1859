/- Nodes with their symbols; the first nodes, of chapter 9's lengths. -/
import Derived.Test.YtmmkmbinmmfblaaHl
import Derived.Test.YtmmkmbinmmfblaaMB
namespace Go.Proofs.Ytmmkmbinmmfblaa
open Go.RowKit
/-- A node with its symbols. -/
abbrev Ny := Kd × Value × List Nat
def nxs (l : List Ny) : List Nx := l.map fun x => (x.1, x.2.1)
def kys (l : List Ny) : List Kd := l.map (·.1)
/-- A list of symbols, read. -/
def RL (w : World) (v : Value) (L : List Nat) : Prop := w.ownsRow 0 3 1 v L.length (L.map fun (i : Nat) => Value.int .i64 (i : Int))
theorem RL.lt {w : World} {v : Value} {L : List Nat} (h : RL w v L) {g : Nat} (hg : v.ownBlock = some g) : ∃ cur, w.heap[g]? = some (.cells cur 3 (0, 0)) ∧ g < w.heap.size := by
  rcases h.2 with ⟨rfl, _⟩ | ⟨g', cap, cur, rfl, _, hc, _⟩
  · simp [Value.ownBlock] at hg
  · have : g' = g := by simpa [Value.ownBlock] using hg
    subst this
    refine ⟨cur, hc, ?_⟩
    rcases Nat.lt_or_ge g' w.heap.size with hlt | hge
    · exact hlt
    · rw [Array.getElem?_eq_none hge] at hc; cases hc
theorem RL.block {w w' : World} {v : Value} {L : List Nat} (h : RL w v L) (hb : ∀ g, v.ownBlock = some g → w'.heap[g]? = w.heap[g]?) : RL w' v L := by
  refine ⟨h.1, ?_⟩
  rcases h.2 with h1 | ⟨g, cap, cur, h1, h2, h3, h4⟩
  · exact .inl h1
  · exact .inr ⟨g, cap, cur, h1, h2, (hb g (by rw [h1]; rfl)).trans h3, h4⟩
theorem RL.below {w w' : World} {v : Value} {L : List Nat} (h : RL w v L) (hb : Below w.heap.size w w') : RL w' v L :=
  h.block fun g hg => hb.block g (h.lt hg).choose_spec.2
theorem int_node : (3 : Nat) ≠ 82 := by decide
theorem ON.type {B : Nat} {w0 w : World} {l : List Nx} {v : Value} (h : ON B w0 l v w) {g : Nat} (hg : v.ownBlock = some g) : ∃ cur, w.heap[g]? = some (.cells cur 82 (0, 0)) := by
  rcases h.own.2 with ⟨rfl, _⟩ | ⟨g', cap, cur, rfl, _, hc, _⟩
  · simp [Value.ownBlock] at hg
  · have : g' = g := by simpa [Value.ownBlock] using hg
    subst this
    exact ⟨cur, hc⟩
/-- What grows is another block than a list of symbols. -/
theorem RL.grown {B : Nat} {w0 w w' : World} {l : List Nx} {u v : Value} {L : List Nat} (h : RL w v L) (hn : ON B w0 l u w) (hg : w.grownBy w' u.ownBlock) : RL w' v L :=
  h.block fun g hv => by
    obtain ⟨cur, h1, h2⟩ := h.lt hv
    refine hg.block g h2 fun e => ?_
    obtain ⟨cur2, h3⟩ := hn.type e.symm
    rw [h1] at h3
    simp only [Option.some.injEq, Obj.cells.injEq] at h3
    exact int_node h3.2.1
theorem nxs_app (l m : List Ny) : nxs (l ++ m) = nxs l ++ nxs m := List.map_append ..
theorem nxs_len (l : List Ny) : (nxs l).length = l.length := List.length_map ..
theorem RL.cellOk {w : World} {v : Value} {L : List Nat} (h : RL w v L) : v.oneCell' = true := by
  rcases h.2 with ⟨rfl, _⟩ | ⟨g, cap, cur, rfl, _⟩ <;> rfl
/-- The nodes made so far. -/
structure PN (B : Nat) (w0 : World) (l : List Ny) (v : Value) (wr : World) : Prop where
  on : ON B w0 (nxs l) v wr
  rl : ∀ x ∈ l, RL wr x.2.1 x.2.2
theorem PN.below {B : Nat} {w0 w w' : World} {l : List Ny} {v : Value} (h : PN B w0 l v w) (hb : Below w.heap.size w w') : PN B w0 l v w' := ⟨h.on.below hb, fun x hx => (h.rl x hx).below hb⟩
/-- One node more: its block is made, and its list. -/
theorem wpList_oneN {ops : Array Oper} {rest : List Oper} {o : Oper} {a : Act} {Q : Exit → Act → World → Prop} {B : Nat} {w0 w : World} {l : List Ny} {v : Value} (hgd : o.guard = none) (s x : Operand)
    (ho : o.op = .call { callee := .builtin .append, args := #[s, x], argTypes := #[80, 80] }) (hs : a.eval s = v) (h : PN B w0 l v w) (y : Ny) (hy : RL w y.2.1 y.2.2)
    (hx : a.eval x = .slice (some ⟨w.heap.size, 0, none⟩) 1 1) (hn : l.length ≤ 1000)
    (k : ∀ v' w', PN B w0 (l ++ [y]) v' w' → w.grownBy w' v.ownBlock → wpList Try.prog ops Q rest (a.put o.dst v') w') :
    wpList Try.prog ops Q (o :: rest) a (w.alloc (.cells #[.int .i64 (y.1.1 : Int), .int .i64 (y.1.2 : Int), y.2.1] 82)) := by
  have hb : Below w.heap.size w (w.alloc (.cells #[.int .i64 (y.1.1 : Int), .int .i64 (y.1.2 : Int), y.2.1] 82)) := (Below.refl _ _).alloc (Nat.le_refl _) _
  have h2 := h.below hb
  refine wpList_moreN (m := [(y.1, y.2.1)]) hgd s x ho hs h2.on ⟨w.heap.size, 0, none⟩ 1 hx (fun j hj => ?_) (fun z hz => ?_) (by rw [nxs_len]; show l.length + 1 ≤ _; omega) fun v' w2 hon hg => ?_
  · rw [addr_add, Nat.zero_add, cell_of_row _ _ j _ _ (0, 0) (heap_alloc_new w _)]
    simp [cellsL]
  · rw [List.mem_singleton.1 hz]; exact hy.cellOk
  · refine k v' w2 ⟨hon.cast (by rw [nxs_app]; rfl), fun z hz => ?_⟩ ?_
    · rcases List.mem_append.1 hz with h3 | h3
      · exact (h2.rl z h3).grown h2.on hg
      · rw [List.mem_singleton.1 h3]
        exact (hy.below hb).grown h2.on hg
    · exact (World.grownBy_alloc w _ v.ownBlock).trans hg
end Go.Proofs.Ytmmkmbinmmfblaa
