/- A region with three operations that change the world, one behind the other; what joining nodes keeps. -/
import Derived.Test.YtmmkmbinmmfblaaJo
import Derived.Deep.AppendLies
namespace Go.Proofs.Ytmmkmbinmmfblaa
open Go.RowKit
section
variable {P : Program} {md : Region.Mode} {ops : Array Oper} {s t u : Nat} {T : Bool → Bool → Bool → World → Prop}
def Three (s t u : Nat) (T : Bool → Bool → Bool → World → Prop) (L : Array Bool) (w : World) : Prop := T (L.getD s false) (L.getD t false) (L.getD u false) w
theorem y3_other {i : Nat} {o : Oper} {v : Value} {a : Act} (hs : i ≠ s) (ht : i ≠ t) (hu : i ≠ u) (hw : Region.wanted o (yielded ops a.tmps) = true)
    (h : ∀ b c d w, T b c d w → Lands P (T b c d) v ((execOp a.eval o).run P w)) : YieldsL P md ops (Three s t u T) i o v a :=
  .inl ⟨hw, fun L w _ hS => by unfold Three at *; rw [getD_set_ne false hs, getD_set_ne false ht, getD_set_ne false hu]; exact h _ _ _ w hS⟩
/-- Ahead of t and of u. -/
theorem y3_ahead {i n : Nat} {o : Oper} {v : Value} {a : Act} (hs : i ≠ s) (ht : i ≠ t) (hu : i ≠ u) (hb : waits md ops n t i = true) (hb2 : waits md ops n u i = true) (hw : Region.wanted o (yielded ops a.tmps) = true)
    (h : ∀ b w, T b false false w → Lands P (T b false false) v ((execOp a.eval o).run P w)) : YieldsL P md ops (Three s t u T) i o v a :=
  .inl ⟨hw, fun L w hm hS => by unfold Three at *; rw [getD_set_ne false hs, getD_set_ne false ht, getD_set_ne false hu]; rw [not_yet hm hb, not_yet hm hb2] at hS ⊢; exact h _ w hS⟩
theorem y3_first {n : Nat} {o : Oper} {v : Value} {a : Act} (hst : s ≠ t) (hsu : s ≠ u) (hb : waits md ops n t s = true) (hb2 : waits md ops n u s = true) (hw : Region.wanted o (yielded ops a.tmps) = true)
    (h : ∀ w, T false false false w → Lands P (T true false false) v ((execOp a.eval o).run P w)) : YieldsL P md ops (Three s t u T) s o v a :=
  .inl ⟨hw, fun L w hm hS => by unfold Three at *; rw [hm.unlisted.2, getD_set_ne false hst, getD_set_ne false hsu]; rw [hm.unlisted.1, not_yet hm hb, not_yet hm hb2] at hS; rw [not_yet hm hb, not_yet hm hb2]; exact h w hS⟩
theorem y3_second {n : Nat} {o o2 : Oper} {v : Value} {a : Act} (hts : t ≠ s) (htu : t ≠ u) (ho : ops[t]? = some o2) (hb : (o2.after.toList.any fun e => Region.binds md e && e.on == s) = true) (hb2 : waits md ops n u t = true) (hw : Region.wanted o (yielded ops a.tmps) = true)
    (h : ∀ w, T true false false w → Lands P (T true true false) v ((execOp a.eval o).run P w)) : YieldsL P md ops (Three s t u T) t o v a :=
  .inl ⟨hw, fun L w hm hS => by
    unfold Three at *
    rw [hm.unlisted.2, getD_set_ne false hts, getD_set_ne false htu]
    rw [hm.unlisted.1, listed_before hm ho hb, not_yet hm hb2] at hS
    rw [listed_before hm ho hb, not_yet hm hb2]
    exact h w hS⟩
theorem y3_third {o o2 : Oper} {v : Value} {a : Act} (hus : u ≠ s) (hut : u ≠ t) (ho : ops[u]? = some o2) (hb : (o2.after.toList.any fun e => Region.binds md e && e.on == t) = true) (hw : Region.wanted o (yielded ops a.tmps) = true)
    (h : ∀ b w, T b true false w → Lands P (T b true true) v ((execOp a.eval o).run P w)) : YieldsL P md ops (Three s t u T) u o v a :=
  .inl ⟨hw, fun L w hm hS => by
    unfold Three at *
    rw [hm.unlisted.2, getD_set_ne false hus, getD_set_ne false hut]
    rw [hm.unlisted.1, listed_before hm ho hb] at hS
    rw [listed_before hm ho hb]
    exact h _ w hS⟩
end
theorem grown_trans {a b c : World} {row : Option Nat} (h : a.grownBy b row) (k : b.grownBy c row) : a.grownBy c row :=
  ⟨k.os.trans h.os, k.tape.trans h.tape, k.output.trans h.output, Nat.le_trans h.size k.size, fun i hi hn => (k.block i (Nat.lt_of_lt_of_le hi h.size) hn).trans (h.block i hi hn)⟩
theorem grown_more {a b c : World} {r r' : Option Nat} (h : a.grownBy b r) (k : b.grownBy c r') (hr : ∀ g, r' = some g → a.heap.size ≤ g ∨ r = some g) : a.grownBy c r :=
  ⟨k.os.trans h.os, k.tape.trans h.tape, k.output.trans h.output, Nat.le_trans h.size k.size, fun i hi hn => (k.block i (Nat.lt_of_lt_of_le hi h.size) (fun e => by
    rcases hr i e.symm with h1 | h1
    · omega
    · exact hn h1.symm)).trans (h.block i hi hn)⟩
variable {w wr w' : World} {q : Nat} {S J : List Kd} {ab : Nat → Nat} {k : Nat} {aS : Option Addr} {cS : Nat} {aJ : Option Addr} {cJ gA cA : Nat}
theorem JW.take {S1 J1 : List Kd} {aS' : Option Addr} {cS' : Nat} {aJ' : Option Addr} {cJ' : Nat} (h : JW w q S J ab k aS cS aJ cJ gA cA wr) (hg : wr.grownBy w' (some q)) (hf : FQ q w.heap.size S1 J1 aS' cS' aJ' cJ' w') (hn : ∀ g, noB aJ cJ g → noB aJ' cJ' g) : JW w q S1 J1 ab k aS' cS' aJ' cJ' gA cA w' := by
  have hqB := h.fq.qB
  have hgB := h.gB
  exact ⟨grown_trans h.g hg, hf, hn _ h.jA, h.a.kept hg (.inr (fun e => by
    have e : some gA = some q := e
    injection e with e
    omega)), h.gB⟩
/-- One number more of what is above. -/
theorem JW.more {g c' : Nat} {xs : List Value} (h : JW w q S J ab k aS cS aJ cJ gA cA wr) (hgr : wr.grownBy w' (some gA)) (hown : w'.ownsRow w.heap.size 3 1 (.slice (some ⟨g, 0, none⟩) (k + 1) c') (k + 1) xs) (hxs : xs = intsN ab (k + 1)) (hat : some gA = some g ∨ g = wr.heap.size) : JW w q S J ab (k + 1) aS cS aJ cJ g c' w' := by
  subst hxs
  have hqB := h.fq.qB
  have hgB := h.gB
  refine ⟨grown_more h.g hgr (fun x e => by cases e; exact .inl h.gB), h.fq.keep hgr.size (hgr.block q h.fq.f.lt (fun e => by injection e with e; omega)) (fun x hx _ => hgr.block x (Nat.lt_of_lt_of_le hx h.g.size) (fun e => by injection e with e; omega)) (fun a h0 ha hl => hgr.block a.block hl (fun e => h.jA h0 a ha (by injection e))), ?_, hown, ?_⟩
  · rcases hat with e | e
    · injection e with e; rw [← e]; exact h.jA
    · intro h0 a ha
      have := h.fq.j.low h0 a ha
      omega
  · rcases hat with e | e
    · injection e with e; omega
    · have := h.g.size; omega
/-- A node behind those that were joined. -/
theorem JW.push {x : Kd} {ao' : Option Addr} {cap' : Nat} (h : JW w q S J ab k aS cS aJ cJ gA cA wr) (hq : QN w.heap.size (J ++ [x]) ao' cap' w')
    (hg : (∃ g off, aJ = some ⟨g, off, none⟩ ∧ 0 < cJ ∧ ao' = aJ ∧ cap' = cJ ∧ wr.grownBy w' (some g)) ∨ (wr.grownBy w' none ∧ ∃ g off, ao' = some ⟨g, off, none⟩ ∧ wr.heap.size ≤ g)) :
    Blk w' q 73 #[.slice aS S.length cS, .slice aJ J.length cJ] ∧ JW w q S (J ++ [x]) ab k aS cS ao' cap' gA cA (w'.setCell ⟨q, 1, none⟩ (.slice ao' (J.length + 1) cap')) := by
  have hqB := h.fq.qB
  have hgB := h.gB
  have hal := (h.a.lt gA rfl).2
  have key : ∃ r : Option Nat, wr.grownBy w' r ∧ (∀ g, r = some g → w.heap.size ≤ g ∧ g ≠ gA) ∧ noB ao' cap' gA := by
    rcases hg with ⟨g, off, h1, h2, h3, h4, h5⟩ | ⟨h1, g, off, h2, h3⟩
    · refine ⟨some g, h5, fun g2 e => ?_, ?_⟩
      · injection e with e
        obtain ⟨g3, off3, h6, h7, _⟩ := h.fq.j.at_ h2
        rw [h1] at h6
        have h6 := (Addr.mk.inj (Option.some.inj h6)).1
        have h8 := h.jA h2 _ h1
        have h8 : g ≠ gA := h8
        omega
      · rw [h3, h4]; exact h.jA
    · refine ⟨none, h1, (fun g e => by cases e), fun h0 a ha => ?_⟩
      rw [h2] at ha
      cases ha
      show g ≠ gA
      omega
  obtain ⟨r, hr, hrg, hno⟩ := key
  have hfq : w'.heap[q]? = wr.heap[q]? := hr.block q h.fq.f.lt (fun e => by have := (hrg q e.symm).1; omega)
  refine ⟨hfq.trans h.fq.f, grown_set (grown_more h.g hr (fun g e => .inl (hrg g e).1)) _ (.inr rfl) _, ⟨?_, ?_, h.fq.sq, h.fq.sl, ?_, h.fq.qB⟩, hno, ?_, h.gB⟩
  · have hb : Blk w' q 73 #[.slice aS S.length cS, .slice aJ J.length cJ] := hfq.trans h.fq.f
    refine (hb.set_ 1 _).cast_ ?_
    rw [List.length_append]; rfl
  · refine h.fq.s.keep (by simp [World.setCell]; exact hr.size) (fun a h0 ha hl => ?_)
    have h1 := h.fq.sl h0 a ha
    rw [Below.heap_setCell _ _ _ _ (h.fq.sq h0 a ha)]
    exact hr.block a.block hl (fun e => by have := (hrg _ e.symm).1; omega)
  · exact hq.keep (by simp [World.setCell]) (fun a h0 ha _ => Below.heap_setCell _ _ _ _ (hq.apart hqB h0 a ha))
  · exact ownsRow_setCell_below (h.a.kept hr (by
      cases r with
      | none => exact .inr (fun e => by cases e)
      | some g => exact .inr (fun e => by
          have e : some gA = some g := e
          injection e with e
          exact (hrg g rfl).2 e.symm))) (show q < w.heap.size from hqB) _
theorem lands_append {P : Program} {R : World → Prop} {o : Oper} {a : Act} {w w' : World} {v : Value} (s x : Operand) (t : TypeId) (ho : o.op = .call { callee := .builtin .append, args := #[s, x], argTypes := #[t, t] }) {vs vx : Value} (hs : a.eval s = vs) (hx : a.eval x = vx)
    (hr : (Builtin.append_ #[t, t] o.type #[vs, vx]).run P w = .ok v w') (hR : R w') : Lands P R v ((execOp a.eval o).run P w) := by
  have : (execOp a.eval o).run P w = .ok (.value v) w' := by
    unfold execOp
    simp only [ho, resolve, invoke, builtin, Sem.run_bind, Sem.run_pure, Result.andThen_ok, List.map_toArray, List.map_cons, List.map_nil, hs, hx, hr]
  exact lands_value this hR
end Go.Proofs.Ytmmkmbinmmfblaa
