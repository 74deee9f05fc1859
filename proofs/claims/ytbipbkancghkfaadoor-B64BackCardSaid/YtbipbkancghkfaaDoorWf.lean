/- Three operations in a row in a region that draws; bytes appended where there is room. -/
import Derived.Test.YtbipbkancghkfaaDoorRi
import Derived.Test.YtbipbkancghkfaaDoorRg
import Derived.Test.YtbipbkancghkfaaDoorOb
namespace Go.Proofs.YtbipbkancghkfaaDoor
open Go.RowKit
section
variable {P : Program} {ops : Array Oper} {Q : Exit → Act → World → Prop} {md : Region.Mode}
/-- Does t wait for i, named among its own forerunners? -/
def direct (md : Region.Mode) (ops : Array Oper) (t i : Nat) : Bool := ((ops[t]?).map fun o => o.after.any fun e => Region.binds md e && e.on == i).getD false
theorem already {t i : Nat} {L : Array Bool} (hm : May md ops t L) (hd : direct md ops t i = true) : L.getD i false = true := by
  obtain ⟨_, o, ho, hall⟩ := mem_ready.1 hm.ready
  unfold direct at hd
  rw [ho] at hd
  obtain ⟨e, he, hb⟩ := Array.any_eq_true'.1 (show o.after.any _ = true from hd)
  simp only [Bool.and_eq_true, beq_iff_eq] at hb
  rw [← hb.2]
  exact hall e he hb.1
/-- The invariant hangs on three operations that come one behind the other. -/
def S3 (a b c : Nat) (U : Bool → Bool → Bool → World → Prop) (L : Array Bool) (w : World) : Prop := U (L.getD a false) (L.getD b false) (L.getD c false) w
variable {U : Bool → Bool → Bool → World → Prop} {p q r : Nat}
theorem y3_other {i : Nat} {o : Oper} {v : Value} {a : Act} (hp : i ≠ p) (hq : i ≠ q) (hr : i ≠ r) (hw : Region.wanted o (yielded ops a.tmps) = true)
    (h : ∀ f1 f2 f3 w, U f1 f2 f3 w → LandsR P (U f1 f2 f3) v ((execOp a.eval o).run P w)) : YieldsR P md ops (S3 p q r U) i o v a :=
  .inl ⟨hw, fun L w _ hS => by unfold S3 at *; rw [getD_set_ne false hp, getD_set_ne false hq, getD_set_ne false hr]; exact h _ _ _ w hS⟩
theorem y3_ahead {i n : Nat} {o : Oper} {v : Value} {a : Act} (hp : i ≠ p) (hq : i ≠ q) (hr : i ≠ r) (hb : waits md ops n r i = true) (hw : Region.wanted o (yielded ops a.tmps) = true)
    (h : ∀ f1 f2 w, U f1 f2 false w → LandsR P (U f1 f2 false) v ((execOp a.eval o).run P w)) : YieldsR P md ops (S3 p q r U) i o v a :=
  .inl ⟨hw, fun L w hm hS => by unfold S3 at *; rw [getD_set_ne false hp, getD_set_ne false hq, getD_set_ne false hr]; rw [not_yet hm hb] at hS ⊢; exact h _ _ w hS⟩
theorem y3_1 {n : Nat} {o : Oper} {v : Value} {a : Act} (hpq : p ≠ q) (hpr : p ≠ r) (h1 : waits md ops n q p = true) (h2 : waits md ops n r p = true) (hw : Region.wanted o (yielded ops a.tmps) = true)
    (h : ∀ w, U false false false w → LandsR P (U true false false) v ((execOp a.eval o).run P w)) : YieldsR P md ops (S3 p q r U) p o v a :=
  .inl ⟨hw, fun L w hm hS => by
    unfold S3 at *
    rw [hm.unlisted.2, getD_set_ne false hpq, getD_set_ne false hpr, not_yet hm h1, not_yet hm h2]
    rw [hm.unlisted.1, not_yet hm h1, not_yet hm h2] at hS
    exact h w hS⟩
theorem y3_2 {n : Nat} {o : Oper} {v : Value} {a : Act} (hqp : q ≠ p) (hqr : q ≠ r) (h1 : direct md ops q p = true) (h2 : waits md ops n r q = true) (hw : Region.wanted o (yielded ops a.tmps) = true)
    (h : ∀ w, U true false false w → LandsR P (U true true false) v ((execOp a.eval o).run P w)) : YieldsR P md ops (S3 p q r U) q o v a :=
  .inl ⟨hw, fun L w hm hS => by
    unfold S3 at *
    rw [hm.unlisted.2, getD_set_ne false hqp, getD_set_ne false hqr, already hm h1, not_yet hm h2]
    rw [hm.unlisted.1, already hm h1, not_yet hm h2] at hS
    exact h w hS⟩
theorem y3_3 {o : Oper} {v : Value} {a : Act} (hrp : r ≠ p) (hrq : r ≠ q) (h1 : direct md ops r p = true) (h2 : direct md ops r q = true) (hw : Region.wanted o (yielded ops a.tmps) = true)
    (h : ∀ w, U true true false w → LandsR P (U true true true) v ((execOp a.eval o).run P w)) : YieldsR P md ops (S3 p q r U) r o v a :=
  .inl ⟨hw, fun L w hm hS => by
    unfold S3 at *
    rw [hm.unlisted.2, getD_set_ne false hrp, getD_set_ne false hrq, already hm h1, already hm h2]
    rw [hm.unlisted.1, already hm h1, already hm h2] at hS
    exact h w hS⟩
end
theorem lands_append {P : Program} {R : World → Prop} {o : Oper} {a : Act} {w w' : World} {v : Value} (s x : Operand) (t : TypeId) (ho : o.op = Op.call { callee := Callee.builtin Builtin.append, args := #[s, x], argTypes := #[t, t] })
    {vs vx : Value} (hs : a.eval s = vs) (hx : a.eval x = vx) (hr : (Builtin.append_ #[t, t] o.type #[vs, vx]).run P w = .ok v w') (hR : R w') : Lands P R v ((execOp a.eval o).run P w) := by
  refine lands_value (w := w') ?_ hR
  simp [execOp, ho, resolve, invoke, builtin, hs, hx, hr, Result.andThen]
/-- n bytes by f in block g, with room for cap. -/
def CapRow (g cap : Nat) (f : Nat → Nat) (n : Nat) (w : World) : Prop :=
  w.ownsRow 0 5 1 (.slice (some ⟨g, 0, none⟩) n cap) n ((List.range n).map fun i => Value.int .u8 (f i : Int))
theorem CapRow.lt {g cap n : Nat} {f : Nat → Nat} {w : World} (h : CapRow g cap f n w) : g < w.heap.size := (World.ownsRow.lt h g rfl).2
theorem CapRow.kept {g cap n : Nat} {f : Nat → Nat} {w w' : World} (h : CapRow g cap f n w) (e : w'.heap[g]? = w.heap[g]?) : CapRow g cap f n w' := by
  refine ⟨h.1, ?_⟩
  rcases h.2 with ⟨hv, _⟩ | ⟨g', cap', cur, hv, hb, hg, rest⟩
  · cases hv
  · simp only [Value.slice.injEq, Option.some.injEq, Addr.mk.injEq, and_true, true_and] at hv
    obtain ⟨rfl, rfl⟩ := hv
    exact .inr ⟨g, cap, cur, rfl, hb, e.trans hg, rest⟩
theorem CapRow.below {g cap n B : Nat} {f : Nat → Nat} {w w' : World} (h : CapRow g cap f n w) (hb : Below B w w') (hg : g < B) : CapRow g cap f n w' := h.kept (hb.block g hg)
theorem CapRow.setFar {g cap n : Nat} {f : Nat → Nat} {w : World} (h : CapRow g cap f n w) {p : Addr} (hp : g ≠ p.block) (v : Value) : CapRow g cap f n (w.setCell p v) := h.kept (Below.heap_setCell w p v g hp)
/-- One byte more. -/
theorem CapRow.push {g cap n : Nat} {f : Nat → Nat} {w : World} (h : CapRow g cap f n w) (hn : n + 1 ≤ cap) {Z c : Nat} {z : Int} (hz : w.cell? ⟨Z, 0, none⟩ = some (.int .u8 z)) (hf : (f n : Int) = z) (ty : TypeId) :
    ∃ w', (Builtin.append_ #[35, 35] ty #[.slice (some ⟨g, 0, none⟩) n cap, .slice (some ⟨Z, 0, none⟩) 1 c]).run Tryd.prog w = .ok (.slice (some ⟨g, 0, none⟩) (n + 1) cap) w' ∧ CapRow g cap f (n + 1) w' ∧ w.grownBy w' (some g) := by
  obtain ⟨i0, hi, hz0, hz1, hz2⟩ := info_parts u8_infoO
  obtain ⟨w', h1, h2, h3⟩ := run_append_fits (P := Tryd.prog) w 0 35 ty 5 i0 1 Tryd.underlying35 hi hz1 g n cap _ h ⟨Z, 0, none⟩ 1 c [.int .u8 (f n : Int)] rfl
    (fun j u hu => by
      cases j with
      | zero => simp at hu; subst hu; rw [addr_add, Nat.zero_add, hf]; exact hz
      | succ j => simp at hu) (fun u hu => by simp at hu; subst hu; rfl) hn
  refine ⟨w', h1, ?_, h3⟩
  unfold CapRow
  rw [List.range_succ, List.map_append]
  exact h2
theorem CapRow.text {g cap n : Nat} {f : Nat → Nat} {w : World} (h : CapRow g cap f n w) (hf : ∀ i, f i < 256) : (convert 35 9 (.slice (some ⟨g, 0, none⟩) n cap)).run Tryd.prog w = .ok (.string (textN n f)) w :=
  OB.text (B := 0) (w0 := w) ⟨h, Below.refl _ _, Nat.zero_le _⟩ hf
end Go.Proofs.YtbipbkancghkfaaDoor
