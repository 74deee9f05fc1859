/- A region that draws its order, inside a fence that asks nothing (the plain one, or a round's of a range over a function): Reg's law, with calls of yield among the operations; what is proved plainly serves there too. -/
import Derived.Test.YtkbjgaobhbiieaaMA
import Derived.OrdersIn
import Derived.TacticsInMore
import Derived.OwnWalkIn
import Derived.RegionIn
import Derived.LoopIn
import Derived.LoopNIn
import Derived.RangeFuncLeaves
import Derived.RangeFuncRecord
import Derived.RangeFuncOwn
import Derived.RangeFuncKeeps
namespace Go.Proofs.Ytkbjgaobhbiieaa
open Go.RowKit
/-- The fence that asks nothing; in a round's frame where ro is a loop's record. -/
abbrev WR (ro : Option Nat) : Fence := { Fence.wide with round := ro }
theorem calls_wr {ro : Option Nat} {P : Program} {f : FuncId} {args : Array Value} {w : World} {R : Ending → World → Prop} (h : Calls P f args w R) : CallsIn (WR ro) 0 P f args w R := (callsIn_wide (n := 0)).2 h
theorem calls_of_wr {ro : Option Nat} {P : Program} {f : FuncId} {args : Array Value} {w : World} {R : Ending → World → Prop} (h : CallsIn (WR ro) 0 P f args w R) : Calls P f args w R := (callsIn_wide (n := 0)).1 h
def noDefer (ops : Array Oper) : Bool := ops.all fun o => match o.op with | .defer _ => false | _ => true
theorem noDefer_spec {ops : Array Oper} (h : noDefer ops = true) (j : Nat) (o : Oper) (c : Call) (ho : ops[j]? = some o) : o.op ≠ .defer c := by
  intro e
  have h1 := Array.all_eq_true_iff_forall_mem.1 h o (Array.mem_of_getElem? ho)
  simp [e] at h1
section
variable {P : Program} {ops : Array Oper} {Q : Exit → Act → World → Prop} {md : Region.Mode} {S : Array Bool → World → Prop} {ro : Option Nat}
/-- What an operation comes to: it yields v, and the world keeps R. -/
def LandsR (P : Program) (R : World → Prop) (v : Value) : Result Next → Prop
  | .ok (.value u) w' => u = v ∧ R w'
  | .ok .skip w' => v = undef ∧ R w'
  | .ok (.enter f args) w' => Calls P f args w' fun e w'' => e = .returned v ∧ R w''
  | .ok (.round l f ts s b) w' => RoundIn Fence.wide 0 P l f ts s b w' fun e w'' => e = .returned v ∧ R w''
  | _ => False
theorem Lands.r {R : World → Prop} {v : Value} {r : Result Next} (h : Lands P R v r) : LandsR P R v r := by
  cases r with
  | ok n w' => cases n <;> first | exact h | exact h.elim
  | halt x w' => exact h.elim
theorem LandsR.upon {R : World → Prop} {o : Oper} {a : Act} {v : Value} {r : Result Next} {K : Act → World → Prop} (h : LandsR P R v r) (hK : ∀ w', R w' → K (a.put o.dst v) w') : o.uponIn (WR ro) 0 P a K Q r := by
  cases r with
  | ok n w' =>
    cases n with
    | value u => obtain ⟨rfl, hS⟩ := h; exact hK _ hS
    | skip => obtain ⟨rfl, hS⟩ := h; exact hK _ hS
    | enter f args =>
      refine ⟨(fun hh => by cases hh), ?_⟩
      refine (calls_wr h).mono ?_
      rintro e w'' ⟨rfl, hS⟩
      exact hK _ hS
    | round l f ts s b =>
      refine ⟨(fun hh => by cases hh), ?_⟩
      refine (show RoundIn (WR ro) 0 P l f ts s b w' _ from h).mono ?_
      rintro e w'' ⟨rfl, hS⟩
      exact hK _ hS
    | _ => exact h.elim
  | halt x w' => exact h.elim
def YieldsR (P : Program) (md : Region.Mode) (ops : Array Oper) (S : Array Bool → World → Prop) (i : Nat) (o : Oper) (v : Value) (a : Act) : Prop :=
  (Region.wanted o (yielded ops a.tmps) = true ∧ ∀ L w, May md ops i L → S L w → LandsR P (S (L.setIfInBounds i true)) v ((execOp a.eval o).run P w)) ∨
  (Region.wanted o (yielded ops a.tmps) = false ∧ v = undef ∧ ∀ L w, May md ops i L → S L w → S (L.setIfInBounds i true) w)
theorem YieldsR.of_same {i : Nat} {o : Oper} {v : Value} {a a' : Act} (hy : YieldsR P md ops S i o v a) (he : execOp a'.eval o = execOp a.eval o)
    (hw : Region.wanted o (yielded ops a'.tmps) = Region.wanted o (yielded ops a.tmps)) : YieldsR P md ops S i o v a' := by
  unfold YieldsR at *
  rw [he, hw]
  exact hy
theorem YieldsR.wpOp {i : Nat} {o : Oper} {v : Value} {a : Act} (hi : ops[i]? = some o) (hnd : ∀ c, o.op ≠ .defer c) (hy : YieldsR P md ops S i o v a) {L : Array Bool} (hm : May md ops i L)
    {K : Act → World → Prop} {w : World} (hS : S L w) (h : ∀ w', S (L.setIfInBounds i true) w' → K (a.put o.dst v) w') : wpOpIn (WR ro) 0 P ops Q i K a w := by
  unfold Go.wpOpIn
  simp only [hi]
  rcases hy with ⟨hw, hv⟩ | ⟨hw, rfl, hv⟩
  · simp only [hw, if_true]
    refine ⟨fun _ _ => trivial, ?_⟩
    rw [Oper.semAt_eq _ _ _ hnd]
    exact (hv L w hm hS).upon h
  · simp only [hw, Bool.false_eq_true, if_false]; exact ⟨fun _ _ => trivial, h _ (hv L w hm hS)⟩
/-- Whatever order, with S kept. -/
def anyR (P : Program) (md : Region.Mode) (ops : Array Oper) (Q : Exit → Act → World → Prop) (S : Array Bool → World → Prop) : Nat → Array Bool → Act → Prop
  | 0, listed, a => Region.ready md ops listed = [] ∧ ∀ w, S listed w → Q .normal a w
  | fuel + 1, listed, a =>
    (Region.ready md ops listed = [] → ∀ w, S listed w → Q .normal a w) ∧
    ∀ i ∈ Region.ready md ops listed, ∃ o v, ops[i]? = some o ∧ YieldsR P md ops S i o v a ∧ anyR P md ops Q S fuel (listed.setIfInBounds i true) (a.put o.dst v)
theorem YieldsR.put {i : Nat} {oi oj : Oper} {v u : Value} {a : Act} (hap : oi.apart ops oj = true) (hsi : ∀ cs b, oi.op ≠ .select cs b) (hy : YieldsR P md ops S i oi v a) : YieldsR P md ops S i oi v (a.put oj.dst u) := by
  obtain ⟨_, _, h3⟩ := Oper.apart_spec hap
  exact hy.of_same (execOp_put oi hsi a oj.dst u h3) (wanted_put oi a oj.dst u h3)
theorem YieldsR.unput {j : Nat} {oi oj : Oper} {v u : Value} {a : Act} (hap : oi.apart ops oj = true) (hsj : ∀ cs b, oj.op ≠ .select cs b) (hy : YieldsR P md ops S j oj u (a.put oi.dst v)) : YieldsR P md ops S j oj u a := by
  obtain ⟨h1, _, _⟩ := Oper.apart_spec hap
  exact hy.of_same (execOp_put oj hsj a oi.dst v h1).symm (wanted_put oj a oi.dst v h1).symm
theorem anyR_first {i : Nat} {oi : Oper} {v : Value} (hi : ops[i]? = some oi) (hsel : ∀ (j : Nat) (o : Oper) cs b, ops[j]? = some o → o.op ≠ .select cs b) :
    ∀ (fuel : Nat) (listed : Array Bool) (a : Act),
      (∀ j oj, ops[j]? = some oj → j ≠ i → listed.getD j true = false → (∀ e ∈ oj.after, Region.binds md e = true → e.on ≠ i) → oi.apart ops oj = true) →
      i ∈ Region.ready md ops listed → YieldsR P md ops S i oi v a →
      anyR P md ops Q S fuel (listed.setIfInBounds i true) (a.put oi.dst v) → anyR P md ops Q S (fuel + 1) listed a := by
  intro fuel
  induction fuel with
  | zero =>
    intro listed a _ hr hy H
    refine ⟨fun h => (by rw [h] at hr; cases hr), fun j hj => ?_⟩
    by_cases hji : j = i
    · subst hji; exact ⟨oi, v, hi, hy, H⟩
    · have := ready_mono hj hji
      rw [H.1] at this
      cases this
  | succ fuel ih =>
    intro listed a hfree hr hy H
    refine ⟨fun h => (by rw [h] at hr; cases hr), fun j hj => ?_⟩
    by_cases hji : j = i
    · subst hji; exact ⟨oi, v, hi, hy, H⟩
    · obtain ⟨oj, u, hoj, h1, h2⟩ := H.2 j (ready_mono hj hji)
      obtain ⟨hjun, oj', hoj', hall⟩ := mem_ready.1 hj
      obtain rfl : oj = oj' := by rw [hoj] at hoj'; cases hoj'; rfl
      have hnot : ∀ e ∈ oj.after, Region.binds md e = true → e.on ≠ i := fun e he hb heq => by
        have h1 := hall e he hb
        have h0 := (mem_ready.1 hr).1
        rw [heq] at h1
        rcases Nat.lt_or_ge i listed.size with h' | h'
        · simp [h'] at h0 h1; rw [h0] at h1; cases h1
        · simp [Array.getElem?_eq_none h'] at h1
      have hap := hfree j oj hoj hji hjun hnot
      have hfree' : ∀ k ok, ops[k]? = some ok → k ≠ i → (listed.setIfInBounds j true).getD k true = false →
          (∀ e ∈ ok.after, Region.binds md e = true → e.on ≠ i) → oi.apart ops ok = true := fun k ok hk hki hun hno => by
        refine hfree k ok hk hki ?_ hno
        by_cases hjk : j = k
        · subst hjk; exact hjun
        · rw [getD_set_ne true hjk] at hun; exact hun
      refine ⟨oj, u, hoj, h1.unput hap (fun cs b => hsel j oj cs b hoj), ?_⟩
      refine ih (listed.setIfInBounds j true) _ hfree' (ready_mono hr (Ne.symm hji)) (hy.put hap (fun cs b => hsel i oi cs b hi)) ?_
      rw [Array.setIfInBounds_comm _ _ hji, ← Act.put_comm a v u (Oper.apart_spec hap).2.1]
      exact h2
theorem anyR_sound (hnd : ∀ (j : Nat) o c, ops[j]? = some o → o.op ≠ .defer c) : ∀ (fuel : Nat) (listed : Array Bool) (a : Act), listed.size = ops.size → Closed md ops listed → anyR P md ops Q S fuel listed a → ∀ w, S listed w → wpAnyIn (WR ro) 0 P md ops Q fuel listed a w
  | 0, _, _, _, _, h, w, hS => ⟨h.1, h.2 w hS⟩
  | fuel + 1, listed, a, hs, hc, h, w, hS =>
    ⟨fun h0 => h.1 h0 w hS, fun j hj => by
      obtain ⟨o, v, ho, hy, H⟩ := h.2 j hj
      exact hy.wpOp ho (fun c => hnd j o c ho) ⟨hs, hc, hj⟩ hS fun w' hS' => anyR_sound hnd fuel _ _ (by simpa using hs) (hc.set hj) H w' hS'⟩
/-! The moves. -/
theorem anyR_take {i : Nat} {oi : Oper} {r : List Oper} {v : Value} {fuel : Nat} {listed : Array Bool} {a : Act} (hi : ops.toList.drop i = oi :: r)
    (hs : Region.noSelect ops = true) (hf : Region.free md ops listed i = true) (hr : (Region.ready md ops listed).contains i = true)
    (hy : YieldsR P md ops S i oi v a)
    (h : anyR P md ops Q S fuel (listed.setIfInBounds i true) (a.put oi.dst v)) : anyR P md ops Q S (fuel + 1) listed a :=
  anyR_first (at_drop hi) (Region.noSelect_spec hs) fuel listed a (Region.free_spec (at_drop hi) hf) (by simpa using hr) hy h
theorem anyR_done {listed : Array Bool} {a : Act} (hr : Region.ready md ops listed = []) (h : ∀ w, S listed w → Q .normal a w) : ∀ fuel, anyR P md ops Q S fuel listed a
  | 0 => ⟨hr, h⟩
  | _ + 1 => ⟨fun _ => h, by rw [hr]; simp⟩
/-- The beginning. -/
theorem wpIn_region_anyR {id : Nat} {a : Act} {w : World} (S : Array Bool → World → Prop) (hm : P.follows .mixedOrders = true) (hnd : noDefer ops = true) (hS : S (Array.replicate ops.size false) w.drew)
    (h : anyR P .any ops Q S ops.size (Array.replicate ops.size false) a) : (Code.region id ops true).wpIn (WR ro) 0 P Q a w :=
  wpIn_region_any hm (anyR_sound (noDefer_spec hnd) _ _ _ (by simp) Closed.start h _ hS)
/-! The invariant hangs on whether two operations (stores) have come up. -/
variable {T : Bool → Bool → World → Prop} {s t : Nat}
theorem yr_other {i : Nat} {o : Oper} {v : Value} {a : Act} (hs : i ≠ s) (ht : i ≠ t) (hw : Region.wanted o (yielded ops a.tmps) = true)
    (h : ∀ b c w, T b c w → LandsR P (T b c) v ((execOp a.eval o).run P w)) : YieldsR P md ops (Two s t T) i o v a :=
  .inl ⟨hw, fun L w _ hS => by unfold Two at *; rw [getD_set_ne false hs, getD_set_ne false ht]; exact h _ _ w hS⟩
theorem yr_skip {i : Nat} {o : Oper} {a : Act} (hs : i ≠ s) (ht : i ≠ t) (hw : Region.wanted o (yielded ops a.tmps) = false) : YieldsR P md ops (Two s t T) i o undef a :=
  .inr ⟨hw, rfl, fun L w _ hS => by unfold Two at *; rw [getD_set_ne false hs, getD_set_ne false ht]; exact hS⟩
/-- Number i comes ahead of s. -/
theorem yr_ahead {i n : Nat} {o : Oper} {v : Value} {a : Act} (hs : i ≠ s) (ht : i ≠ t) (hb : waits md ops n s i = true) (hw : Region.wanted o (yielded ops a.tmps) = true)
    (h : ∀ c w, T false c w → LandsR P (T false c) v ((execOp a.eval o).run P w)) : YieldsR P md ops (Two s t T) i o v a :=
  .inl ⟨hw, fun L w hm hS => by unfold Two at *; rw [getD_set_ne false hs, getD_set_ne false ht]; rw [not_yet hm hb] at hS ⊢; exact h _ w hS⟩
/-- Number i comes ahead of s and of t. -/
theorem yr_ahead2 {i n : Nat} {o : Oper} {v : Value} {a : Act} (hs : i ≠ s) (ht : i ≠ t) (hb : waits md ops n s i = true) (hb2 : waits md ops n t i = true) (hw : Region.wanted o (yielded ops a.tmps) = true)
    (h : ∀ w, T false false w → LandsR P (T false false) v ((execOp a.eval o).run P w)) : YieldsR P md ops (Two s t T) i o v a :=
  .inl ⟨hw, fun L w hm hS => by unfold Two at *; rw [getD_set_ne false hs, getD_set_ne false ht]; rw [not_yet hm hb, not_yet hm hb2] at hS ⊢; exact h w hS⟩
theorem yr_first {o : Oper} {v : Value} {a : Act} (hne : s ≠ t) (hw : Region.wanted o (yielded ops a.tmps) = true)
    (h : ∀ c w, T false c w → LandsR P (T true c) v ((execOp a.eval o).run P w)) : YieldsR P md ops (Two s t T) s o v a :=
  .inl ⟨hw, fun L w hm hS => by unfold Two at *; rw [hm.unlisted.2, getD_set_ne false hne]; rw [hm.unlisted.1] at hS; exact h _ w hS⟩
theorem yr_second {o : Oper} {v : Value} {a : Act} (hne : t ≠ s) (hw : Region.wanted o (yielded ops a.tmps) = true)
    (h : ∀ b w, T b false w → LandsR P (T b true) v ((execOp a.eval o).run P w)) : YieldsR P md ops (Two s t T) t o v a :=
  .inl ⟨hw, fun L w hm hS => by unfold Two at *; rw [hm.unlisted.2, getD_set_ne false hne]; rw [hm.unlisted.1] at hS; exact h _ w hS⟩
theorem landsr_round {R : World → Prop} {v : Value} {r : Result Next} {w : World} {l : Nat} {f : FuncId} {ts : Array Value} {sg b : Code} (hc : RoundIn Fence.wide 0 P l f ts sg b w fun e w' => e = .returned v ∧ R w') (h : r = .ok (.round l f ts sg b) w) : LandsR P R v r := by subst h; exact hc
/-- Number i comes ahead of t. -/
theorem yr_before {i n : Nat} {o : Oper} {v : Value} {a : Act} (hs : i ≠ s) (ht : i ≠ t) (hb : waits md ops n t i = true) (hw : Region.wanted o (yielded ops a.tmps) = true)
    (h : ∀ b w, T b false w → LandsR P (T b false) v ((execOp a.eval o).run P w)) : YieldsR P md ops (Two s t T) i o v a :=
  .inl ⟨hw, fun L w hm hS => by unfold Two at *; rw [getD_set_ne false hs, getD_set_ne false ht]; rw [not_yet hm hb] at hS ⊢; exact h _ w hS⟩
/-! A region in Go's own order: what is proved plainly serves. -/
theorem oper_in {o : Oper} {a : Act} {w : World} {K : Act → World → Prop} (hnd : ∀ c, o.op ≠ .defer c) (hrow : ∀ row args w', (execOp a.eval o).run P w ≠ .ok (.row row args) w') (h : o.wp P a w K Q) : o.wpIn (WR ro) 0 P a w K Q := by
  refine ⟨fun _ _ => trivial, ?_⟩
  rw [Oper.semAt_eq _ _ _ hnd]
  unfold Oper.wp at h
  generalize (execOp a.eval o).run P w = r at *
  cases r with
  | ok x w' =>
    cases x with
    | row r args => exact absurd rfl (hrow _ _ _)
    | enter f args => exact ⟨(fun hh => by cases hh), calls_wr h⟩
    | _ => first | exact h | exact h.elim
  | halt x w' => cases x <;> simp only [Oper.upon, Oper.uponIn] at h ⊢ <;> first | exact h | exact h.elim
end
end Go.Proofs.Ytkbjgaobhbiieaa
/- A range over a function that hands on more than one value: rounds that never leave (as Rg, of one value). -/
namespace Go.Proofs.Ytkbjgaobhbiieaa
open Go.RowKit
/-- What lay from B on lies as it lay. -/
structure Upward (B : Nat) (w w' : World) : Prop where
  size : w.heap.size ≤ w'.heap.size
  block : ∀ k, B ≤ k → k < w.heap.size → w'.heap[k]? = w.heap[k]?
theorem Upward.refl (B : Nat) (w : World) : Upward B w w := ⟨Nat.le_refl _, fun _ _ _ => rfl⟩
theorem Upward.trans {B : Nat} {a b c : World} (h : Upward B a b) (k : Upward B b c) : Upward B a c :=
  ⟨Nat.le_trans h.size k.size, fun i hi hl => (k.block i hi (by have := h.size; omega)).trans (h.block i hi hl)⟩
theorem Upward.mono {B C : Nat} {a b : World} (h : Upward B a b) (hBC : B ≤ C) : Upward C a b := ⟨h.size, fun k hk hl => h.block k (by omega) hl⟩
theorem Upward.obj {B k : Nat} {a b : World} {o : Obj} (h : Upward B a b) (hk : B ≤ k) (ho : a.heap[k]? = some o) : b.heap[k]? = some o := (h.block k hk (Array.getElem?_eq_some_iff.1 ho).1).trans ho
theorem Upward.alloc (B : Nat) (w : World) (o : Obj) : Upward B w (w.alloc o) := ⟨by simp, fun k _ hk => Below.heap_alloc w o k hk⟩
theorem Upward.drew (B : Nat) (w : World) : Upward B w w.drew := ⟨Nat.le_refl _, fun _ _ _ => rfl⟩
theorem Upward.setCell {B : Nat} (w : World) (p : Addr) (v : Value) (h : p.block < B) : Upward B w (w.setCell p v) :=
  ⟨(KeepsWalks.setCell w p v).size, fun k hk _ => Below.heap_setCell w p v k (by omega)⟩
theorem Upward.putObj {B : Nat} (w : World) (l : Nat) (o : Obj) (h : l < B) : Upward B w (w.putObj l o) :=
  ⟨by simp, fun k hk _ => World.putObj_heap_other (by omega)⟩
theorem Upward.grown {B : Nat} {w w' : World} {row : Option Nat} (hg : w.grownBy w' row) (h : ∀ r, row = some r → r < B) : Upward B w w' :=
  ⟨hg.size, fun k hk hl => hg.block k hl fun e => by have := h k e.symm; omega⟩
theorem below_putObj {B : Nat} {W : World} {l : Nat} {o : Obj} (o' : Obj) (h : W.heap[l]? = some o) (hB : B ≤ l) : Below B W (W.putObj l o') :=
  (Below.refl B W).grown (grownBy_putObj' W l o') (by have := (Array.getElem?_eq_some_iff.1 h).1; omega) (fun k e => by cases e; exact hB)
theorem below_objK {B k : Nat} {a b : World} {o : Obj} (h : Below B a b) (hk : k < B) (ho : a.heap[k]? = some o) : b.heap[k]? = some o := (h.block k hk).trans ho
/-- The contract of an iterator's value: enc 0, enc 1 .. come, N of them. Cap: what it has captured lies as it lay. -/
def Gives2 (P : Program) (g : Nat) (lb : Array Value) (Cap : World → Prop) (N : Nat) (enc : Nat → Array Value) : Prop :=
  ∀ (l : Nat) (J : Nat → World → Prop) (W : World), Cap W →
    (∀ i A C, J i A → W.heap.size ≤ A.heap.size → Below W.heap.size A C → J i C) →
    (∀ i W1, i < N → J i W1 → Cap W1 → W.heap.size ≤ W1.heap.size → YieldAt Fence.wide 0 P l (enc i) W1 fun e W' => e = .returned (.bool true) ∧ J (i + 1) W' ∧ Cap W' ∧ Upward W.heap.size W1 W') →
    J 0 W → CallsIn Fence.wide 0 P g (#[.func (.yield l) #[] #[]] ++ lb) W fun e W' => (∃ v, e = .returned v) ∧ J N W' ∧ Cap W' ∧ W.heap.size ≤ W'.heap.size
/-- How a round ends: it goes on. -/
def endR (I : Nat → World → Prop) (Cap : World → Prop) (B i : Nat) (W : World) : Exit → Act → World → Prop
  | .normal, _, W' => I (i + 1) W' ∧ Cap W' ∧ Upward B W W'
  | _, _, _ => False
theorem wpIn_range2 {P : Program} {g : Operand} {ps : Array Tmp} {assign body : Code} {Q : Exit → Act → World → Prop} {a : Act} {w : World}
    {gf : Nat} {lb : Array Value} (hg : a.eval g = .func (.func gf) #[] lb) (eg : ∀ args w, (callFunc gf args).run P w = .ok (.enter gf args) w)
    {Cap : World → Prop} {N : Nat} {enc : Nat → Array Value} (hseq : Gives2 P gf lb Cap N enc) (hps : ∀ i, (enc i).size = ps.size)
    (I : Nat → World → Prop) (hI : ∀ i A C, I i A → w.heap.size ≤ A.heap.size → Below w.heap.size A C → I i C)
    (hcap : Cap w) (hCst : ∀ A C, Cap A → Below w.heap.size A C → Cap C) (h0 : I 0 w) (a₁ : Nat → Act)
    (hassign : ∀ (l i : Nat) (W : World) (K : Act → World → Prop), K (a₁ i) W →
      assign.wpIn (Fence.wide.inRound l) 0 P (Exit.then K (fun _ _ _ => False)) { tmps := (ps.zip (enc i)).foldl (fun t (p, v) => t.setIfInBounds p v) a.tmps, defers := [] } W)
    (hbody : ∀ (l i : Nat) (W : World), i < N → I i W → Cap W → w.heap.size ≤ W.heap.size → body.wpIn (Fence.wide.inRound l) 0 P (endR I Cap w.heap.size i W) (a₁ i) W)
    (hdone : ∀ (D : Nat) (W : World), w.heap.size ≤ D → I N W → Cap W → W.heap[D]? = some (.deferred (some [])) → Q .normal { a with defers := { target := .collected D, args := #[] } :: a.defers } W) :
    (Code.rangeFunc g ps assign body).wpIn Fence.wide 0 P Q a w := by
  refine wpIn_rangeFunc ?_
  intro fn hfn
  obtain ⟨rec, hrec⟩ : ∃ rec : LoopState → Option Code → Loop, rec = fun st pe => { state := st, pending := pe, fn, tmps := a.tmps, params := ps, assign, body, defers := w.heap.size } := ⟨_, rfl⟩
  obtain ⟨W1, hW1⟩ : ∃ W1, (w.alloc (.deferred (some []))).alloc (.loop (rec .ready none)) = W1 := ⟨_, rfl⟩
  have hz1 : W1.heap.size = w.heap.size + 2 := by rw [← hW1]; simp
  have hL1 : W1.heap[w.heap.size + 1]? = some (.loop (rec .ready none)) := by
    rw [← hW1]; have := World.alloc_heap_new (w.alloc (.deferred (some []))) (.loop (rec .ready none)); rwa [World.size_alloc] at this
  have hK1 : W1.heap[w.heap.size]? = some (.deferred (some [])) := by
    rw [← hW1]; exact (Below.heap_alloc _ _ _ (by simp)).trans (World.alloc_heap_new w _)
  have hb1 : Below w.heap.size w W1 := by
    rw [← hW1]; exact ((Below.refl _ w).alloc (Nat.le_refl _) _).alloc (by simp) _
  refine ⟨w.heap.size + 1, [{ target := .collected w.heap.size, args := #[] }], W1, { target := .fn (.func gf) lb, args := #[.func (.yield (w.heap.size + 1)) #[] #[]] }, W1, gf,
    #[.func (.yield (w.heap.size + 1)) #[] #[]] ++ lb, W1, ?_, ?_, fun _ _ => trivial, ?_, (fun h => by cases h), ?_⟩
  · rw [← hW1, hrec]; exact run_enterLoop_outer _ _ _ _ _
  · simp only [resolve, hg]
    simp [go_sem]
  · simp [invoke, go_sem, eg]
  · refine (hseq (w.heap.size + 1) (fun i W => I i W ∧ W.heap[w.heap.size + 1]? = some (.loop (rec .ready none)) ∧ W.heap[w.heap.size]? = some (.deferred (some []))) W1 (hCst _ _ hcap hb1) ?_ ?_
      ⟨hI _ _ _ h0 (Nat.le_refl _) hb1, hL1, hK1⟩).mono ?_
    · rintro i A C ⟨h1, h2, h3⟩ hle hb
      exact ⟨hI _ _ _ h1 (by omega) (hb.mono (by omega)), below_objK hb (by omega) h2, below_objK hb (by omega) h3⟩
    · rintro i W hi ⟨h1, h2, h3⟩ hc hle
      have hlt : w.heap.size + 1 < W.heap.size := (Array.getElem?_eq_some_iff.1 h2).1
      have hy := run_yield (P := P) (args := (enc i)) h2 (by rw [hrec]; exact (hps i))
      rw [hrec] at hy
      refine ⟨fn, _, assign, body, hy, roundIn_of_wpIn (F := Fence.wide) trivial (hassign _ i W _ ⟨_, run_beginRound h2 (by rw [hrec]), ?_⟩)⟩
      have b2 : Below w.heap.size W (W.putObj (w.heap.size + 1) (.loop { rec .ready none with state := .busy })) := below_putObj _ h2 (by omega)
      have hl2 : (W.putObj (w.heap.size + 1) (.loop { rec .ready none with state := .busy })).heap[w.heap.size + 1]? = some (.loop { rec .ready none with state := .busy }) := World.putObj_heap_same hlt
      have hk2 : (W.putObj (w.heap.size + 1) (.loop { rec .ready none with state := .busy })).heap[w.heap.size]? = some (.deferred (some [])) := (World.putObj_heap_other (by omega)).trans h3
      have u2 : Upward W1.heap.size W (W.putObj (w.heap.size + 1) (.loop { rec .ready none with state := .busy })) := Upward.putObj _ _ _ (by omega)
      refine wpIn_mono (hbody _ i _ hi (hI _ _ _ h1 (by omega) b2) (hCst _ _ hc b2) (by simp; omega)) ?_
      rintro e a3 W3 hp
      cases e with
      | normal =>
        obtain ⟨hi3, hc3, hu3⟩ := hp
        have hl3 := hu3.obj (by omega) hl2
        have hk3 := hu3.obj (by omega) hk2
        have hlt3 := (Array.getElem?_eq_some_iff.1 hl3).1
        have hr := run_endRound (P := P) none hl3
        have b4 : Below w.heap.size W3 (W3.putObj (w.heap.size + 1) (.loop (rec .ready none))) := below_putObj _ hl3 (by omega)
        refine ⟨.bool true, W3.putObj (w.heap.size + 1) (.loop (rec .ready none)), ?_, rfl, ⟨hI _ _ _ hi3 (by omega) b4, World.putObj_heap_same hlt3, (World.putObj_heap_other (by omega)).trans hk3⟩, hCst _ _ hc3 b4, (u2.trans (hu3.mono (by omega))).trans (Upward.putObj _ _ _ (by omega))⟩
        rw [hrec] at hr ⊢
        exact hr
      | _ => exact hp.elim
    · rintro e W2 ⟨⟨v, rfl⟩, ⟨h1, h2, h3⟩, hc, hle⟩
      have b5 : Below w.heap.size W2 (W2.putObj (w.heap.size + 1) (.loop { rec .ready none with state := .exhausted })) := below_putObj _ h2 (by omega)
      refine ⟨none, _, ?_, hdone w.heap.size _ (Nat.le_refl _) (hI _ _ _ h1 (by omega) b5) (hCst _ _ hc b5) ((World.putObj_heap_other (by omega)).trans h3)⟩
      have := run_endLoop (P := P) h2 (by rw [hrec]; simp)
      rw [hrec] at this ⊢
      exact this
end Go.Proofs.Ytkbjgaobhbiieaa
/- A range over a function whose rounds may leave the loop by a jump; a round may write a list that grew in the loop. -/
namespace Go.Proofs.Ytkbjgaobhbiieaa
open Go.RowKit
/-- The contract of an iterator's value: it hands on enc 0, enc 1 .. as long as there is one. A: the world where the round began; what came since then is kept by the round. -/
def GivesL (P : Program) (g : Nat) (lb : Array Value) (Cap : World → Prop) (live : Nat → Prop) (enc : Nat → Array Value) : Prop :=
  ∀ (l : Nat) (J : Nat → World → Prop) (Jx : World → Prop) (W : World), Cap W →
    (∀ i A C, J i A → Below A.heap.size A C → J i C) → (∀ A C, Jx A → Below A.heap.size A C → Jx C) →
    (∀ i A W1, live i → J i A → Cap A → Below A.heap.size A W1 → YieldAt Fence.wide 0 P l (enc i) W1 fun e W' =>
      (e = .returned (.bool true) ∧ J (i + 1) W' ∧ Cap W' ∧ Upward A.heap.size W1 W') ∨ (e = .returned (.bool false) ∧ Jx W')) →
    J 0 W → CallsIn Fence.wide 0 P g (#[.func (.yield l) #[] #[]] ++ lb) W fun e W' => (∃ v, e = .returned v) ∧ ((∃ i, ¬ live i ∧ J i W') ∨ Jx W')
/-- How a round ends: it goes on, or it leaves by the jump out of block x. -/
def endL (I : Nat → World → Prop) (Ix : World → Prop) (Cap : World → Prop) (x D B i : Nat) (W : World) : Exit → Act → World → Prop
  | .normal, _, W' => I (i + 1) W' ∧ Cap W' ∧ Upward B W W' ∧ W'.heap[D]? = W.heap[D]? ∧ W'.heap[D + 1]? = W.heap[D + 1]?
  | .exit y, _, W' => y = x ∧ Ix W' ∧ W'.heap[D]? = W.heap[D]? ∧ W'.heap[D + 1]? = W.heap[D + 1]?
  | _, _, _ => False
theorem below_putBoth {A W : World} (h : Below A.heap.size A W) (l : Nat) (o : Obj) : Below (A.putObj l o).heap.size (A.putObj l o) (W.putObj l o) := by
  refine ⟨h.os, h.tape, h.output, by simp; exact h.size, fun k hk => ?_⟩
  rw [World.putObj_size] at hk
  have hk2 := Nat.lt_of_lt_of_le hk h.size
  by_cases e : k = l
  · subst e; rw [World.putObj_heap_same hk, World.putObj_heap_same hk2]
  · rw [World.putObj_heap_other e, World.putObj_heap_other e]; exact h.block k hk
theorem wpIn_range3 {P : Program} {g : Operand} {ps : Array Tmp} {assign body : Code} {Q : Exit → Act → World → Prop} {a : Act} {w : World}
    {gf : Nat} {lb : Array Value} (hg : a.eval g = .func (.func gf) #[] lb) (eg : ∀ args w, (callFunc gf args).run P w = .ok (.enter gf args) w)
    {Cap : World → Prop} {live : Nat → Prop} {enc : Nat → Array Value} (hseq : GivesL P gf lb Cap live enc) (hps : ∀ i, (enc i).size = ps.size)
    (I : Nat → World → Prop) (Ix : World → Prop) (x : Nat)
    (hI : ∀ i A C, I i A → Below A.heap.size A C → I i C) (hIp : ∀ i A l r o, I i A → w.heap.size ≤ l → A.heap[l]? = some (.loop r) → I i (A.putObj l o))
    (hX : ∀ A C, Ix A → Below A.heap.size A C → Ix C) (hXp : ∀ A l r o, Ix A → w.heap.size ≤ l → A.heap[l]? = some (.loop r) → Ix (A.putObj l o))
    (hcap : Cap w) (hC : ∀ A C, Cap A → Below A.heap.size A C → Cap C) (hCp : ∀ A l r o, Cap A → A.heap[l]? = some (.loop r) → Cap (A.putObj l o)) (h0 : I 0 w)
    (Ax : Nat → Nat → Act → World → Prop) (hAx : ∀ i q a A l o, l < q → Ax i q a A → Ax i q a (A.putObj l o))
    (hassign : ∀ (l i : Nat) (W : World) (K : Act → World → Prop), live i → (∀ a' W', Below W.heap.size W W' → Ax i W.heap.size a' W' → K a' W') →
      assign.wpIn (Fence.wide.inRound l) 0 P (Exit.then K (fun _ _ _ => False)) { tmps := (ps.zip (enc i)).foldl (fun t (p, v) => t.setIfInBounds p v) a.tmps, defers := [] } W)
    (hbody : ∀ (l i q : Nat) (A W : World) (a' : Act) (r : Loop) (d : Option (List Deferred)), live i → I i A → Cap A → w.heap.size + 2 ≤ A.heap.size → A.heap.size ≤ q → Below A.heap.size A W → Ax i q a' W →
      W.heap[w.heap.size]? = some (.deferred d) → W.heap[w.heap.size + 1]? = some (.loop r) → body.wpIn (Fence.wide.inRound l) 0 P (endL I Ix Cap x w.heap.size A.heap.size i W) a' W)
    (hdone : ∀ (D i : Nat) (W : World), ¬ live i → I i W → W.heap[D]? = some (.deferred (some [])) → w.heap.size ≤ D → Q .normal { a with defers := { target := .collected D, args := #[] } :: a.defers } W)
    (hstop : ∀ (D : Nat) (W : World), Ix W → W.heap[D]? = some (.deferred (some [])) → w.heap.size ≤ D → (Code.exit x).wpIn Fence.wide 0 P Q { a with defers := { target := .collected D, args := #[] } :: a.defers } W) :
    (Code.rangeFunc g ps assign body).wpIn Fence.wide 0 P Q a w := by
  refine wpIn_rangeFunc ?_
  intro fn hfn
  obtain ⟨rec, hrec⟩ : ∃ rec : LoopState → Option Code → Loop, rec = fun st pe => { state := st, pending := pe, fn, tmps := a.tmps, params := ps, assign, body, defers := w.heap.size } := ⟨_, rfl⟩
  obtain ⟨W1, hW1⟩ : ∃ W1, (w.alloc (.deferred (some []))).alloc (.loop (rec .ready none)) = W1 := ⟨_, rfl⟩
  have hz1 : W1.heap.size = w.heap.size + 2 := by rw [← hW1]; simp
  have hL1 : W1.heap[w.heap.size + 1]? = some (.loop (rec .ready none)) := by
    rw [← hW1]; have := World.alloc_heap_new (w.alloc (.deferred (some []))) (.loop (rec .ready none)); rwa [World.size_alloc] at this
  have hK1 : W1.heap[w.heap.size]? = some (.deferred (some [])) := by
    rw [← hW1]; exact (Below.heap_alloc _ _ _ (by simp)).trans (World.alloc_heap_new w _)
  have hb1 : Below w.heap.size w W1 := by
    rw [← hW1]; exact ((Below.refl _ w).alloc (Nat.le_refl _) _).alloc (by simp) _
  refine ⟨w.heap.size + 1, [{ target := .collected w.heap.size, args := #[] }], W1, { target := .fn (.func gf) lb, args := #[.func (.yield (w.heap.size + 1)) #[] #[]] }, W1, gf,
    #[.func (.yield (w.heap.size + 1)) #[] #[]] ++ lb, W1, ?_, ?_, fun _ _ => trivial, ?_, (fun h => by cases h), ?_⟩
  · rw [← hW1, hrec]; exact run_enterLoop_outer _ _ _ _ _
  · simp only [resolve, hg]
    simp [go_sem]
  · simp [invoke, go_sem, eg]
  · refine (hseq (w.heap.size + 1) (fun i W => I i W ∧ W.heap[w.heap.size + 1]? = some (.loop (rec .ready none)) ∧ W.heap[w.heap.size]? = some (.deferred (some [])))
      (fun W => Ix W ∧ W.heap[w.heap.size + 1]? = some (.loop (rec .done (some (.exit x)))) ∧ W.heap[w.heap.size]? = some (.deferred (some []))) W1 (hC _ _ hcap hb1) ?_ ?_ ?_
      ⟨hI _ _ _ h0 hb1, hL1, hK1⟩).mono ?_
    · rintro i A C ⟨h1, h2, h3⟩ hb
      exact ⟨hI _ _ _ h1 hb, below_objK hb (Array.getElem?_eq_some_iff.1 h2).1 h2, below_objK hb (Array.getElem?_eq_some_iff.1 h3).1 h3⟩
    · rintro A C ⟨h1, h2, h3⟩ hb
      exact ⟨hX _ _ h1 hb, below_objK hb (Array.getElem?_eq_some_iff.1 h2).1 h2, below_objK hb (Array.getElem?_eq_some_iff.1 h3).1 h3⟩
    · rintro i A W hi ⟨h1, h2, h3⟩ hc hb
      have hltA : w.heap.size + 1 < A.heap.size := (Array.getElem?_eq_some_iff.1 h2).1
      have h2W := below_objK hb hltA h2
      have hlt : w.heap.size + 1 < W.heap.size := (Array.getElem?_eq_some_iff.1 h2W).1
      have hy := run_yield (P := P) (args := (enc i)) h2W (by rw [hrec]; exact (hps i))
      rw [hrec] at hy
      refine ⟨fn, _, assign, body, hy, roundIn_of_wpIn (F := Fence.wide) trivial (hassign _ i W _ hi fun a1 W2 hb2 hx => ?_)⟩
      have h2W2 := below_objK hb2 hlt h2W
      have h3W2 := below_objK hb2 (by omega) (below_objK hb (by omega) h3)
      have hlt2 : w.heap.size + 1 < W2.heap.size := (Array.getElem?_eq_some_iff.1 h2W2).1
      refine ⟨_, run_beginRound h2W2 (by rw [hrec]), ?_⟩
      have hbA : Below A.heap.size A W2 := hb.trans (hb2.mono hb.size)
      obtain ⟨bz, hbz⟩ : ∃ bz : Obj, bz = .loop { rec .ready none with state := .busy } := ⟨_, rfl⟩
      rw [← hbz]
      have hl2 : (W2.putObj (w.heap.size + 1) bz).heap[w.heap.size + 1]? = some bz := World.putObj_heap_same hlt2
      have hk2 : (W2.putObj (w.heap.size + 1) bz).heap[w.heap.size]? = some (.deferred (some [])) := (World.putObj_heap_other (by omega)).trans h3W2
      have hcA := hCp A (w.heap.size + 1) _ bz hc h2
      have hbody' := hbody (w.heap.size + 1) i W.heap.size (A.putObj (w.heap.size + 1) bz) (W2.putObj (w.heap.size + 1) bz) a1 _ _ hi (hIp i A _ _ bz h1 (by omega) h2) hcA (by simp; omega) (by simp; exact hb.size)
        (below_putBoth hbA _ bz) (hAx _ _ _ _ _ bz (by omega) hx) hk2 (by rw [hl2, hbz])
      refine wpIn_mono hbody' ?_
      have uA : Upward A.heap.size W W2 := ⟨hb2.size, fun k _ hk => hb2.block k hk⟩
      have u2 : Upward A.heap.size W2 (W2.putObj (w.heap.size + 1) bz) := Upward.putObj _ _ _ (by omega)
      rintro e a3 W3 hp
      cases e with
      | normal =>
        obtain ⟨hi3, hc3, hu3, hd3, hr3⟩ := hp
        rw [hl2] at hr3
        rw [hk2] at hd3
        have hlt3 := (Array.getElem?_eq_some_iff.1 hr3).1
        rw [hbz] at hr3
        have hr := run_endRound (P := P) none hr3
        refine ⟨.bool true, W3.putObj (w.heap.size + 1) (.loop (rec .ready none)), ?_, .inl ⟨rfl, ⟨hIp _ _ _ _ _ hi3 (by omega) hr3, World.putObj_heap_same hlt3, (World.putObj_heap_other (by omega)).trans hd3⟩, hCp _ _ _ _ hc3 hr3, ?_⟩⟩
        · rw [hrec] at hr ⊢
          exact hr
        · rw [World.putObj_size] at hu3
          exact ((uA.trans u2).trans hu3).trans (Upward.putObj _ _ _ (by omega))
      | exit y =>
        obtain ⟨rfl, hi3, hd3, hr3⟩ := hp
        rw [hl2] at hr3
        rw [hk2] at hd3
        have hlt3 := (Array.getElem?_eq_some_iff.1 hr3).1
        rw [hbz] at hr3
        have hr := run_endRound (P := P) (some (.exit y)) hr3
        refine ⟨.bool false, W3.putObj (w.heap.size + 1) (.loop (rec .done (some (.exit y)))), ?_, .inr ⟨rfl, hXp _ _ _ _ hi3 (by omega) hr3, World.putObj_heap_same hlt3, (World.putObj_heap_other (by omega)).trans hd3⟩⟩
        rw [hrec] at hr ⊢
        exact hr
      | _ => exact hp.elim
    · rintro e W2 ⟨⟨v, rfl⟩, (⟨i, hi, h1, h2, h3⟩ | ⟨h1, h2, h3⟩)⟩
      · refine ⟨none, W2.putObj (w.heap.size + 1) (.loop { rec .ready none with state := .exhausted }), ?_, hdone w.heap.size i _ hi (hIp _ _ _ _ _ h1 (by omega) h2) ((World.putObj_heap_other (by omega)).trans h3) (Nat.le_refl _)⟩
        have := run_endLoop (P := P) h2 (by rw [hrec]; simp)
        rw [hrec] at this ⊢
        exact this
      · refine ⟨some (.exit x), W2.putObj (w.heap.size + 1) (.loop { rec .done (some (.exit x)) with state := .exhausted }), ?_, hstop w.heap.size _ (hXp _ _ _ _ h1 (by omega) h2) ((World.putObj_heap_other (by omega)).trans h3) (Nat.le_refl _)⟩
        have := run_endLoop (P := P) h2 (by rw [hrec]; simp)
        rw [hrec] at this ⊢
        exact this
end Go.Proofs.Ytkbjgaobhbiieaa
