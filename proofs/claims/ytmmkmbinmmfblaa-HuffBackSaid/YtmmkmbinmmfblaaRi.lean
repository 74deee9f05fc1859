/- A region that draws its order, inside a fence that asks nothing (the plain one, or a round's of a range over a function): Reg's law, with calls of yield among the operations; what is proved plainly serves there too. -/
import Derived.Test.YtmmkmbinmmfblaaMA
import Derived.OrdersIn
import Derived.TacticsInMore
import Derived.OwnWalkIn
import Derived.RegionIn
import Derived.LoopIn
import Derived.LoopNIn
import Derived.RangeFuncLeaves
import Derived.RangeFuncRecord
import Derived.RangeFuncOwn
namespace Go.Proofs.Ytmmkmbinmmfblaa
open Go.RowKit
/-- The fence that asks nothing; in a round's frame where ro is a loop's record. -/
abbrev WR (ro : Option Nat) : Fence := { Fence.wide with round := ro }
theorem calls_wr {ro : Option Nat} {P : Program} {f : FuncId} {args : Array Value} {w : World} {R : Ending → World → Prop} (h : Calls P f args w R) : CallsIn (WR ro) 0 P f args w R := (callsIn_wide (n := 0)).2 h
theorem calls_of_wr {ro : Option Nat} {P : Program} {f : FuncId} {args : Array Value} {w : World} {R : Ending → World → Prop} (h : CallsIn (WR ro) 0 P f args w R) : Calls P f args w R := (callsIn_wide (n := 0)).1 h
def noDefer (ops : Array Oper) : Bool := ops.all fun o => match o.op with | .defer _ => false | _ => true
theorem noDefer_spec {ops : Array Oper} (h : noDefer ops = true) (j : Nat) (o : Oper) (c : Call) (ho : ops[j]? = some o) : o.op ≠ .defer c := by
  intro e
  have h1 := Array.all_eq_true_iff_forall_mem.1 h o (Array.mem_of_getElem? ho)
  simp [e] at h1
section
variable {P : Program} {ops : Array Oper} {Q : Exit → Act → World → Prop} {md : Region.Mode} {S : Array Bool → World → Prop} {ro : Option Nat}
/-- What an operation comes to: it yields v, and the world keeps R. -/
def LandsR (P : Program) (R : World → Prop) (v : Value) : Result Next → Prop
  | .ok (.value u) w' => u = v ∧ R w'
  | .ok .skip w' => v = undef ∧ R w'
  | .ok (.enter f args) w' => Calls P f args w' fun e w'' => e = .returned v ∧ R w''
  | .ok (.round l f ts s b) w' => RoundIn Fence.wide 0 P l f ts s b w' fun e w'' => e = .returned v ∧ R w''
  | _ => False
theorem Lands.r {R : World → Prop} {v : Value} {r : Result Next} (h : Lands P R v r) : LandsR P R v r := by
  cases r with
  | ok n w' => cases n <;> first | exact h | exact h.elim
  | halt x w' => exact h.elim
theorem LandsR.upon {R : World → Prop} {o : Oper} {a : Act} {v : Value} {r : Result Next} {K : Act → World → Prop} (h : LandsR P R v r) (hK : ∀ w', R w' → K (a.put o.dst v) w') : o.uponIn (WR ro) 0 P a K Q r := by
  cases r with
  | ok n w' =>
    cases n with
    | value u => obtain ⟨rfl, hS⟩ := h; exact hK _ hS
    | skip => obtain ⟨rfl, hS⟩ := h; exact hK _ hS
    | enter f args =>
      refine ⟨(fun hh => by cases hh), ?_⟩
      refine (calls_wr h).mono ?_
      rintro e w'' ⟨rfl, hS⟩
      exact hK _ hS
    | round l f ts s b =>
      refine ⟨(fun hh => by cases hh), ?_⟩
      refine (show RoundIn (WR ro) 0 P l f ts s b w' _ from h).mono ?_
      rintro e w'' ⟨rfl, hS⟩
      exact hK _ hS
    | _ => exact h.elim
  | halt x w' => exact h.elim
def YieldsR (P : Program) (md : Region.Mode) (ops : Array Oper) (S : Array Bool → World → Prop) (i : Nat) (o : Oper) (v : Value) (a : Act) : Prop :=
  (Region.wanted o (yielded ops a.tmps) = true ∧ ∀ L w, May md ops i L → S L w → LandsR P (S (L.setIfInBounds i true)) v ((execOp a.eval o).run P w)) ∨
  (Region.wanted o (yielded ops a.tmps) = false ∧ v = undef ∧ ∀ L w, May md ops i L → S L w → S (L.setIfInBounds i true) w)
theorem YieldsR.of_same {i : Nat} {o : Oper} {v : Value} {a a' : Act} (hy : YieldsR P md ops S i o v a) (he : execOp a'.eval o = execOp a.eval o)
    (hw : Region.wanted o (yielded ops a'.tmps) = Region.wanted o (yielded ops a.tmps)) : YieldsR P md ops S i o v a' := by
  unfold YieldsR at *
  rw [he, hw]
  exact hy
theorem YieldsR.wpOp {i : Nat} {o : Oper} {v : Value} {a : Act} (hi : ops[i]? = some o) (hnd : ∀ c, o.op ≠ .defer c) (hy : YieldsR P md ops S i o v a) {L : Array Bool} (hm : May md ops i L)
    {K : Act → World → Prop} {w : World} (hS : S L w) (h : ∀ w', S (L.setIfInBounds i true) w' → K (a.put o.dst v) w') : wpOpIn (WR ro) 0 P ops Q i K a w := by
  unfold Go.wpOpIn
  simp only [hi]
  rcases hy with ⟨hw, hv⟩ | ⟨hw, rfl, hv⟩
  · simp only [hw, if_true]
    refine ⟨fun _ _ => trivial, ?_⟩
    rw [Oper.semAt_eq _ _ _ hnd]
    exact (hv L w hm hS).upon h
  · simp only [hw, Bool.false_eq_true, if_false]; exact ⟨fun _ _ => trivial, h _ (hv L w hm hS)⟩
/-- Whatever order, with S kept. -/
def anyR (P : Program) (md : Region.Mode) (ops : Array Oper) (Q : Exit → Act → World → Prop) (S : Array Bool → World → Prop) : Nat → Array Bool → Act → Prop
  | 0, listed, a => Region.ready md ops listed = [] ∧ ∀ w, S listed w → Q .normal a w
  | fuel + 1, listed, a =>
    (Region.ready md ops listed = [] → ∀ w, S listed w → Q .normal a w) ∧
    ∀ i ∈ Region.ready md ops listed, ∃ o v, ops[i]? = some o ∧ YieldsR P md ops S i o v a ∧ anyR P md ops Q S fuel (listed.setIfInBounds i true) (a.put o.dst v)
theorem YieldsR.put {i : Nat} {oi oj : Oper} {v u : Value} {a : Act} (hap : oi.apart ops oj = true) (hsi : ∀ cs b, oi.op ≠ .select cs b) (hy : YieldsR P md ops S i oi v a) : YieldsR P md ops S i oi v (a.put oj.dst u) := by
  obtain ⟨_, _, h3⟩ := Oper.apart_spec hap
  exact hy.of_same (execOp_put oi hsi a oj.dst u h3) (wanted_put oi a oj.dst u h3)
theorem YieldsR.unput {j : Nat} {oi oj : Oper} {v u : Value} {a : Act} (hap : oi.apart ops oj = true) (hsj : ∀ cs b, oj.op ≠ .select cs b) (hy : YieldsR P md ops S j oj u (a.put oi.dst v)) : YieldsR P md ops S j oj u a := by
  obtain ⟨h1, _, _⟩ := Oper.apart_spec hap
  exact hy.of_same (execOp_put oj hsj a oi.dst v h1).symm (wanted_put oj a oi.dst v h1).symm
theorem anyR_first {i : Nat} {oi : Oper} {v : Value} (hi : ops[i]? = some oi) (hsel : ∀ (j : Nat) (o : Oper) cs b, ops[j]? = some o → o.op ≠ .select cs b) :
    ∀ (fuel : Nat) (listed : Array Bool) (a : Act),
      (∀ j oj, ops[j]? = some oj → j ≠ i → listed.getD j true = false → (∀ e ∈ oj.after, Region.binds md e = true → e.on ≠ i) → oi.apart ops oj = true) →
      i ∈ Region.ready md ops listed → YieldsR P md ops S i oi v a →
      anyR P md ops Q S fuel (listed.setIfInBounds i true) (a.put oi.dst v) → anyR P md ops Q S (fuel + 1) listed a := by
  intro fuel
  induction fuel with
  | zero =>
    intro listed a _ hr hy H
    refine ⟨fun h => (by rw [h] at hr; cases hr), fun j hj => ?_⟩
    by_cases hji : j = i
    · subst hji; exact ⟨oi, v, hi, hy, H⟩
    · have := ready_mono hj hji
      rw [H.1] at this
      cases this
  | succ fuel ih =>
    intro listed a hfree hr hy H
    refine ⟨fun h => (by rw [h] at hr; cases hr), fun j hj => ?_⟩
    by_cases hji : j = i
    · subst hji; exact ⟨oi, v, hi, hy, H⟩
    · obtain ⟨oj, u, hoj, h1, h2⟩ := H.2 j (ready_mono hj hji)
      obtain ⟨hjun, oj', hoj', hall⟩ := mem_ready.1 hj
      obtain rfl : oj = oj' := by rw [hoj] at hoj'; cases hoj'; rfl
      have hnot : ∀ e ∈ oj.after, Region.binds md e = true → e.on ≠ i := fun e he hb heq => by
        have h1 := hall e he hb
        have h0 := (mem_ready.1 hr).1
        rw [heq] at h1
        rcases Nat.lt_or_ge i listed.size with h' | h'
        · simp [h'] at h0 h1; rw [h0] at h1; cases h1
        · simp [Array.getElem?_eq_none h'] at h1
      have hap := hfree j oj hoj hji hjun hnot
      have hfree' : ∀ k ok, ops[k]? = some ok → k ≠ i → (listed.setIfInBounds j true).getD k true = false →
          (∀ e ∈ ok.after, Region.binds md e = true → e.on ≠ i) → oi.apart ops ok = true := fun k ok hk hki hun hno => by
        refine hfree k ok hk hki ?_ hno
        by_cases hjk : j = k
        · subst hjk; exact hjun
        · rw [getD_set_ne true hjk] at hun; exact hun
      refine ⟨oj, u, hoj, h1.unput hap (fun cs b => hsel j oj cs b hoj), ?_⟩
      refine ih (listed.setIfInBounds j true) _ hfree' (ready_mono hr (Ne.symm hji)) (hy.put hap (fun cs b => hsel i oi cs b hi)) ?_
      rw [Array.setIfInBounds_comm _ _ hji, ← Act.put_comm a v u (Oper.apart_spec hap).2.1]
      exact h2
theorem anyR_sound (hnd : ∀ (j : Nat) o c, ops[j]? = some o → o.op ≠ .defer c) : ∀ (fuel : Nat) (listed : Array Bool) (a : Act), listed.size = ops.size → Closed md ops listed → anyR P md ops Q S fuel listed a → ∀ w, S listed w → wpAnyIn (WR ro) 0 P md ops Q fuel listed a w
  | 0, _, _, _, _, h, w, hS => ⟨h.1, h.2 w hS⟩
  | fuel + 1, listed, a, hs, hc, h, w, hS =>
    ⟨fun h0 => h.1 h0 w hS, fun j hj => by
      obtain ⟨o, v, ho, hy, H⟩ := h.2 j hj
      exact hy.wpOp ho (fun c => hnd j o c ho) ⟨hs, hc, hj⟩ hS fun w' hS' => anyR_sound hnd fuel _ _ (by simpa using hs) (hc.set hj) H w' hS'⟩
/-! The moves. -/
theorem anyR_take {i : Nat} {oi : Oper} {r : List Oper} {v : Value} {fuel : Nat} {listed : Array Bool} {a : Act} (hi : ops.toList.drop i = oi :: r)
    (hs : Region.noSelect ops = true) (hf : Region.free md ops listed i = true) (hr : (Region.ready md ops listed).contains i = true)
    (hy : YieldsR P md ops S i oi v a)
    (h : anyR P md ops Q S fuel (listed.setIfInBounds i true) (a.put oi.dst v)) : anyR P md ops Q S (fuel + 1) listed a :=
  anyR_first (at_drop hi) (Region.noSelect_spec hs) fuel listed a (Region.free_spec (at_drop hi) hf) (by simpa using hr) hy h
theorem anyR_done {listed : Array Bool} {a : Act} (hr : Region.ready md ops listed = []) (h : ∀ w, S listed w → Q .normal a w) : ∀ fuel, anyR P md ops Q S fuel listed a
  | 0 => ⟨hr, h⟩
  | _ + 1 => ⟨fun _ => h, by rw [hr]; simp⟩
/-- The beginning. -/
theorem wpIn_region_anyR {id : Nat} {a : Act} {w : World} (S : Array Bool → World → Prop) (hm : P.follows .mixedOrders = true) (hnd : noDefer ops = true) (hS : S (Array.replicate ops.size false) w.drew)
    (h : anyR P .any ops Q S ops.size (Array.replicate ops.size false) a) : (Code.region id ops true).wpIn (WR ro) 0 P Q a w :=
  wpIn_region_any hm (anyR_sound (noDefer_spec hnd) _ _ _ (by simp) Closed.start h _ hS)
/-! The invariant hangs on whether two operations (stores) have come up. -/
variable {T : Bool → Bool → World → Prop} {s t : Nat}
theorem yr_other {i : Nat} {o : Oper} {v : Value} {a : Act} (hs : i ≠ s) (ht : i ≠ t) (hw : Region.wanted o (yielded ops a.tmps) = true)
    (h : ∀ b c w, T b c w → LandsR P (T b c) v ((execOp a.eval o).run P w)) : YieldsR P md ops (Two s t T) i o v a :=
  .inl ⟨hw, fun L w _ hS => by unfold Two at *; rw [getD_set_ne false hs, getD_set_ne false ht]; exact h _ _ w hS⟩
theorem yr_skip {i : Nat} {o : Oper} {a : Act} (hs : i ≠ s) (ht : i ≠ t) (hw : Region.wanted o (yielded ops a.tmps) = false) : YieldsR P md ops (Two s t T) i o undef a :=
  .inr ⟨hw, rfl, fun L w _ hS => by unfold Two at *; rw [getD_set_ne false hs, getD_set_ne false ht]; exact hS⟩
/-- Number i comes ahead of s. -/
theorem yr_ahead {i n : Nat} {o : Oper} {v : Value} {a : Act} (hs : i ≠ s) (ht : i ≠ t) (hb : waits md ops n s i = true) (hw : Region.wanted o (yielded ops a.tmps) = true)
    (h : ∀ c w, T false c w → LandsR P (T false c) v ((execOp a.eval o).run P w)) : YieldsR P md ops (Two s t T) i o v a :=
  .inl ⟨hw, fun L w hm hS => by unfold Two at *; rw [getD_set_ne false hs, getD_set_ne false ht]; rw [not_yet hm hb] at hS ⊢; exact h _ w hS⟩
/-- Number i comes ahead of s and of t. -/
theorem yr_ahead2 {i n : Nat} {o : Oper} {v : Value} {a : Act} (hs : i ≠ s) (ht : i ≠ t) (hb : waits md ops n s i = true) (hb2 : waits md ops n t i = true) (hw : Region.wanted o (yielded ops a.tmps) = true)
    (h : ∀ w, T false false w → LandsR P (T false false) v ((execOp a.eval o).run P w)) : YieldsR P md ops (Two s t T) i o v a :=
  .inl ⟨hw, fun L w hm hS => by unfold Two at *; rw [getD_set_ne false hs, getD_set_ne false ht]; rw [not_yet hm hb, not_yet hm hb2] at hS ⊢; exact h w hS⟩
theorem yr_first {o : Oper} {v : Value} {a : Act} (hne : s ≠ t) (hw : Region.wanted o (yielded ops a.tmps) = true)
    (h : ∀ c w, T false c w → LandsR P (T true c) v ((execOp a.eval o).run P w)) : YieldsR P md ops (Two s t T) s o v a :=
  .inl ⟨hw, fun L w hm hS => by unfold Two at *; rw [hm.unlisted.2, getD_set_ne false hne]; rw [hm.unlisted.1] at hS; exact h _ w hS⟩
theorem yr_second {o : Oper} {v : Value} {a : Act} (hne : t ≠ s) (hw : Region.wanted o (yielded ops a.tmps) = true)
    (h : ∀ b w, T b false w → LandsR P (T b true) v ((execOp a.eval o).run P w)) : YieldsR P md ops (Two s t T) t o v a :=
  .inl ⟨hw, fun L w hm hS => by unfold Two at *; rw [hm.unlisted.2, getD_set_ne false hne]; rw [hm.unlisted.1] at hS; exact h _ w hS⟩
theorem landsr_round {R : World → Prop} {v : Value} {r : Result Next} {w : World} {l : Nat} {f : FuncId} {ts : Array Value} {sg b : Code} (hc : RoundIn Fence.wide 0 P l f ts sg b w fun e w' => e = .returned v ∧ R w') (h : r = .ok (.round l f ts sg b) w) : LandsR P R v r := by subst h; exact hc
/-- Number i comes ahead of t. -/
theorem yr_before {i n : Nat} {o : Oper} {v : Value} {a : Act} (hs : i ≠ s) (ht : i ≠ t) (hb : waits md ops n t i = true) (hw : Region.wanted o (yielded ops a.tmps) = true)
    (h : ∀ b w, T b false w → LandsR P (T b false) v ((execOp a.eval o).run P w)) : YieldsR P md ops (Two s t T) i o v a :=
  .inl ⟨hw, fun L w hm hS => by unfold Two at *; rw [getD_set_ne false hs, getD_set_ne false ht]; rw [not_yet hm hb] at hS ⊢; exact h _ w hS⟩
/-! A region in Go's own order: what is proved plainly serves. -/
theorem oper_in {o : Oper} {a : Act} {w : World} {K : Act → World → Prop} (hnd : ∀ c, o.op ≠ .defer c) (hrow : ∀ row args w', (execOp a.eval o).run P w ≠ .ok (.row row args) w') (h : o.wp P a w K Q) : o.wpIn (WR ro) 0 P a w K Q := by
  refine ⟨fun _ _ => trivial, ?_⟩
  rw [Oper.semAt_eq _ _ _ hnd]
  unfold Oper.wp at h
  generalize (execOp a.eval o).run P w = r at *
  cases r with
  | ok x w' =>
    cases x with
    | row r args => exact absurd rfl (hrow _ _ _)
    | enter f args => exact ⟨(fun hh => by cases hh), calls_wr h⟩
    | _ => first | exact h | exact h.elim
  | halt x w' => cases x <;> simp only [Oper.upon, Oper.uponIn] at h ⊢ <;> first | exact h | exact h.elim
end
end Go.Proofs.Ytmmkmbinmmfblaa
