/- A region that draws its order, whose operations each yield one value in every world that keeps an invariant (calls that make memory, stores among them; the invariant may hang on what has come up): it is walked in one order. -/
import Derived.Test.YtmmkmbinmmfblaaRows2
import Derived.Orders
namespace Go.Proofs.Ytmmkmbinmmfblaa
open Go.RowKit
section
variable {P : Program} {ops : Array Oper} {Q : Exit → Act → World → Prop} {md : Region.Mode} {S : Array Bool → World → Prop}
/-- What an operation comes to: it yields v, and the world keeps R. -/
def Lands (P : Program) (R : World → Prop) (v : Value) : Result Next → Prop
  | .ok (.value u) w' => u = v ∧ R w'
  | .ok .skip w' => v = undef ∧ R w'
  | .ok (.enter f args) w' => Calls P f args w' fun e w'' => e = .returned v ∧ R w''
  | _ => False
theorem Lands.upon {R : World → Prop} {o : Oper} {a : Act} {v : Value} {r : Result Next} {K : Act → World → Prop} (h : Lands P R v r) (hK : ∀ w', R w' → K (a.put o.dst v) w') : o.upon P a K Q r := by
  cases r with
  | ok n w' =>
    cases n with
    | value u => obtain ⟨rfl, hS⟩ := h; exact hK _ hS
    | skip => obtain ⟨rfl, hS⟩ := h; exact hK _ hS
    | enter f args =>
      refine Calls.mono h ?_
      rintro e w'' ⟨rfl, hS⟩
      exact hK _ hS
    | _ => exact h.elim
  | halt x w' => exact h.elim
/-- Listed operations' forerunners are listed. -/
def Closed (md : Region.Mode) (ops : Array Oper) (listed : Array Bool) : Prop :=
  ∀ (j : Nat) (o : Oper), ops[j]? = some o → listed.getD j false = true → ∀ e ∈ o.after, Region.binds md e = true → listed.getD e.on false = true
/-- A state of the list in which number i may come up. -/
structure May (md : Region.Mode) (ops : Array Oper) (i : Nat) (L : Array Bool) : Prop where
  size : L.size = ops.size
  closed : Closed md ops L
  ready : i ∈ Region.ready md ops L
def YieldsL (P : Program) (md : Region.Mode) (ops : Array Oper) (S : Array Bool → World → Prop) (i : Nat) (o : Oper) (v : Value) (a : Act) : Prop :=
  (Region.wanted o (yielded ops a.tmps) = true ∧ ∀ L w, May md ops i L → S L w → Lands P (S (L.setIfInBounds i true)) v ((execOp a.eval o).run P w)) ∨
  (Region.wanted o (yielded ops a.tmps) = false ∧ v = undef ∧ ∀ L w, May md ops i L → S L w → S (L.setIfInBounds i true) w)
theorem YieldsL.of_same {i : Nat} {o : Oper} {v : Value} {a a' : Act} (hy : YieldsL P md ops S i o v a) (he : execOp a'.eval o = execOp a.eval o)
    (hw : Region.wanted o (yielded ops a'.tmps) = Region.wanted o (yielded ops a.tmps)) : YieldsL P md ops S i o v a' := by
  unfold YieldsL at *
  rw [he, hw]
  exact hy
theorem YieldsL.wpOp {i : Nat} {o : Oper} {v : Value} {a : Act} (hi : ops[i]? = some o) (hy : YieldsL P md ops S i o v a) {L : Array Bool} (hm : May md ops i L)
    {K : Act → World → Prop} {w : World} (hS : S L w) (h : ∀ w', S (L.setIfInBounds i true) w' → K (a.put o.dst v) w') : wpOp P ops Q i K a w := by
  unfold Go.wpOp
  simp only [hi]
  rcases hy with ⟨hw, hv⟩ | ⟨hw, rfl, hv⟩
  · simp only [hw, if_true, Oper.wp]; exact .inl ((hv L w hm hS).upon h)
  · simp only [hw, Bool.false_eq_true, if_false]; exact h _ (hv L w hm hS)
/-- Whatever order, with S kept. -/
def anyL (P : Program) (md : Region.Mode) (ops : Array Oper) (Q : Exit → Act → World → Prop) (S : Array Bool → World → Prop) : Nat → Array Bool → Act → Prop
  | 0, listed, a => Region.ready md ops listed = [] ∧ ∀ w, S listed w → Q .normal a w
  | fuel + 1, listed, a =>
    (Region.ready md ops listed = [] → ∀ w, S listed w → Q .normal a w) ∧
    ∀ i ∈ Region.ready md ops listed, ∃ o v, ops[i]? = some o ∧ YieldsL P md ops S i o v a ∧ anyL P md ops Q S fuel (listed.setIfInBounds i true) (a.put o.dst v)
theorem YieldsL.put {i : Nat} {oi oj : Oper} {v u : Value} {a : Act} (hap : oi.apart ops oj = true) (hsi : ∀ cs b, oi.op ≠ .select cs b) (hy : YieldsL P md ops S i oi v a) : YieldsL P md ops S i oi v (a.put oj.dst u) := by
  obtain ⟨_, _, h3⟩ := Oper.apart_spec hap
  exact hy.of_same (execOp_put oi hsi a oj.dst u h3) (wanted_put oi a oj.dst u h3)
theorem YieldsL.unput {j : Nat} {oi oj : Oper} {v u : Value} {a : Act} (hap : oi.apart ops oj = true) (hsj : ∀ cs b, oj.op ≠ .select cs b) (hy : YieldsL P md ops S j oj u (a.put oi.dst v)) : YieldsL P md ops S j oj u a := by
  obtain ⟨h1, _, _⟩ := Oper.apart_spec hap
  exact hy.of_same (execOp_put oj hsj a oi.dst v h1).symm (wanted_put oj a oi.dst v h1).symm
theorem anyL_first {i : Nat} {oi : Oper} {v : Value} (hi : ops[i]? = some oi) (hsel : ∀ (j : Nat) (o : Oper) cs b, ops[j]? = some o → o.op ≠ .select cs b) :
    ∀ (fuel : Nat) (listed : Array Bool) (a : Act),
      (∀ j oj, ops[j]? = some oj → j ≠ i → listed.getD j true = false → (∀ e ∈ oj.after, Region.binds md e = true → e.on ≠ i) → oi.apart ops oj = true) →
      i ∈ Region.ready md ops listed → YieldsL P md ops S i oi v a →
      anyL P md ops Q S fuel (listed.setIfInBounds i true) (a.put oi.dst v) → anyL P md ops Q S (fuel + 1) listed a := by
  intro fuel
  induction fuel with
  | zero =>
    intro listed a _ hr hy H
    refine ⟨fun h => (by rw [h] at hr; cases hr), fun j hj => ?_⟩
    by_cases hji : j = i
    · subst hji; exact ⟨oi, v, hi, hy, H⟩
    · have := ready_mono hj hji
      rw [H.1] at this
      cases this
  | succ fuel ih =>
    intro listed a hfree hr hy H
    refine ⟨fun h => (by rw [h] at hr; cases hr), fun j hj => ?_⟩
    by_cases hji : j = i
    · subst hji; exact ⟨oi, v, hi, hy, H⟩
    · obtain ⟨oj, u, hoj, h1, h2⟩ := H.2 j (ready_mono hj hji)
      obtain ⟨hjun, oj', hoj', hall⟩ := mem_ready.1 hj
      obtain rfl : oj = oj' := by rw [hoj] at hoj'; cases hoj'; rfl
      have hnot : ∀ e ∈ oj.after, Region.binds md e = true → e.on ≠ i := fun e he hb heq => by
        have h1 := hall e he hb
        have h0 := (mem_ready.1 hr).1
        rw [heq] at h1
        rcases Nat.lt_or_ge i listed.size with h' | h'
        · simp [h'] at h0 h1; rw [h0] at h1; cases h1
        · simp [Array.getElem?_eq_none h'] at h1
      have hap := hfree j oj hoj hji hjun hnot
      have hfree' : ∀ k ok, ops[k]? = some ok → k ≠ i → (listed.setIfInBounds j true).getD k true = false →
          (∀ e ∈ ok.after, Region.binds md e = true → e.on ≠ i) → oi.apart ops ok = true := fun k ok hk hki hun hno => by
        refine hfree k ok hk hki ?_ hno
        by_cases hjk : j = k
        · subst hjk; exact hjun
        · rw [getD_set_ne true hjk] at hun; exact hun
      refine ⟨oj, u, hoj, h1.unput hap (fun cs b => hsel j oj cs b hoj), ?_⟩
      refine ih (listed.setIfInBounds j true) _ hfree' (ready_mono hr (Ne.symm hji)) (hy.put hap (fun cs b => hsel i oi cs b hi)) ?_
      rw [Array.setIfInBounds_comm _ _ hji, ← Act.put_comm a v u (Oper.apart_spec hap).2.1]
      exact h2
theorem Closed.start {n : Nat} : Closed md ops (Array.replicate n false) := fun j o _ h => by
  exfalso
  simp [Array.getElem?_replicate] at h
  split at h <;> simp_all
theorem getD_set_of {listed : Array Bool} {i j : Nat} (h : (listed.setIfInBounds i true).getD j false = true) : j = i ∨ listed.getD j false = true := by
  by_cases hij : i = j
  · exact .inl hij.symm
  · rw [getD_set_ne false hij] at h; exact .inr h
theorem Closed.set {listed : Array Bool} {i : Nat} (h : Closed md ops listed) (hr : i ∈ Region.ready md ops listed) : Closed md ops (listed.setIfInBounds i true) := fun j o ho hj e he hb => by
  rcases getD_set_of hj with rfl | hj
  · obtain ⟨_, o', ho', hall⟩ := mem_ready.1 hr
    rw [ho] at ho'; cases ho'
    exact getD_set_true (hall e he hb)
  · exact getD_set_true (h j o ho hj e he hb)
/-- The forerunners of a list of operations, over again. -/
def upOnce (md : Region.Mode) (ops : Array Oper) (l : List Nat) : List Nat :=
  l.flatMap fun j => ((ops[j]?).map fun o => (o.after.toList.filter (Region.binds md)).map (·.on)).getD []
theorem upOnce_listed {listed : Array Bool} (hc : Closed md ops listed) {l : List Nat} (h : ∀ j ∈ l, listed.getD j false = true) : ∀ j ∈ upOnce md ops l, listed.getD j false = true := fun j hj => by
  unfold upOnce at hj
  obtain ⟨k, hk, hj⟩ := List.mem_flatMap.1 hj
  cases ho : ops[k]? with
  | none => simp [ho] at hj
  | some o =>
    simp only [ho, Option.map_some, Option.getD_some, List.mem_map, List.mem_filter] at hj
    obtain ⟨e, ⟨he, hb⟩, rfl⟩ := hj
    exact hc k o ho (h k hk) e (Array.mem_toList_iff.1 he) hb
def upMany (md : Region.Mode) (ops : Array Oper) : Nat → List Nat → List Nat
  | 0, l => l
  | n + 1, l => upMany md ops n ((l ++ upOnce md ops l).eraseDups)
theorem mem_eraseDups' {l : List Nat} {x : Nat} (h : x ∈ l.eraseDups) : x ∈ l := by simpa using h
theorem upMany_listed {listed : Array Bool} (hc : Closed md ops listed) : ∀ (n : Nat) (l : List Nat), (∀ j ∈ l, listed.getD j false = true) → ∀ j ∈ upMany md ops n l, listed.getD j false = true
  | 0, _, h => h
  | n + 1, l, h => upMany_listed hc n _ fun j hj => by
    rcases List.mem_append.1 (mem_eraseDups' hj) with hj | hj
    · exact h j hj
    · exact upOnce_listed hc h j hj
/-- Does t wait for i? -/
def waits (md : Region.Mode) (ops : Array Oper) (n t i : Nat) : Bool := (upMany md ops n [t]).contains i
theorem not_yet {L : Array Bool} {n t i : Nat} (hm : May md ops i L) (hw : waits md ops n t i = true) : L.getD t false = false := by
  cases ht : L.getD t false with
  | false => rfl
  | true =>
    have h3 : ∀ j ∈ [t], L.getD j false = true := fun j hj => by
      rw [List.mem_singleton.1 hj]; exact ht
    have h4 := upMany_listed hm.closed n _ h3 i (by simpa [waits] using hw)
    obtain ⟨hun, _⟩ := mem_ready.1 hm.ready
    rcases Nat.lt_or_ge i L.size with h' | h'
    · simp [h'] at hun h4; rw [hun] at h4; cases h4
    · simp [Array.getElem?_eq_none h'] at h4
theorem anyL_sound : ∀ (fuel : Nat) (listed : Array Bool) (a : Act), listed.size = ops.size → Closed md ops listed → anyL P md ops Q S fuel listed a → ∀ w, S listed w → wpAny P md ops Q fuel listed a w
  | 0, _, _, _, _, h, w, hS => ⟨h.1, h.2 w hS⟩
  | fuel + 1, listed, a, hs, hc, h, w, hS =>
    ⟨fun h0 => h.1 h0 w hS, fun j hj => by
      obtain ⟨o, v, ho, hy, H⟩ := h.2 j hj
      exact hy.wpOp ho ⟨hs, hc, hj⟩ hS fun w' hS' => anyL_sound fuel _ _ (by simpa using hs) (hc.set hj) H w' hS'⟩
/-! The moves. -/
theorem at_drop {i : Nat} {oi : Oper} {r : List Oper} (h : ops.toList.drop i = oi :: r) : ops[i]? = some oi := by
  have h1 : (ops.toList.drop i)[0]? = some oi := by rw [h]; rfl
  rw [List.getElem?_drop] at h1
  simpa using h1
theorem anyL_take {i : Nat} {oi : Oper} {r : List Oper} {v : Value} {fuel : Nat} {listed : Array Bool} {a : Act} (hi : ops.toList.drop i = oi :: r)
    (hs : Region.noSelect ops = true) (hf : Region.free md ops listed i = true) (hr : (Region.ready md ops listed).contains i = true)
    (hy : YieldsL P md ops S i oi v a)
    (h : anyL P md ops Q S fuel (listed.setIfInBounds i true) (a.put oi.dst v)) : anyL P md ops Q S (fuel + 1) listed a :=
  anyL_first (at_drop hi) (Region.noSelect_spec hs) fuel listed a (Region.free_spec (at_drop hi) hf) (by simpa using hr) hy h
theorem anyL_done {listed : Array Bool} {a : Act} (hr : Region.ready md ops listed = []) (h : ∀ w, S listed w → Q .normal a w) : ∀ fuel, anyL P md ops Q S fuel listed a
  | 0 => ⟨hr, h⟩
  | _ + 1 => ⟨fun _ => h, by rw [hr]; simp⟩
/-- The beginning. -/
theorem wp_region_anyL {id : Nat} {a : Act} {w : World} (S : Array Bool → World → Prop) (hm : P.follows .mixedOrders = true) (hS : S (Array.replicate ops.size false) w.drew)
    (h : anyL P .any ops Q S ops.size (Array.replicate ops.size false) a) : (Code.region id ops true).wp P Q a w :=
  wp_region_any hm (anyL_sound _ _ _ (by simp) Closed.start h _ hS)
theorem lands_value {R : World → Prop} {v : Value} {r : Result Next} {w : World} (h : r = .ok (.value v) w) (hS : R w) : Lands P R v r := by subst h; exact ⟨rfl, hS⟩
theorem lands_call {R : World → Prop} {v : Value} {r : Result Next} {w : World} {f : FuncId} {args : Array Value} (h : r = .ok (.enter f args) w) (hc : Calls P f args w fun e w' => e = .returned v ∧ R w') : Lands P R v r := by subst h; exact hc
theorem lands_calls {R : World → Prop} {v : Value} {r : Result Next} {w : World} {f : FuncId} {args : Array Value} (hc : Calls P f args w fun e w' => e = .returned v ∧ R w') (h : r = .ok (.enter f args) w) : Lands P R v r := by subst h; exact hc
theorem lands_load {R : World → Prop} {o : Oper} {a : Act} {w : World} (ty : TypeId) (x : Operand) (ho : o.op = .load ty x)
    (g : Nat) (hx : a.eval x = .pointer (some ⟨g, 0, none⟩)) (t : TypeId) (cs : Array Value) (d : TypeDesc) (hg : Blk w g t cs)
    (hu : P.underlying ty = some d) (hd : (match d with | .struct _ | .array _ _ => true | _ => false) = true) (hi : (P.info? ty).map (·.size) = some cs.size)
    (hR : R w) : Lands P R (.agg cs) ((execOp a.eval o).run P w) := by
  have : (execOp a.eval o).run P w = .ok (.value (.agg cs)) w := by
    unfold execOp
    simp only [ho, hx, Instr.loadAt, Instr.sureAddr, Sem.run_bind, Sem.run_pure, Result.andThen_ok, run_loadVar_row w g t ty cs (0, 0) d hg hu hd hi]
  rw [this]; exact ⟨rfl, hR⟩
theorem lands_store {R : World → Prop} {o : Oper} {a : Act} {w : World} (ty : TypeId) (x y : Operand) (ho : o.op = .store ty x y)
    (g : Nat) (cells : Array Value) (hx : a.eval x = .pointer (some ⟨g, 0, none⟩)) (hy : a.eval y = .agg cells)
    (t : TypeId) (old : Array Value) (hg : Blk w g t old) (hi : (P.info? ty).map (·.size) = some cells.size)
    (hold : old.size = cells.size) (h1 : cells.all (·.oneCell') = true)
    (hR : R (w.setRow g cells)) : Lands P R undef ((execOp a.eval o).run P w) := by
  have : (execOp a.eval o).run P w = .ok .skip (w.setRow g cells) := by
    unfold execOp
    simp only [ho, hx, hy, Instr.storeAt, Instr.sureAddr, Sem.run_bind, Sem.run_pure, Result.andThen_ok, run_storeVar_row w g t ty old cells hg hi hold h1]
  rw [this]; exact ⟨rfl, hR⟩
/-! The invariant hangs on whether two operations (stores) have come up. -/
def Two (s t : Nat) (T : Bool → Bool → World → Prop) (L : Array Bool) (w : World) : Prop := T (L.getD s false) (L.getD t false) w
variable {T : Bool → Bool → World → Prop} {s t : Nat}
theorem yl_other {i : Nat} {o : Oper} {v : Value} {a : Act} (hs : i ≠ s) (ht : i ≠ t) (hw : Region.wanted o (yielded ops a.tmps) = true)
    (h : ∀ b c w, T b c w → Lands P (T b c) v ((execOp a.eval o).run P w)) : YieldsL P md ops (Two s t T) i o v a :=
  .inl ⟨hw, fun L w _ hS => by unfold Two at *; rw [getD_set_ne false hs, getD_set_ne false ht]; exact h _ _ w hS⟩
theorem yl_skip {i : Nat} {o : Oper} {a : Act} (hs : i ≠ s) (ht : i ≠ t) (hw : Region.wanted o (yielded ops a.tmps) = false) : YieldsL P md ops (Two s t T) i o undef a :=
  .inr ⟨hw, rfl, fun L w _ hS => by unfold Two at *; rw [getD_set_ne false hs, getD_set_ne false ht]; exact hS⟩
/-- Number i comes ahead of s. -/
theorem yl_ahead {i n : Nat} {o : Oper} {v : Value} {a : Act} (hs : i ≠ s) (ht : i ≠ t) (hb : waits md ops n s i = true) (hw : Region.wanted o (yielded ops a.tmps) = true)
    (h : ∀ c w, T false c w → Lands P (T false c) v ((execOp a.eval o).run P w)) : YieldsL P md ops (Two s t T) i o v a :=
  .inl ⟨hw, fun L w hm hS => by unfold Two at *; rw [getD_set_ne false hs, getD_set_ne false ht]; rw [not_yet hm hb] at hS ⊢; exact h _ w hS⟩
/-- Number i comes ahead of s and of t. -/
theorem yl_ahead2 {i n : Nat} {o : Oper} {v : Value} {a : Act} (hs : i ≠ s) (ht : i ≠ t) (hb : waits md ops n s i = true) (hb2 : waits md ops n t i = true) (hw : Region.wanted o (yielded ops a.tmps) = true)
    (h : ∀ w, T false false w → Lands P (T false false) v ((execOp a.eval o).run P w)) : YieldsL P md ops (Two s t T) i o v a :=
  .inl ⟨hw, fun L w hm hS => by unfold Two at *; rw [getD_set_ne false hs, getD_set_ne false ht]; rw [not_yet hm hb, not_yet hm hb2] at hS ⊢; exact h w hS⟩
theorem May.unlisted {i : Nat} {L : Array Bool} (hm : May md ops i L) : L.getD i false = false ∧ (L.setIfInBounds i true).getD i false = true := by
  obtain ⟨hun, o, ho, _⟩ := mem_ready.1 hm.ready
  have hlt : i < L.size := by rw [hm.size]; exact (Array.getElem?_eq_some_iff.1 ho).1
  simp [hlt] at hun ⊢
  exact hun
theorem yl_first {o : Oper} {v : Value} {a : Act} (hne : s ≠ t) (hw : Region.wanted o (yielded ops a.tmps) = true)
    (h : ∀ c w, T false c w → Lands P (T true c) v ((execOp a.eval o).run P w)) : YieldsL P md ops (Two s t T) s o v a :=
  .inl ⟨hw, fun L w hm hS => by unfold Two at *; rw [hm.unlisted.2, getD_set_ne false hne]; rw [hm.unlisted.1] at hS; exact h _ w hS⟩
theorem yl_second {o : Oper} {v : Value} {a : Act} (hne : t ≠ s) (hw : Region.wanted o (yielded ops a.tmps) = true)
    (h : ∀ b w, T b false w → Lands P (T b true) v ((execOp a.eval o).run P w)) : YieldsL P md ops (Two s t T) t o v a :=
  .inl ⟨hw, fun L w hm hS => by unfold Two at *; rw [hm.unlisted.2, getD_set_ne false hne]; rw [hm.unlisted.1] at hS; exact h _ w hS⟩
end
/-- What is known of a world that grew: the blocks of a list, and that below B all is as it was in w0. -/
structure Known (B : Nat) (w0 : World) (l : List (Nat × TypeId × Array Value)) (w : World) : Prop where
  b : Below B w0 w
  lo : B ≤ w.heap.size
  blk : ∀ x ∈ l, Blk w x.1 x.2.1 x.2.2
theorem Known.below {B : Nat} {w0 w w' : World} {l : List (Nat × TypeId × Array Value)} (h : Known B w0 l w) (hb : Below w.heap.size w w') : Known B w0 l w' :=
  ⟨h.b.trans (hb.mono h.lo), Nat.le_trans h.lo hb.size, fun x hx => (h.blk x hx).below hb (h.blk x hx).lt⟩
theorem Known.drew {B : Nat} {w0 w : World} {l : List (Nat × TypeId × Array Value)} (h : Known B w0 l w) : Known B w0 l w.drew := ⟨h.b.drew, h.lo, fun x hx => (h.blk x hx).drew⟩
theorem Known.alloc {B : Nat} {w0 w : World} {l : List (Nat × TypeId × Array Value)} (h : Known B w0 l w) (o : Obj) : Known B w0 l (w.alloc o) :=
  ⟨h.b.alloc h.lo _, Nat.le_trans h.lo (by simp), fun x hx => (h.blk x hx).alloc o⟩
theorem lands_known {P : Program} {B : Nat} {w0 w : World} {l : List (Nat × TypeId × Array Value)} {v : Value} {r : Result Next} {f : FuncId} {args : Array Value} (hS : Known B w0 l w) (h : r = .ok (.enter f args) w)
    (hc : Calls P f args w fun e w' => e = .returned v ∧ Below w.heap.size w w') : Lands P (Known B w0 l) v r :=
  lands_call h (hc.mono fun _ _ ⟨he, hb⟩ => ⟨he, hS.below hb⟩)
end Go.Proofs.Ytmmkmbinmmfblaa
