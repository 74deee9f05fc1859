/- A region that draws its order and makes variables: each new variable's address is known when it is made alone; blocks known as a list, all apart. -/
import Derived.Test.YtggalphgnloneaaGreatMA
import Derived.Test.YtggalphgnloneaaGreatPu
namespace Go.Proofs.YtggalphgnloneaaGreat
open Go.RowKit
section
variable {P : Program} {Q : Exit → Act → World → Prop} {next : Act → World → Prop} {a : Act} {w : World} {id id' : Nat}
theorem then_exit (h : Q (.exit id) a w) : Exit.then next Q (.exit id) a w := h
theorem then_ret (h : Q .ret a w) : Exit.then next Q .ret a w := h
theorem block_normal (h : Q .normal a w) : Exit.inBlock id Q .normal a w := h
theorem block_same (h : Q .normal a w) : Exit.inBlock id Q (.exit id) a w := by simp only [Exit.inBlock, if_true]; exact h
theorem tn (h : next a w) : Exit.then next Q .normal a w := h
theorem block_ret (h : Q .ret a w) : Exit.inBlock id Q .ret a w := h
end
/-- Blocks that are known: address, type, cells. -/
abbrev Blks := List (Nat × TypeId × Array Value)
/-- What is known of a world that grew: below B all is as it was in w0; blocks from B on, all apart. -/
structure KD (B : Nat) (w0 : World) (l : Blks) (w : World) : Prop where
  b : Below B w0 w
  lo : B ≤ w.heap.size
  blk : ∀ x ∈ l, Blk w x.1 x.2.1 x.2.2
  ge : ∀ x ∈ l, B ≤ x.1
  nd : l.Pairwise fun x y => x.1 ≠ y.1
section
variable {B : Nat} {w0 w w' : World} {l : Blks}
theorem KD.lt (h : KD B w0 l w) : ∀ x ∈ l, x.1 < w.heap.size := fun x hx => (h.blk x hx).lt
theorem KD.begin (w : World) : KD w.heap.size w [] w :=
  ⟨Below.refl _ _, Nat.le_refl _, fun x hx => (by cases hx), fun x hx => (by cases hx), List.Pairwise.nil⟩
theorem KD.below (h : KD B w0 l w) (hb : Below w.heap.size w w') : KD B w0 l w' :=
  ⟨h.b.trans (hb.mono h.lo), Nat.le_trans h.lo hb.size, fun x hx => (h.blk x hx).below hb (h.blk x hx).lt, h.ge, h.nd⟩
theorem KD.drew (h : KD B w0 l w) : KD B w0 l w.drew := ⟨h.b.drew, h.lo, fun x hx => (h.blk x hx).drew, h.ge, h.nd⟩
theorem KD.add (h : KD B w0 l w) (cs : Array Value) (T : TypeId) : KD B w0 ((w.heap.size, T, cs) :: l) (w.alloc (.cells cs T)) :=
  ⟨h.b.alloc h.lo _, by simp; have := h.lo; omega, fun x hx => by
    rcases List.mem_cons.1 hx with rfl | hx
    · exact Blk.new w _ _
    · exact (h.blk x hx).alloc _, fun x hx => by
    rcases List.mem_cons.1 hx with rfl | hx
    · exact h.lo
    · exact h.ge x hx, List.Pairwise.cons (fun y hy e => by have := h.lt y hy; have e' : w.heap.size = y.1 := e; omega) h.nd⟩
theorem KD.more (h : KD B w0 l w) (o : Obj) : KD B w0 l (w.alloc o) :=
  ⟨h.b.alloc h.lo _, Nat.le_trans h.lo (by simp), fun x hx => (h.blk x hx).alloc o, h.ge, h.nd⟩
/-- Block k is stored into. -/
theorem KD.put (h : KD B w0 l w) {k g : Nat} {T : TypeId} {cs0 : Array Value} (hk : l[k]? = some (g, T, cs0)) (cs : Array Value) : KD B w0 (l.set k (g, T, cs)) (w.setRow g cs) := by
  have hlt : k < l.length := by
    rcases Nat.lt_or_ge k l.length with h1 | h1
    · exact h1
    · rw [List.getElem?_eq_none h1] at hk; cases hk
  have hget : l[k] = (g, T, cs0) := by rw [List.getElem?_eq_getElem hlt] at hk; exact Option.some.inj hk
  have hg : (g, T, cs0) ∈ l := hget ▸ List.getElem_mem hlt
  have hne : ∀ (i : Nat) (hi : i < l.length), i ≠ k → (l[i]).1 ≠ g := fun i hi hik => by
    have hp := List.pairwise_iff_getElem.1 h.nd
    rcases Nat.lt_or_ge i k with h1 | h1
    · have := hp i k hi hlt h1; rw [hget] at this; exact this
    · have := hp k i hlt hi (by omega); rw [hget] at this; exact fun e => this e.symm
  refine ⟨below_setRow' h.b (show B ≤ g from h.ge _ hg) _, by simp; exact h.lo, fun x hx => ?_, fun x hx => ?_, ?_⟩
  · obtain ⟨i, hi, rfl⟩ := List.getElem_of_mem hx
    rw [List.getElem_set]
    by_cases hik : k = i
    · subst hik; rw [if_pos rfl]; exact (h.blk _ hg).row_ _
    · rw [if_neg hik]
      have hi' : i < l.length := by simpa using hi
      exact (h.blk _ (List.getElem_mem hi')).row_far (hne i hi' (fun e => hik e.symm)) _
  · obtain ⟨i, hi, rfl⟩ := List.getElem_of_mem hx
    rw [List.getElem_set]
    by_cases hik : k = i
    · subst hik; rw [if_pos rfl]; exact (show B ≤ g from h.ge _ hg)
    · rw [if_neg hik]
      exact h.ge _ (List.getElem_mem _)
  · rw [List.pairwise_iff_getElem]
    intro i j hi hj hij
    have hi' : i < l.length := by simpa using hi
    have hj' : j < l.length := by simpa using hj
    rw [List.getElem_set, List.getElem_set]
    by_cases h1 : k = i
    · rw [if_pos h1, if_neg (by omega)]
      exact fun e => hne j hj' (by omega) e.symm
    · rw [if_neg h1]
      by_cases h2 : k = j
      · rw [if_pos h2]; exact hne i hi' (by omega)
      · rw [if_neg h2]; exact List.pairwise_iff_getElem.1 h.nd i j hi' hj' hij
theorem KD.sub (h : KD B w0 l w) {l' : Blks} (hs : l'.Sublist l) : KD B w0 l' w := ⟨h.b, h.lo, fun x hx => h.blk x (hs.subset hx), fun x hx => h.ge x (hs.subset hx), h.nd.sublist hs⟩
end
section
variable {P : Program} {ops : Array Oper} {Q : Exit → Act → World → Prop} {md : Region.Mode} {S : Array Bool → (Nat → Value) → World → Prop} {al : Nat → Bool}
def upd (q : Nat → Value) (i : Nat) (v : Value) : Nat → Value := fun j => if j = i then v else q j
theorem upd_same (q : Nat → Value) (i : Nat) (v : Value) : upd q i v i = v := if_pos rfl
theorem upd_other (q : Nat → Value) {i j : Nat} (v : Value) (h : j ≠ i) : upd q i v j = q j := if_neg h
/-- An operation whose value is known. -/
def YieldsV (P : Program) (md : Region.Mode) (ops : Array Oper) (S : Array Bool → (Nat → Value) → World → Prop) (q : Nat → Value) (i : Nat) (o : Oper) (v : Value) (a : Act) : Prop :=
  (Region.wanted o (yielded ops a.tmps) = true ∧ ∀ L w, May md ops i L → S L q w → Lands P (S (L.setIfInBounds i true) q) v ((execOp a.eval o).run P w)) ∨
  (Region.wanted o (yielded ops a.tmps) = false ∧ v = undef ∧ ∀ L w, May md ops i L → S L q w → S (L.setIfInBounds i true) q w)
/-- One whose value is known when it has come up. -/
def YieldsM (P : Program) (md : Region.Mode) (ops : Array Oper) (S : Array Bool → (Nat → Value) → World → Prop) (i : Nat) (o : Oper) (a : Act) : Prop :=
  Region.wanted o (yielded ops a.tmps) = true ∧ ∀ L q w, May md ops i L → S L q w → ∃ v w', (execOp a.eval o).run P w = .ok (.value v) w' ∧ S (L.setIfInBounds i true) (upd q i v) w'
theorem YieldsV.of_same {q : Nat → Value} {i : Nat} {o : Oper} {v : Value} {a a' : Act} (hy : YieldsV P md ops S q i o v a) (he : execOp a'.eval o = execOp a.eval o)
    (hw : Region.wanted o (yielded ops a'.tmps) = Region.wanted o (yielded ops a.tmps)) : YieldsV P md ops S q i o v a' := by
  unfold YieldsV at *
  rw [he, hw]
  exact hy
theorem YieldsM.of_same {i : Nat} {o : Oper} {a a' : Act} (hy : YieldsM P md ops S i o a) (he : execOp a'.eval o = execOp a.eval o)
    (hw : Region.wanted o (yielded ops a'.tmps) = Region.wanted o (yielded ops a.tmps)) : YieldsM P md ops S i o a' := by
  unfold YieldsM at *
  rw [he, hw]
  exact hy
/-- Whatever order, with S kept; al tells whose value is known late. -/
def anyE (P : Program) (md : Region.Mode) (ops : Array Oper) (Q : Exit → Act → World → Prop) (S : Array Bool → (Nat → Value) → World → Prop) (al : Nat → Bool) : Nat → Array Bool → ((Nat → Value) → Act) → Prop
  | 0, listed, a => Region.ready md ops listed = [] ∧ ∀ q w, S listed q w → Q .normal (a q) w
  | fuel + 1, listed, a =>
    (Region.ready md ops listed = [] → ∀ q w, S listed q w → Q .normal (a q) w) ∧
    ∀ i ∈ Region.ready md ops listed, ∃ o, ops[i]? = some o ∧
      ((al i = true ∧ (∀ q, YieldsM P md ops S i o (a q)) ∧ anyE P md ops Q S al fuel (listed.setIfInBounds i true) (fun q => (a q).put o.dst (q i))) ∨
       (al i = false ∧ ∃ v, (∀ q, YieldsV P md ops S q i o v (a q)) ∧ anyE P md ops Q S al fuel (listed.setIfInBounds i true) (fun q => (a q).put o.dst v)))
theorem same_put1 {oi oj : Oper} {u : Value} {a : Act} (hap : oi.apart ops oj = true) (hsi : ∀ cs b, oi.op ≠ .select cs b) : execOp (a.put oj.dst u).eval oi = execOp a.eval oi ∧ Region.wanted oi (yielded ops (a.put oj.dst u).tmps) = Region.wanted oi (yielded ops a.tmps) := by
  obtain ⟨_, _, h3⟩ := Oper.apart_spec hap
  exact ⟨execOp_put oi hsi a oj.dst u h3, wanted_put oi a oj.dst u h3⟩
theorem same_put2 {oi oj : Oper} {u : Value} {a : Act} (hap : oi.apart ops oj = true) (hsj : ∀ cs b, oj.op ≠ .select cs b) : execOp (a.put oi.dst u).eval oj = execOp a.eval oj ∧ Region.wanted oj (yielded ops (a.put oi.dst u).tmps) = Region.wanted oj (yielded ops a.tmps) := by
  obtain ⟨h1, _, _⟩ := Oper.apart_spec hap
  exact ⟨execOp_put oj hsj a oi.dst u h1, wanted_put oj a oi.dst u h1⟩
theorem anyE_first {i : Nat} {oi : Oper} (hi : ops[i]? = some oi) (hsel : ∀ (j : Nat) (o : Oper) cs b, ops[j]? = some o → o.op ≠ .select cs b) :
    ∀ (fuel : Nat) (listed : Array Bool) (a : (Nat → Value) → Act),
      (∀ j oj, ops[j]? = some oj → j ≠ i → listed.getD j true = false → (∀ e ∈ oj.after, Region.binds md e = true → e.on ≠ i) → oi.apart ops oj = true) →
      i ∈ Region.ready md ops listed →
      ((al i = true ∧ (∀ q, YieldsM P md ops S i oi (a q)) ∧ anyE P md ops Q S al fuel (listed.setIfInBounds i true) (fun q => (a q).put oi.dst (q i))) ∨
       (al i = false ∧ ∃ v, (∀ q, YieldsV P md ops S q i oi v (a q)) ∧ anyE P md ops Q S al fuel (listed.setIfInBounds i true) (fun q => (a q).put oi.dst v))) →
      anyE P md ops Q S al (fuel + 1) listed a := by
  intro fuel
  induction fuel with
  | zero =>
    intro listed a _ hr H
    refine ⟨fun h => (by rw [h] at hr; cases hr), fun j hj => ?_⟩
    by_cases hji : j = i
    · subst hji; exact ⟨oi, hi, H⟩
    · have := ready_mono hj hji
      rcases H with ⟨_, _, H⟩ | ⟨_, _, _, H⟩ <;> (rw [H.1] at this; cases this)
  | succ fuel ih =>
    intro listed a hfree hr H
    refine ⟨fun h => (by rw [h] at hr; cases hr), fun j hj => ?_⟩
    by_cases hji : j = i
    · subst hji; exact ⟨oi, hi, H⟩
    · obtain ⟨hjun, oj, hoj, hall⟩ := mem_ready.1 hj
      have hnot : ∀ e ∈ oj.after, Region.binds md e = true → e.on ≠ i := fun e he hb heq => by
        have h1 := hall e he hb
        have h0 := (mem_ready.1 hr).1
        rw [heq] at h1
        rcases Nat.lt_or_ge i listed.size with h' | h'
        · simp [h'] at h0 h1; rw [h0] at h1; cases h1
        · simp [Array.getElem?_eq_none h'] at h1
      have hap := hfree j oj hoj hji hjun hnot
      have hsi := fun cs b => hsel i oi cs b hi
      have hsj := fun cs b => hsel j oj cs b hoj
      have hfree' : ∀ k ok, ops[k]? = some ok → k ≠ i → (listed.setIfInBounds j true).getD k true = false →
          (∀ e ∈ ok.after, Region.binds md e = true → e.on ≠ i) → oi.apart ops ok = true := fun k ok hk hki hun hno => by
        refine hfree k ok hk hki ?_ hno
        by_cases hjk : j = k
        · subst hjk; exact hjun
        · rw [getD_set_ne true hjk] at hun; exact hun
      have hrj := ready_mono hr (Ne.symm hji)
      have hcm := Array.setIfInBounds_comm (xs := listed) true true hji
      have hcomm : ∀ (u v : (Nat → Value) → Value), (fun q => ((a q).put oj.dst (u q)).put oi.dst (v q)) = fun q => ((a q).put oi.dst (v q)).put oj.dst (u q) :=
        fun u v => funext fun q => (Act.put_comm (a q) (v q) (u q) (Oper.apart_spec hap).2.1).symm
      rcases H with ⟨hial, hy, H⟩ | ⟨hial, v, hy, H⟩
      · obtain ⟨oj', hoj', hx⟩ := H.2 j (ready_mono hj hji)
        obtain rfl : oj = oj' := by rw [hoj] at hoj'; cases hoj'; rfl
        refine ⟨oj, hoj, ?_⟩
        rcases hx with ⟨hjal, hu, hrest⟩ | ⟨hjal, u, hu, hrest⟩
        · refine .inl ⟨hjal, fun q => (hu q).of_same (same_put2 hap hsj).1.symm (same_put2 hap hsj).2.symm, ?_⟩
          refine ih _ _ hfree' hrj (.inl ⟨hial, fun q => (hy q).of_same (same_put1 hap hsi).1 (same_put1 hap hsi).2, ?_⟩)
          rw [hcm, hcomm (fun q => q j) (fun q => q i)]; exact hrest
        · refine .inr ⟨hjal, u, fun q => (hu q).of_same (same_put2 hap hsj).1.symm (same_put2 hap hsj).2.symm, ?_⟩
          refine ih _ _ hfree' hrj (.inl ⟨hial, fun q => (hy q).of_same (same_put1 hap hsi).1 (same_put1 hap hsi).2, ?_⟩)
          rw [hcm, hcomm (fun _ => u) (fun q => q i)]; exact hrest
      · obtain ⟨oj', hoj', hx⟩ := H.2 j (ready_mono hj hji)
        obtain rfl : oj = oj' := by rw [hoj] at hoj'; cases hoj'; rfl
        refine ⟨oj, hoj, ?_⟩
        rcases hx with ⟨hjal, hu, hrest⟩ | ⟨hjal, u, hu, hrest⟩
        · refine .inl ⟨hjal, fun q => (hu q).of_same (same_put2 hap hsj).1.symm (same_put2 hap hsj).2.symm, ?_⟩
          refine ih _ _ hfree' hrj (.inr ⟨hial, v, fun q => (hy q).of_same (same_put1 hap hsi).1 (same_put1 hap hsi).2, ?_⟩)
          rw [hcm, hcomm (fun q => q j) (fun _ => v)]; exact hrest
        · refine .inr ⟨hjal, u, fun q => (hu q).of_same (same_put2 hap hsj).1.symm (same_put2 hap hsj).2.symm, ?_⟩
          refine ih _ _ hfree' hrj (.inr ⟨hial, v, fun q => (hy q).of_same (same_put1 hap hsi).1 (same_put1 hap hsi).2, ?_⟩)
          rw [hcm, hcomm (fun _ => u) (fun _ => v)]; exact hrest
theorem getD_unset {listed : Array Bool} {i j : Nat} (hj : listed.getD j false = true) (hi : listed.getD i true = false) : j ≠ i := fun e => by
  subst e
  rcases Nat.lt_or_ge j listed.size with h' | h'
  · simp [h'] at hi hj; rw [hi] at hj; cases hj
  · simp [Array.getElem?_eq_none h'] at hj
theorem anyE_sound : ∀ (fuel : Nat) (listed : Array Bool) (a : (Nat → Value) → Act), listed.size = ops.size → Closed md ops listed →
    (∀ q q', (∀ j, listed.getD j false = true → q j = q' j) → a q = a q') → anyE P md ops Q S al fuel listed a → ∀ q w, S listed q w → wpAny P md ops Q fuel listed (a q) w
  | 0, _, _, _, _, _, h, q, w, hS => ⟨h.1, h.2 q w hS⟩
  | fuel + 1, listed, a, hs, hc, hk, h, q, w, hS =>
    ⟨fun h0 => h.1 h0 q w hS, fun j hj => by
      obtain ⟨o, ho, hx⟩ := h.2 j hj
      have hun : listed.getD j true = false := (mem_ready.1 hj).1
      unfold Go.wpOp
      simp only [ho]
      rcases hx with ⟨hjal, hy, H⟩ | ⟨hjal, v, hy, H⟩
      · obtain ⟨hw, hy⟩ := hy q
        obtain ⟨v, w', hrun, hS'⟩ := hy listed q w ⟨hs, hc, hj⟩ hS
        simp only [hw, if_true, Oper.wp, hrun, Oper.upon]
        left
        have := anyE_sound fuel (listed.setIfInBounds j true) (fun q => (a q).put o.dst (q j)) (by simpa using hs) (hc.set hj) (fun q q' hq => by
          have hjlt : j < listed.size := by rw [hs]; exact (Array.getElem?_eq_some_iff.1 ho).1
          rw [hk q q' (fun i hi => hq i (getD_set_true hi)), hq j (by simp [hjlt])]) H (upd q j v) w' hS'
        rw [hk q (upd q j v) (fun i hi => (upd_other q v (getD_unset hi hun)).symm)]
        rw [upd_same] at this
        exact this
      · have hnext : ∀ w', S (listed.setIfInBounds j true) q w' → wpAny P md ops Q fuel (listed.setIfInBounds j true) ((a q).put o.dst v) w' := fun w' hS' =>
          anyE_sound fuel (listed.setIfInBounds j true) (fun q => (a q).put o.dst v) (by simpa using hs) (hc.set hj) (fun q q' hq => by
            rw [hk q q' (fun i hi => hq i (getD_set_true hi))]) H q w' hS'
        rcases hy q with ⟨hw, hv⟩ | ⟨hw, rfl, hv⟩
        · simp only [hw, if_true, Oper.wp]
          left
          exact (hv listed w ⟨hs, hc, hj⟩ hS).upon hnext
        · simp only [hw, Bool.false_eq_true, if_false]
          exact hnext _ (hv listed w ⟨hs, hc, hj⟩ hS)⟩
theorem anyE_take {i : Nat} {oi : Oper} {r : List Oper} (v : Value) {fuel : Nat} {listed : Array Bool} {a : (Nat → Value) → Act} (hi : ops.toList.drop i = oi :: r) (hne : al i = false)
    (hs : Region.noSelect ops = true) (hf : Region.free md ops listed i = true) (hr : (Region.ready md ops listed).contains i = true)
    (hy : ∀ q, YieldsV P md ops S q i oi v (a q))
    (h : anyE P md ops Q S al fuel (listed.setIfInBounds i true) (fun q => (a q).put oi.dst v)) : anyE P md ops Q S al (fuel + 1) listed a :=
  anyE_first (at_drop hi) (Region.noSelect_spec hs) fuel listed a (Region.free_spec (at_drop hi) hf) (by simpa using hr) (.inr ⟨hne, v, hy, h⟩)
theorem anyE_made {i : Nat} {oi : Oper} {r : List Oper} {fuel : Nat} {listed : Array Bool} {a : (Nat → Value) → Act} (hi : ops.toList.drop i = oi :: r) (hne : al i = true)
    (hs : Region.noSelect ops = true) (hf : Region.free md ops listed i = true) (hr : (Region.ready md ops listed).contains i = true)
    (hy : ∀ q, YieldsM P md ops S i oi (a q))
    (h : anyE P md ops Q S al fuel (listed.setIfInBounds i true) (fun q => (a q).put oi.dst (q i))) : anyE P md ops Q S al (fuel + 1) listed a :=
  anyE_first (at_drop hi) (Region.noSelect_spec hs) fuel listed a (Region.free_spec (at_drop hi) hf) (by simpa using hr) (.inl ⟨hne, hy, h⟩)
theorem anyE_done {listed : Array Bool} {a : (Nat → Value) → Act} (hr : Region.ready md ops listed = []) (h : ∀ q w, S listed q w → Q .normal (a q) w) : ∀ fuel, anyE P md ops Q S al fuel listed a
  | 0 => ⟨hr, h⟩
  | _ + 1 => ⟨fun _ => h, by rw [hr]; simp⟩
theorem wp_region_anyE {id : Nat} {a : Act} {w : World} (S : Array Bool → (Nat → Value) → World → Prop) (al : Nat → Bool) (hm : P.follows .mixedOrders = true) (hS : S (Array.replicate ops.size false) (fun _ => undef) w.drew)
    (h : anyE P .any ops Q S al ops.size (Array.replicate ops.size false) (fun _ => a)) : (Code.region id ops true).wp P Q a w :=
  wp_region_any hm (anyE_sound (a := fun _ => a) _ _ (by simp) Closed.start (fun _ _ _ => rfl) h _ _ hS)
end
/-! Variables that a region makes, and stores into once. -/
structure MV where
  al : Nat
  st : Nat
  T : TypeId
  z : Array Value
  v : Array Value
  form : Nat → Value
/-- A pointer to a block. -/
abbrev ptr (g : Nat) : Value := .pointer (some ⟨g, 0, none⟩)
/-- s, t: stores into blocks that were there; lf tells the blocks by whether they have come up. -/
structure KM (B n0 : Nat) (w0 : World) (lf : Bool → Bool → Blks) (s t : Nat) (m : List MV) (L : Array Bool) (q : Nat → Value) (w : World) : Prop where
  k : KD B w0 (lf (L.getD s false) (L.getD t false)) w
  hi : n0 ≤ w.heap.size
  low : ∀ b c, ∀ x ∈ lf b c, x.1 < n0
  Bn : B ≤ n0
  ex : ∃ γ : Nat → Nat, (∀ x ∈ m, L.getD x.al false = true → q x.al = x.form (γ x.al) ∧ n0 ≤ γ x.al ∧ Blk w (γ x.al) x.T (if L.getD x.st false = true then x.v else x.z)) ∧
    ∀ x ∈ m, ∀ y ∈ m, x.al ≠ y.al → L.getD x.al false = true → L.getD y.al false = true → γ x.al ≠ γ y.al
section
variable {P : Program} {ops : Array Oper} {Q : Exit → Act → World → Prop} {md : Region.Mode} {B n0 : Nat} {w0 w w' : World} {lf : Bool → Bool → Blks} {s t : Nat} {m : List MV} {L : Array Bool} {q : Nat → Value}
/-- The operation makes nothing, and stores nothing. -/
def quiet (s t : Nat) (m : List MV) (i : Nat) : Bool := i != s && i != t && m.all fun x => i != x.al && i != x.st
theorem KM.set_quiet {i : Nat} (hq : quiet s t m i = true) (h : KM B n0 w0 lf s t m L q w) : KM B n0 w0 lf s t m (L.setIfInBounds i true) q w := by
  simp only [quiet, Bool.and_eq_true, bne_iff_ne, List.all_eq_true] at hq
  obtain ⟨⟨hs, ht⟩, hm⟩ := hq
  obtain ⟨γ, hma, hap⟩ := h.ex
  refine ⟨?_, h.hi, h.low, h.Bn, γ, fun x hx => ?_, fun x hx y hy => ?_⟩
  · rw [getD_set_ne false hs, getD_set_ne false ht]; exact h.k
  · rw [getD_set_ne false (hm x hx).1, getD_set_ne false (hm x hx).2]; exact hma x hx
  · rw [getD_set_ne false (hm x hx).1, getD_set_ne false (hm y hy).1]; exact hap x hx y hy
theorem KM.below (h : KM B n0 w0 lf s t m L q w) (hb : Below w.heap.size w w') : KM B n0 w0 lf s t m L q w' :=
  have ⟨γ, hma, hap⟩ := h.ex
  ⟨h.k.below hb, Nat.le_trans h.hi hb.size, h.low, h.Bn, γ, fun x hx hl => have ⟨e, hg, hb'⟩ := hma x hx hl; ⟨e, hg, hb'.below hb hb'.lt⟩, hap⟩
theorem KM.begin (hk : KD B w0 (lf false false) w) (hn : n0 = w.heap.size) (hlow : ∀ b c, ∀ x ∈ lf b c, x.1 < n0) (n : Nat) : KM B n0 w0 lf s t m (Array.replicate n false) q w.drew := by
  have hf : ∀ j, (Array.replicate n false).getD j false = false := fun j => by simp [Array.getElem?_replicate]; split <;> simp
  refine ⟨by rw [hf, hf]; exact hk.drew, by rw [hn]; exact Nat.le_refl _, hlow, by rw [hn]; exact hk.lo, fun _ => 0, fun x _ hl => ?_, fun x _ y _ _ hl => ?_⟩ <;> (rw [hf] at hl; cases hl)
theorem Lands.weak {P : Program} {R R' : World → Prop} {v : Value} {r : Result Next} (h : Lands P R v r) (hR : ∀ w, R w → R' w) : Lands P R' v r := by
  cases r with
  | ok n w' =>
    cases n with
    | value u => exact ⟨h.1, hR _ h.2⟩
    | skip => exact ⟨h.1, hR _ h.2⟩
    | enter f args => exact Calls.mono h fun e w'' ⟨he, hS⟩ => ⟨he, hR _ hS⟩
    | _ => exact h.elim
  | halt x w' => exact h.elim
theorem ym_other {i : Nat} {o : Oper} {v : Value} {a : Act} (hq : quiet s t m i = true) (hw : Region.wanted o (yielded ops a.tmps) = true)
    (h : ∀ L w, KM B n0 w0 lf s t m L q w → Lands P (KM B n0 w0 lf s t m L q) v ((execOp a.eval o).run P w)) : YieldsV P md ops (KM B n0 w0 lf s t m) q i o v a :=
  .inl ⟨hw, fun L w _ hS => (h L w hS).weak fun _ h' => h'.set_quiet hq⟩
theorem ym_skip {i : Nat} {o : Oper} {a : Act} (hq : quiet s t m i = true) (hw : Region.wanted o (yielded ops a.tmps) = false) : YieldsV P md ops (KM B n0 w0 lf s t m) q i o undef a :=
  .inr ⟨hw, rfl, fun _ _ _ hS => hS.set_quiet hq⟩
theorem KM.call {f : FuncId} {args : Array Value} {v : Value} {r : Result Next} (hT : KM B n0 w0 lf s t m L q w) (hc : Calls P f args w fun e w' => e = .returned v ∧ Below w.heap.size w w') (h : r = .ok (.enter f args) w) : Lands P (KM B n0 w0 lf s t m L q) v r :=
  lands_call h (hc.mono fun _ _ ⟨he, hb⟩ => ⟨he, hT.below hb⟩)
theorem KD.call {l : Blks} {f : FuncId} {args : Array Value} {v : Value} {r : Result Next} (hT : KD B w0 l w) (hc : Calls P f args w fun e w' => e = .returned v ∧ Below w.heap.size w w') (h : r = .ok (.enter f args) w) : Lands P (KD B w0 l) v r :=
  lands_call h (hc.mono fun _ _ ⟨he, hb⟩ => ⟨he, hT.below hb⟩)
/-- The operation i, whose value is v, comes up. -/
theorem kO (i : Nat) (v : Value) {oi : Oper} {r : List Oper} {al : Nat → Bool} {fuel : Nat} {listed : Array Bool} {a : (Nat → Value) → Act} (hi : ops.toList.drop i = oi :: r) (hne : al i = false)
    (hq : quiet s t m i = true) (hw : ∀ q, Region.wanted oi (yielded ops (a q).tmps) = true)
    (h : ∀ q L w, KM B n0 w0 lf s t m L q w → Lands P (KM B n0 w0 lf s t m L q) v ((execOp (a q).eval oi).run P w))
    (k : anyE P md ops Q (KM B n0 w0 lf s t m) al fuel (listed.setIfInBounds i true) (fun q => (a q).put oi.dst v))
    (hb : (Region.noSelect ops && (Region.free md ops listed i && (Region.ready md ops listed).contains i)) = true := by kernel_rfl) : anyE P md ops Q (KM B n0 w0 lf s t m) al (fuel + 1) listed a := by
  simp only [Bool.and_eq_true] at hb
  exact anyE_take v hi hne hb.1 hb.2.1 hb.2.2 (fun q => ym_other hq (hw q) (fun L w => h q L w)) k
/-- An operation that is a value. -/
theorem kV (i : Nat) (v : Value) {oi : Oper} {r : List Oper} {al : Nat → Bool} {fuel : Nat} {listed : Array Bool} {a : (Nat → Value) → Act} (hi : ops.toList.drop i = oi :: r)
    (k : anyE P md ops Q (KM B n0 w0 lf s t m) al fuel (listed.setIfInBounds i true) (fun q => (a q).put oi.dst v))
    (hne : al i = false := by rfl) (hq : quiet s t m i = true := by rfl) (hw : ∀ q, Region.wanted oi (yielded ops (a q).tmps) = true := by intro _; rfl)
    (h : ∀ q w, (execOp (a q).eval oi).run P w = .ok (.value v) w := by intro _ _; go_simp <;> rfl)
    (hb : (Region.noSelect ops && (Region.free md ops listed i && (Region.ready md ops listed).contains i)) = true := by kernel_rfl) : anyE P md ops Q (KM B n0 w0 lf s t m) al (fuel + 1) listed a :=
  kO i v hi hne hq hw (fun q _ w hT => by rw [h q w]; exact ⟨rfl, hT⟩) k hb
/-- One that is looked at by itself. -/
theorem kW (i : Nat) (v : Value) {oi : Oper} {r : List Oper} {al : Nat → Bool} {fuel : Nat} {listed : Array Bool} {a : (Nat → Value) → Act} (hi : ops.toList.drop i = oi :: r)
    (h : ∀ q L w, KM B n0 w0 lf s t m L q w → Lands P (KM B n0 w0 lf s t m L q) v ((execOp (a q).eval oi).run P w))
    (k : anyE P md ops Q (KM B n0 w0 lf s t m) al fuel (listed.setIfInBounds i true) (fun q => (a q).put oi.dst v))
    (hne : al i = false := by rfl) (hq : quiet s t m i = true := by rfl) (hw : ∀ q, Region.wanted oi (yielded ops (a q).tmps) = true := by intro _; rfl)
    (hb : (Region.noSelect ops && (Region.free md ops listed i && (Region.ready md ops listed).contains i)) = true := by kernel_rfl) : anyE P md ops Q (KM B n0 w0 lf s t m) al (fuel + 1) listed a :=
  kO i v hi hne hq hw h k hb
/-- A call. -/
theorem kC (i : Nat) {v : Value} {f : FuncId} {args : Array Value} {oi : Oper} {r : List Oper} {al : Nat → Bool} {fuel : Nat} {listed : Array Bool} {a : (Nat → Value) → Act} (hi : ops.toList.drop i = oi :: r)
    (hc : ∀ w, Calls P f args w fun e w' => e = .returned v ∧ Below w.heap.size w w')
    (k : anyE P md ops Q (KM B n0 w0 lf s t m) al fuel (listed.setIfInBounds i true) (fun q => (a q).put oi.dst v))
    (hne : al i = false := by rfl) (hq : quiet s t m i = true := by rfl) (hw : ∀ q, Region.wanted oi (yielded ops (a q).tmps) = true := by intro _; rfl)
    (h : ∀ q w, (execOp (a q).eval oi).run P w = .ok (.enter f args) w := by intro _ _; go_simp)
    (hb : (Region.noSelect ops && (Region.free md ops listed i && (Region.ready md ops listed).contains i)) = true := by kernel_rfl) : anyE P md ops Q (KM B n0 w0 lf s t m) al (fuel + 1) listed a :=
  kO i v hi hne hq hw (fun q _ w hT => hT.call (hc w) (h q w)) k hb
/-- Number i comes ahead of the store s. -/
theorem ym_ahead {i n : Nat} {o : Oper} {v : Value} {a : Act} (hq : quiet s t m i = true) (hb : waits md ops n s i = true) (hw : Region.wanted o (yielded ops a.tmps) = true)
    (h : ∀ L w, L.getD s false = false → KM B n0 w0 lf s t m L q w → Lands P (KM B n0 w0 lf s t m L q) v ((execOp a.eval o).run P w)) : YieldsV P md ops (KM B n0 w0 lf s t m) q i o v a :=
  .inl ⟨hw, fun L w hm hS => (h L w (not_yet hm hb) hS).weak fun _ h' => h'.set_quiet hq⟩
/-- The same, ahead of the store s. -/
theorem kA (i n : Nat) (v : Value) {oi : Oper} {r : List Oper} {al : Nat → Bool} {fuel : Nat} {listed : Array Bool} {a : (Nat → Value) → Act} (hi : ops.toList.drop i = oi :: r) (hne : al i = false)
    (hq : quiet s t m i = true) (hw : ∀ q, Region.wanted oi (yielded ops (a q).tmps) = true)
    (h : ∀ q L w, KD B w0 (lf false (L.getD t false)) w → KM B n0 w0 lf s t m L q w → Lands P (KM B n0 w0 lf s t m L q) v ((execOp (a q).eval oi).run P w))
    (k : anyE P .any ops Q (KM B n0 w0 lf s t m) al fuel (listed.setIfInBounds i true) (fun q => (a q).put oi.dst v))
    (hb : (Region.noSelect ops && (Region.free .any ops listed i && ((Region.ready .any ops listed).contains i && waits .any ops n s i))) = true := by kernel_rfl) : anyE P .any ops Q (KM B n0 w0 lf s t m) al (fuel + 1) listed a := by
  simp only [Bool.and_eq_true] at hb
  exact anyE_take v hi hne hb.1 hb.2.1 hb.2.2.1 (fun q => ym_ahead (n := n) hq hb.2.2.2 (hw q) (fun L w hL hT => h q L w (by have hk := hT.k; rw [hL] at hk; exact hk) hT)) k
/-- All numbers are apart. -/
def goodM (s t : Nat) (m : List MV) : Bool := decide ((m.map (·.al) ++ m.map (·.st) ++ [s, t]).Nodup)
theorem nodup_same {α : Type _} (f : α → Nat) : ∀ {l : List α}, (l.map f).Nodup → ∀ {x y : α}, x ∈ l → y ∈ l → f x = f y → x = y
  | [], _, x, _, hx, _, _ => by cases hx
  | a :: l, h, x, y, hx, hy, e => by
    rw [List.map_cons, List.nodup_cons] at h
    rcases List.mem_cons.1 hx with hx1 | hx1
    · rcases List.mem_cons.1 hy with hy1 | hy1
      · exact hx1.trans hy1.symm
      · subst hx1; exact absurd (e ▸ List.mem_map_of_mem hy1) h.1
    · rcases List.mem_cons.1 hy with hy1 | hy1
      · subst hy1; exact absurd (e ▸ List.mem_map_of_mem hx1) h.1
      · exact nodup_same f h.2 hx1 hy1 e
structure Good (s t : Nat) (m : List MV) : Prop where
  al : ∀ x ∈ m, ∀ y ∈ m, x.al = y.al → x = y
  st : ∀ x ∈ m, ∀ y ∈ m, x.st = y.st → x = y
  as_ : ∀ x ∈ m, ∀ y ∈ m, x.al ≠ y.st
  al1 : ∀ x ∈ m, x.al ≠ s ∧ x.al ≠ t
  st1 : ∀ x ∈ m, x.st ≠ s ∧ x.st ≠ t
  ne : s ≠ t
theorem good (h : goodM s t m = true) : Good s t m := by
  have h := of_decide_eq_true h
  rw [List.nodup_append, List.nodup_append] at h
  obtain ⟨⟨h1, h2, h3⟩, h4, h5⟩ := h
  refine ⟨fun x hx y hy => nodup_same _ h1 hx hy, fun x hx y hy => nodup_same _ h2 hx hy, fun x hx y hy => h3 _ (List.mem_map_of_mem hx) _ (List.mem_map_of_mem hy), fun x hx => ⟨?_, ?_⟩, fun x hx => ⟨?_, ?_⟩, by simpa using h4⟩
  · exact h5 _ (List.mem_append_left _ (List.mem_map_of_mem hx)) _ (by simp)
  · exact h5 _ (List.mem_append_left _ (List.mem_map_of_mem hx)) _ (by simp)
  · exact h5 _ (List.mem_append_right _ (List.mem_map_of_mem hx)) _ (by simp)
  · exact h5 _ (List.mem_append_right _ (List.mem_map_of_mem hx)) _ (by simp)
theorem KM.setAl (hg : goodM s t m = true) {x : MV} (hx : x ∈ m) (h : KM B n0 w0 lf s t m L q w) (hst : L.getD x.st false = false) (hsz : x.al < L.size) :
    KM B n0 w0 lf s t m (L.setIfInBounds x.al true) (upd q x.al (x.form w.heap.size)) (w.alloc (.cells x.z x.T)) := by
  have G := good hg
  obtain ⟨γ, hma, hap⟩ := h.ex
  have hγ : ∀ y ∈ m, y.al ≠ x.al → (fun j => if j = x.al then w.heap.size else γ j) y.al = γ y.al := fun y _ e => if_neg e
  refine ⟨?_, by simp; have := h.hi; omega, h.low, h.Bn, fun j => if j = x.al then w.heap.size else γ j, fun y hy => ?_, fun y hy z hz => ?_⟩
  · rw [getD_set_ne false (G.al1 x hx).1, getD_set_ne false (G.al1 x hx).2]; exact h.k.more _
  · by_cases e : y.al = x.al
    · have e' := G.al y hy x hx e
      subst e'
      intro _
      rw [getD_set_ne false (G.as_ y hy y hy), hst, upd_same, show (fun j => if j = y.al then w.heap.size else γ j) y.al = w.heap.size from if_pos rfl, if_neg (by decide)]
      exact ⟨rfl, h.hi, Blk.new w _ _⟩
    · rw [getD_set_ne false (fun e' => e e'.symm), getD_set_ne false (G.as_ x hx y hy), upd_other _ _ e, hγ y hy e]
      intro hl
      obtain ⟨e1, e2, e3⟩ := hma y hy hl
      exact ⟨e1, e2, e3.alloc _⟩
  · have far : ∀ y ∈ m, L.getD y.al false = true → γ y.al ≠ w.heap.size := fun y hy hl e => by
      have := (hma y hy hl).2.2.lt; omega
    intro hne hy1 hz1
    by_cases ey : y.al = x.al
    · have ez : z.al ≠ x.al := fun e => hne (ey.trans e.symm)
      rw [getD_set_ne false (fun e' => ez e'.symm)] at hz1
      rw [hγ z hz ez, ey]
      show (if x.al = x.al then _ else _) ≠ _
      rw [if_pos rfl]
      exact fun e => far z hz hz1 e.symm
    · rw [getD_set_ne false (fun e' => ey e'.symm)] at hy1
      rw [hγ y hy ey]
      by_cases ez : z.al = x.al
      · rw [ez]
        show _ ≠ (if x.al = x.al then _ else _)
        rw [if_pos rfl]; exact far y hy hy1
      · rw [getD_set_ne false (fun e' => ez e'.symm)] at hz1
        rw [hγ z hz ez]
        exact hap y hy z hz hne hy1 hz1
/-- A variable is made. -/
theorem ym_made {n : Nat} {o : Oper} {a : Act} (x : MV) (hg : goodM s t m = true) (hx : x ∈ m) (hb : waits md ops n x.st x.al = true ∨ ops.size ≤ x.st) (hw : Region.wanted o (yielded ops a.tmps) = true)
    (h : ∀ w, (execOp a.eval o).run P w = .ok (.value (x.form w.heap.size)) (w.alloc (.cells x.z x.T))) : YieldsM P md ops (KM B n0 w0 lf s t m) x.al o a :=
  ⟨hw, fun L q w hm hS => by
    have hst : L.getD x.st false = false := by
      rcases hb with hb | hb
      · exact not_yet hm hb
      · have hsz := hm.size
        simp [Array.getElem?_eq_none (show L.size ≤ x.st by omega)]
    obtain ⟨_, o', ho', _⟩ := mem_ready.1 hm.ready
    have hlt : x.al < L.size := by rw [hm.size]; exact (Array.getElem?_eq_some_iff.1 ho').1
    exact ⟨_, _, h w, hS.setAl hg hx hst hlt⟩⟩
theorem KM.setSt (hg : goodM s t m = true) {x : MV} (hx : x ∈ m) (h : KM B n0 w0 lf s t m L q w) (hal : L.getD x.al false = true) (hsz : x.st < L.size) {R : World → Prop}
    (hR : ∀ w', KM B n0 w0 lf s t m (L.setIfInBounds x.st true) q w' → R w') : ∃ g, q x.al = x.form g ∧ Blk w g x.T (if L.getD x.st false = true then x.v else x.z) ∧ R (w.setRow g x.v) := by
  have G := good hg
  obtain ⟨γ, hma, hap⟩ := h.ex
  obtain ⟨hq, hn, hb⟩ := hma x hx hal
  refine ⟨γ x.al, hq, hb, hR _ ⟨?_, by simp; exact h.hi, h.low, h.Bn, γ, fun y hy => ?_, fun y hy z hz => ?_⟩⟩
  · rw [getD_set_ne false (G.st1 x hx).1, getD_set_ne false (G.st1 x hx).2]
    exact ⟨below_setRow' h.k.b (Nat.le_trans h.Bn hn) _, by simp; exact h.k.lo, fun y hy => (h.k.blk y hy).row_far (by have := h.low _ _ y hy; omega) _, h.k.ge, h.k.nd⟩
  · rw [getD_set_ne false (fun e => G.as_ y hy x hx e.symm)]
    intro hl
    obtain ⟨e1, e2, e3⟩ := hma y hy hl
    by_cases e : y.st = x.st
    · have e' := G.st y hy x hx e
      subst e'
      refine ⟨hq, e2, ?_⟩
      rw [if_pos (by simp [hsz])]
      exact hb.row_ _
    · rw [getD_set_ne false (fun e' => e e'.symm)]
      refine ⟨e1, e2, e3.row_far (hap y hy x hx (fun e5 => e (by rw [G.al y hy x hx e5])) hl hal) _⟩
  · rw [getD_set_ne false (fun e => G.as_ y hy x hx e.symm), getD_set_ne false (fun e => G.as_ z hz x hx e.symm)]
    exact hap y hy z hz
theorem already' {i j : Nat} {L : Array Bool} (hm : May md ops i L) (h : (upOnce md ops [i]).contains j = true) : L.getD j false = true := by
  obtain ⟨_, o, ho, hall⟩ := mem_ready.1 hm.ready
  have h' : j ∈ upOnce md ops [i] := by simpa using h
  simp only [upOnce, List.flatMap_cons, List.flatMap_nil, List.append_nil, ho, Option.map_some, Option.getD_some, List.mem_map, List.mem_filter] at h'
  obtain ⟨e, ⟨he, hb⟩, rfl⟩ := h'
  exact hall e (Array.mem_toList_iff.1 he) hb
/-- The store into a variable that was made. -/
theorem ym_stored {o : Oper} {a : Act} (x : MV) (ty : TypeId) (p y : Operand) (hg : goodM s t m = true) (hx : x ∈ m) (hf : x.form = ptr) (hb : (upOnce md ops [x.st]).contains x.al = true) (hw : Region.wanted o (yielded ops a.tmps) = true)
    (ho : o.op = .store ty p y) (hp : a.eval p = q x.al) (hy : a.eval y = .agg x.v) (hi : (P.info? ty).map (·.size) = some x.v.size) (hz : x.z.size = x.v.size) (h1 : x.v.all (·.oneCell') = true) : YieldsV P md ops (KM B n0 w0 lf s t m) q x.st o undef a :=
  .inl ⟨hw, fun L w hm hS => by
    have hal := already' hm hb
    obtain ⟨_, o', ho', _⟩ := mem_ready.1 hm.ready
    have hlt : x.st < L.size := by rw [hm.size]; exact (Array.getElem?_eq_some_iff.1 ho').1
    obtain ⟨g, e1, e3, hR⟩ := hS.setSt hg hx hal hlt (fun _ h => h)
    rw [hm.unlisted.1, if_neg (by decide)] at e3
    rw [hf] at e1
    exact lands_store ty p y ho g x.v (hp.trans e1) hy x.T x.z e3 hi hz h1 hR⟩
/-- Number i comes behind x was made, and x has no store. -/
theorem ym_behind {i : Nat} {o : Oper} {v : Value} {a : Act} (x : MV) (hx : x ∈ m) (hq : quiet s t m i = true) (hb : (upOnce md ops [i]).contains x.al = true) (hst : ops.size ≤ x.st) (hw : Region.wanted o (yielded ops a.tmps) = true)
    (h : ∀ L w g, q x.al = x.form g → Blk w g x.T x.z → KM B n0 w0 lf s t m L q w → Lands P (KM B n0 w0 lf s t m L q) v ((execOp a.eval o).run P w)) : YieldsV P md ops (KM B n0 w0 lf s t m) q i o v a :=
  .inl ⟨hw, fun L w hm hS => by
    obtain ⟨γ, hma, _⟩ := hS.ex
    obtain ⟨e1, _, e3⟩ := hma x hx (already' hm hb)
    have hsz := hm.size
    rw [if_neg (by simp [Array.getElem?_eq_none (show L.size ≤ x.st by omega)])] at e3
    exact (h L w _ e1 e3 hS).weak fun _ h' => h'.set_quiet hq⟩
/-- The store s into a block that was there. -/
theorem ym_first {k g : Nat} {o : Oper} {a : Act} {T : TypeId} {cs0 cs : Array Value} (ty : TypeId) (p y : Operand) (hg : goodM s t m = true) (hw : Region.wanted o (yielded ops a.tmps) = true)
    (ho : o.op = .store ty p y) (hp : a.eval p = .pointer (some ⟨g, 0, none⟩)) (hy : a.eval y = .agg cs) (hi : (P.info? ty).map (·.size) = some cs.size) (hz : cs0.size = cs.size) (h1 : cs.all (·.oneCell') = true)
    (hk : ∀ c, (lf false c)[k]? = some (g, T, cs0)) (hl : ∀ c, lf true c = (lf false c).set k (g, T, cs)) : YieldsV P md ops (KM B n0 w0 lf s t m) q s o undef a :=
  .inl ⟨hw, fun L w hm hS => by
    have G := good hg
    have hk0 := hS.k
    have hun := hm.unlisted
    rw [hun.1] at hk0
    have hmem : (g, T, cs0) ∈ lf false (L.getD t false) := List.mem_of_getElem? (hk _)
    have hgn : g < n0 := hS.low _ _ _ hmem
    obtain ⟨γ, hma, hap⟩ := hS.ex
    refine lands_store ty p y ho g cs hp hy T cs0 (hk0.blk _ hmem) hi hz h1 ⟨?_, by simp; exact hS.hi, hS.low, hS.Bn, γ, fun x hx => ?_, fun x hx z hz => ?_⟩
    · rw [hun.2, getD_set_ne false G.ne, hl]; exact hk0.put (hk _) cs
    · rw [getD_set_ne false (fun e => (G.al1 x hx).1 e.symm), getD_set_ne false (fun e => (G.st1 x hx).1 e.symm)]
      intro hl
      obtain ⟨e1, e2, e3⟩ := hma x hx hl
      exact ⟨e1, e2, e3.row_far (by omega) _⟩
    · rw [getD_set_ne false (fun e => (G.al1 x hx).1 e.symm), getD_set_ne false (fun e => (G.al1 z hz).1 e.symm)]
      exact hap x hx z hz⟩
/-- The end: a new variable more is among the blocks. -/
theorem KD.take {l : Blks} {g : Nat} {T : TypeId} {v : Array Value} (h : KD B w0 l w) (hlow : ∀ x ∈ l, x.1 ≠ g) (hB : B ≤ g) (hb : Blk w g T v) : KD B w0 ((g, T, v) :: l) w :=
  ⟨h.b, h.lo, fun x hx => by
    rcases List.mem_cons.1 hx with rfl | hx
    · exact hb
    · exact h.blk x hx, fun x hx => by
    rcases List.mem_cons.1 hx with rfl | hx
    · exact hB
    · exact h.ge x hx, List.Pairwise.cons (fun y hy e => hlow y hy e.symm) h.nd⟩
/-- What is known when all has come up, variable by variable. -/
structure KE2 (B n0 : Nat) (w0 : World) (l : Blks) (m : List MV) (q : Nat → Value) (w : World) : Prop where
  k : KD B w0 l w
  Bn : B ≤ n0
  ex : ∃ γ : Nat → Nat, (∀ x ∈ m, q x.al = x.form (γ x.al) ∧ n0 ≤ γ x.al ∧ Blk w (γ x.al) x.T x.v ∧ ∀ y ∈ l, y.1 ≠ γ x.al) ∧ m.Pairwise fun x y => γ x.al ≠ γ y.al
theorem KE2.next {l : Blks} {x : MV} {m : List MV} (h : KE2 B n0 w0 l (x :: m) q w) : ∃ g, q x.al = x.form g ∧ KE2 B n0 w0 ((g, x.T, x.v) :: l) m q w := by
  obtain ⟨γ, hma, hap⟩ := h.ex
  obtain ⟨e1, e2, e3, e4⟩ := hma x (.head _)
  refine ⟨γ x.al, e1, h.k.take e4 (Nat.le_trans h.Bn e2) e3, h.Bn, γ, fun y hy => ?_, (List.pairwise_cons.1 hap).2⟩
  obtain ⟨f1, f2, f3, f4⟩ := hma y (.tail _ hy)
  refine ⟨f1, f2, f3, fun z hz => ?_⟩
  rcases List.mem_cons.1 hz with rfl | hz
  · exact (List.pairwise_cons.1 hap).1 y hy
  · exact f4 z hz
theorem KM.out (hg : goodM s t m = true) (h : KM B n0 w0 lf s t m L q w) (hall : m.all (fun x => L.getD x.al false && (L.getD x.st false || decide (x.st ≥ 2000))) = true) (hsame : ∀ x ∈ m, x.st ≥ 2000 → x.v = x.z) {b c : Bool} (hb : L.getD s false = b) (hc : L.getD t false = c) : KE2 B n0 w0 (lf b c) m q w := by
  have G := good hg
  simp only [List.all_eq_true, Bool.and_eq_true, Bool.or_eq_true, decide_eq_true_iff] at hall
  have hk := h.k
  rw [hb, hc] at hk
  obtain ⟨γ, hma, hap⟩ := h.ex
  refine ⟨hk, h.Bn, γ, fun x hx => ?_, ?_⟩
  · obtain ⟨e1, e2, e3⟩ := hma x hx (hall x hx).1
    have e3' : Blk w (γ x.al) x.T x.v := by
      rcases (hall x hx).2 with h1 | h1
      · rw [if_pos h1] at e3; exact e3
      · split at e3
        · exact e3
        · rw [hsame x hx h1]; exact e3
    exact ⟨e1, e2, e3', fun y hy => by have := h.low _ _ y hy; omega⟩
  · have h0 := of_decide_eq_true hg
    rw [List.nodup_append, List.nodup_append] at h0
    have h1 : m.Pairwise fun x y => x.al ≠ y.al := by simpa [List.Nodup, List.pairwise_map] using h0.1.1
    refine List.Pairwise.imp_of_mem (fun hx hy hne => ?_) h1
    exact hap _ hx _ hy hne (hall _ hx).1 (hall _ hy).1
theorem KM.outs (hg : goodM s t m = true) (h : KM B n0 w0 lf s t m L q w) (hall : m.all (fun x => L.getD x.al false && L.getD x.st false) = true) {b c : Bool} (hb : L.getD s false = b) (hc : L.getD t false = c) : KE2 B n0 w0 (lf b c) m q w := by
  have G := good hg
  simp only [List.all_eq_true, Bool.and_eq_true] at hall
  have hk := h.k
  rw [hb, hc] at hk
  obtain ⟨γ, hma, hap⟩ := h.ex
  refine ⟨hk, h.Bn, γ, fun x hx => ?_, ?_⟩
  · obtain ⟨e1, e2, e3⟩ := hma x hx (hall x hx).1
    rw [if_pos (hall x hx).2] at e3
    exact ⟨e1, e2, e3, fun y hy => by have := h.low _ _ y hy; omega⟩
  · have h0 := of_decide_eq_true hg
    rw [List.nodup_append, List.nodup_append] at h0
    have h1 : m.Pairwise fun x y => x.al ≠ y.al := by simpa [List.Nodup, List.pairwise_map] using h0.1.1
    refine List.Pairwise.imp_of_mem (fun hx hy hne => ?_) h1
    exact hap _ hx _ hy hne (hall _ hx).1 (hall _ hy).1
end
end Go.Proofs.YtggalphgnloneaaGreat
