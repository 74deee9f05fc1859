/- The law of XReg for a region that makes a variable besides: its address (q) is known when it is made alone. -/
import Derived.Test.YtjggclhhimccoaaReg
namespace Go.Proofs.Ytjggclhhimccoaa
open Go.RowKit
section
variable {P : Program} {ops : Array Oper} {Q : Exit → Act → World → Prop} {md : Region.Mode} {S : Array Bool → Value → World → Prop} {al : Nat}
def YieldsQ (P : Program) (md : Region.Mode) (ops : Array Oper) (S : Array Bool → Value → World → Prop) (q : Value) (i : Nat) (o : Oper) (v : Value) (a : Act) : Prop :=
  Region.wanted o (yielded ops a.tmps) = true ∧ ∀ L w, May md ops i L → S L q w → Lands P (S (L.setIfInBounds i true) q) v ((execOp a.eval o).run P w)
def YieldsA (P : Program) (md : Region.Mode) (ops : Array Oper) (S : Array Bool → Value → World → Prop) (i : Nat) (o : Oper) (a : Act) : Prop :=
  Region.wanted o (yielded ops a.tmps) = true ∧ ∀ L q w, May md ops i L → S L q w → ∃ q' w', (execOp a.eval o).run P w = .ok (.value q') w' ∧ S (L.setIfInBounds i true) q' w'
theorem YieldsQ.of_same {q : Value} {i : Nat} {o : Oper} {v : Value} {a a' : Act} (hy : YieldsQ P md ops S q i o v a) (he : execOp a'.eval o = execOp a.eval o)
    (hw : Region.wanted o (yielded ops a'.tmps) = Region.wanted o (yielded ops a.tmps)) : YieldsQ P md ops S q i o v a' := by
  unfold YieldsQ at *
  rw [he, hw]
  exact hy
theorem YieldsA.of_same {i : Nat} {o : Oper} {a a' : Act} (hy : YieldsA P md ops S i o a) (he : execOp a'.eval o = execOp a.eval o)
    (hw : Region.wanted o (yielded ops a'.tmps) = Region.wanted o (yielded ops a.tmps)) : YieldsA P md ops S i o a' := by
  unfold YieldsA at *
  rw [he, hw]
  exact hy
/-- Whatever order, with S kept; al makes the variable. -/
def anyA (P : Program) (md : Region.Mode) (ops : Array Oper) (Q : Exit → Act → World → Prop) (S : Array Bool → Value → World → Prop) (al : Nat) : Nat → Array Bool → (Value → Act) → Prop
  | 0, listed, a => Region.ready md ops listed = [] ∧ ∀ q w, S listed q w → Q .normal (a q) w
  | fuel + 1, listed, a =>
    (Region.ready md ops listed = [] → ∀ q w, S listed q w → Q .normal (a q) w) ∧
    ∀ i ∈ Region.ready md ops listed, ∃ o, ops[i]? = some o ∧
      ((i = al ∧ (∀ q, YieldsA P md ops S i o (a q)) ∧ anyA P md ops Q S al fuel (listed.setIfInBounds i true) (fun q => (a q).put o.dst q)) ∨
       (i ≠ al ∧ ∃ v, (∀ q, YieldsQ P md ops S q i o v (a q)) ∧ anyA P md ops Q S al fuel (listed.setIfInBounds i true) (fun q => (a q).put o.dst v)))
theorem same_put {oi oj : Oper} {u : Value} {a : Act} (hap : oi.apart ops oj = true) (hsi : ∀ cs b, oi.op ≠ .select cs b) : execOp (a.put oj.dst u).eval oi = execOp a.eval oi ∧ Region.wanted oi (yielded ops (a.put oj.dst u).tmps) = Region.wanted oi (yielded ops a.tmps) := by
  obtain ⟨_, _, h3⟩ := Oper.apart_spec hap
  exact ⟨execOp_put oi hsi a oj.dst u h3, wanted_put oi a oj.dst u h3⟩
theorem same_put' {oi oj : Oper} {u : Value} {a : Act} (hap : oi.apart ops oj = true) (hsj : ∀ cs b, oj.op ≠ .select cs b) : execOp (a.put oi.dst u).eval oj = execOp a.eval oj ∧ Region.wanted oj (yielded ops (a.put oi.dst u).tmps) = Region.wanted oj (yielded ops a.tmps) := by
  obtain ⟨h1, _, _⟩ := Oper.apart_spec hap
  exact ⟨execOp_put oj hsj a oi.dst u h1, wanted_put oj a oi.dst u h1⟩
theorem anyA_first {i : Nat} {oi : Oper} (hi : ops[i]? = some oi) (hsel : ∀ (j : Nat) (o : Oper) cs b, ops[j]? = some o → o.op ≠ .select cs b) :
    ∀ (fuel : Nat) (listed : Array Bool) (a : Value → Act),
      (∀ j oj, ops[j]? = some oj → j ≠ i → listed.getD j true = false → (∀ e ∈ oj.after, Region.binds md e = true → e.on ≠ i) → oi.apart ops oj = true) →
      i ∈ Region.ready md ops listed →
      ((i = al ∧ (∀ q, YieldsA P md ops S i oi (a q)) ∧ anyA P md ops Q S al fuel (listed.setIfInBounds i true) (fun q => (a q).put oi.dst q)) ∨
       (i ≠ al ∧ ∃ v, (∀ q, YieldsQ P md ops S q i oi v (a q)) ∧ anyA P md ops Q S al fuel (listed.setIfInBounds i true) (fun q => (a q).put oi.dst v))) →
      anyA P md ops Q S al (fuel + 1) listed a := by
  intro fuel
  induction fuel with
  | zero =>
    intro listed a _ hr H
    refine ⟨fun h => (by rw [h] at hr; cases hr), fun j hj => ?_⟩
    by_cases hji : j = i
    · subst hji; exact ⟨oi, hi, H⟩
    · have := ready_mono hj hji
      rcases H with ⟨_, _, H⟩ | ⟨_, _, _, H⟩ <;> (rw [H.1] at this; cases this)
  | succ fuel ih =>
    intro listed a hfree hr H
    refine ⟨fun h => (by rw [h] at hr; cases hr), fun j hj => ?_⟩
    by_cases hji : j = i
    · subst hji; exact ⟨oi, hi, H⟩
    · obtain ⟨hjun, oj, hoj, hall⟩ := mem_ready.1 hj
      have hnot : ∀ e ∈ oj.after, Region.binds md e = true → e.on ≠ i := fun e he hb heq => by
        have h1 := hall e he hb
        have h0 := (mem_ready.1 hr).1
        rw [heq] at h1
        rcases Nat.lt_or_ge i listed.size with h' | h'
        · simp [h'] at h0 h1; rw [h0] at h1; cases h1
        · simp [Array.getElem?_eq_none h'] at h1
      have hap := hfree j oj hoj hji hjun hnot
      have hsi := fun cs b => hsel i oi cs b hi
      have hsj := fun cs b => hsel j oj cs b hoj
      have hfree' : ∀ k ok, ops[k]? = some ok → k ≠ i → (listed.setIfInBounds j true).getD k true = false →
          (∀ e ∈ ok.after, Region.binds md e = true → e.on ≠ i) → oi.apart ops ok = true := fun k ok hk hki hun hno => by
        refine hfree k ok hk hki ?_ hno
        by_cases hjk : j = k
        · subst hjk; exact hjun
        · rw [getD_set_ne true hjk] at hun; exact hun
      have hrj := ready_mono hr (Ne.symm hji)
      have hcm := Array.setIfInBounds_comm (xs := listed) true true hji
      rcases H with ⟨hial, hy, H⟩ | ⟨hial, v, hy, H⟩
      · obtain ⟨oj', hoj', hx⟩ := H.2 j (ready_mono hj hji)
        obtain rfl : oj = oj' := by rw [hoj] at hoj'; cases hoj'; rfl
        refine ⟨oj, hoj, ?_⟩
        rcases hx with ⟨hjal, _, _⟩ | ⟨hjal, u, hu, hrest⟩
        · exact absurd (hjal.trans hial.symm) hji
        · refine .inr ⟨hjal, u, fun q => (hu q).of_same (same_put' hap hsj).1.symm (same_put' hap hsj).2.symm, ?_⟩
          refine ih _ _ hfree' hrj (.inl ⟨hial, fun q => (hy q).of_same (same_put hap hsi).1 (same_put hap hsi).2, ?_⟩)
          rw [hcm]
          have : (fun q => ((a q).put oj.dst u).put oi.dst q) = fun q => ((a q).put oi.dst q).put oj.dst u := funext fun q => (Act.put_comm (a q) q u (Oper.apart_spec hap).2.1).symm
          rw [this]; exact hrest
      · obtain ⟨oj', hoj', hx⟩ := H.2 j (ready_mono hj hji)
        obtain rfl : oj = oj' := by rw [hoj] at hoj'; cases hoj'; rfl
        refine ⟨oj, hoj, ?_⟩
        rcases hx with ⟨hjal, hu, hrest⟩ | ⟨hjal, u, hu, hrest⟩
        · refine .inl ⟨hjal, fun q => (hu q).of_same (same_put' hap hsj).1.symm (same_put' hap hsj).2.symm, ?_⟩
          refine ih _ _ hfree' hrj (.inr ⟨hial, v, fun q => (hy q).of_same (same_put hap hsi).1 (same_put hap hsi).2, ?_⟩)
          rw [hcm]
          have : (fun q => ((a q).put oj.dst q).put oi.dst v) = fun q => ((a q).put oi.dst v).put oj.dst q := funext fun q => (Act.put_comm (a q) v q (Oper.apart_spec hap).2.1).symm
          rw [this]; exact hrest
        · refine .inr ⟨hjal, u, fun q => (hu q).of_same (same_put' hap hsj).1.symm (same_put' hap hsj).2.symm, ?_⟩
          refine ih _ _ hfree' hrj (.inr ⟨hial, v, fun q => (hy q).of_same (same_put hap hsi).1 (same_put hap hsi).2, ?_⟩)
          rw [hcm]
          have : (fun q => ((a q).put oj.dst u).put oi.dst v) = fun q => ((a q).put oi.dst v).put oj.dst u := funext fun q => (Act.put_comm (a q) v u (Oper.apart_spec hap).2.1).symm
          rw [this]; exact hrest
theorem anyA_sound : ∀ (fuel : Nat) (listed : Array Bool) (a : Value → Act), listed.size = ops.size → Closed md ops listed → (listed.getD al true = false → ∀ q q', a q = a q') → anyA P md ops Q S al fuel listed a → ∀ q w, S listed q w → wpAny P md ops Q fuel listed (a q) w
  | 0, _, _, _, _, _, h, q, w, hS => ⟨h.1, h.2 q w hS⟩
  | fuel + 1, listed, a, hs, hc, hk, h, q, w, hS =>
    ⟨fun h0 => h.1 h0 q w hS, fun j hj => by
      obtain ⟨o, ho, hx⟩ := h.2 j hj
      unfold Go.wpOp
      simp only [ho]
      rcases hx with ⟨hjal, hy, H⟩ | ⟨hjal, v, hy, H⟩
      · obtain ⟨hw, hy⟩ := hy q
        obtain ⟨q', w', hrun, hS'⟩ := hy listed q w ⟨hs, hc, hj⟩ hS
        simp only [hw, if_true, Oper.wp, hrun, Oper.upon]
        left
        have hun : listed.getD al true = false := by rw [← hjal]; exact (mem_ready.1 hj).1
        have := anyA_sound fuel (listed.setIfInBounds j true) (fun q => (a q).put o.dst q) (by simpa using hs) (hc.set hj) (fun h0 => by
          have hlt : al < listed.size := by
            rw [← hjal, hs]; exact (Array.getElem?_eq_some_iff.1 ho).1
          rw [hjal] at h0; simp [hlt] at h0) H q' w' hS'
        rw [hk hun q q']; exact this
      · obtain ⟨hw, hy⟩ := hy q
        simp only [hw, if_true, Oper.wp]
        left
        exact (hy listed w ⟨hs, hc, hj⟩ hS).upon fun w' hS' => anyA_sound fuel (listed.setIfInBounds j true) (fun q => (a q).put o.dst v) (by simpa using hs) (hc.set hj) (fun h0 q q' => by
          have : listed.getD al true = false := by rw [← getD_set_ne true hjal]; exact h0
          rw [hk this q q']) H q w' hS'⟩

/-! The moves. -/
theorem anyA_take {i : Nat} {oi : Oper} {r : List Oper} {v : Value} {fuel : Nat} {listed : Array Bool} {a : Value → Act} (hi : ops.toList.drop i = oi :: r) (hne : i ≠ al)
    (hs : Region.noSelect ops = true) (hf : Region.free md ops listed i = true) (hr : (Region.ready md ops listed).contains i = true)
    (hy : ∀ q, YieldsQ P md ops S q i oi v (a q))
    (h : anyA P md ops Q S al fuel (listed.setIfInBounds i true) (fun q => (a q).put oi.dst v)) : anyA P md ops Q S al (fuel + 1) listed a :=
  anyA_first (at_drop hi) (Region.noSelect_spec hs) fuel listed a (Region.free_spec (at_drop hi) hf) (by simpa using hr) (.inr ⟨hne, v, hy, h⟩)
theorem anyA_made {oi : Oper} {r : List Oper} {fuel : Nat} {listed : Array Bool} {a : Value → Act} (hi : ops.toList.drop al = oi :: r)
    (hs : Region.noSelect ops = true) (hf : Region.free md ops listed al = true) (hr : (Region.ready md ops listed).contains al = true)
    (hy : ∀ q, YieldsA P md ops S al oi (a q))
    (h : anyA P md ops Q S al fuel (listed.setIfInBounds al true) (fun q => (a q).put oi.dst q)) : anyA P md ops Q S al (fuel + 1) listed a :=
  anyA_first (at_drop hi) (Region.noSelect_spec hs) fuel listed a (Region.free_spec (at_drop hi) hf) (by simpa using hr) (.inl ⟨rfl, hy, h⟩)
theorem anyA_done {listed : Array Bool} {a : Value → Act} (hr : Region.ready md ops listed = []) (h : ∀ q w, S listed q w → Q .normal (a q) w) : ∀ fuel, anyA P md ops Q S al fuel listed a
  | 0 => ⟨hr, h⟩
  | _ + 1 => ⟨fun _ => h, by rw [hr]; simp⟩
/-- The beginning. -/
theorem wp_region_anyA {id : Nat} {a : Act} {w : World} (S : Array Bool → Value → World → Prop) (al : Nat) (hm : P.follows .mixedOrders = true) (hS : S (Array.replicate ops.size false) undef w.drew)
    (h : anyA P .any ops Q S al ops.size (Array.replicate ops.size false) (fun _ => a)) : (Code.region id ops true).wp P Q a w :=
  wp_region_any hm (anyA_sound (a := fun _ => a) _ _ (by simp) Closed.start (fun _ _ _ => rfl) h undef _ hS)
/-! The invariant hangs on whether the store s has come up, and whether the variable is made. -/
def TwoA (s al : Nat) (T : Bool → Bool → Value → World → Prop) (L : Array Bool) (q : Value) (w : World) : Prop := T (L.getD s false) (L.getD al false) q w
variable {T : Bool → Bool → Value → World → Prop} {s : Nat}
theorem ya_other {i : Nat} {o : Oper} {v : Value} {a : Act} (hs : i ≠ s) (ht : i ≠ al) (hw : Region.wanted o (yielded ops a.tmps) = true)
    {q : Value} (h : ∀ b c w, T b c q w → Lands P (T b c q) v ((execOp a.eval o).run P w)) : YieldsQ P md ops (TwoA s al T) q i o v a :=
  ⟨hw, fun L w _ hS => by unfold TwoA at *; rw [getD_set_ne false hs, getD_set_ne false ht]; exact h _ _ w hS⟩
theorem ya_made {n : Nat} {o : Oper} {a : Act} (hne : al ≠ s) (hb : waits md ops n s al = true) (hw : Region.wanted o (yielded ops a.tmps) = true)
    (h : ∀ q w, T false false q w → ∃ q' w', (execOp a.eval o).run P w = .ok (.value q') w' ∧ T false true q' w') : YieldsA P md ops (TwoA s al T) al o a :=
  ⟨hw, fun L q w hm hS => by
    unfold TwoA at *
    rw [not_yet hm hb, hm.unlisted.1] at hS
    obtain ⟨q', w', h1, h2⟩ := h q w hS
    refine ⟨q', w', h1, ?_⟩
    rw [getD_set_ne false hne, hm.unlisted.2, not_yet hm hb]; exact h2⟩
theorem already {i j : Nat} {L : Array Bool} (hm : May md ops i L) (h : (upOnce md ops [i]).contains j = true) : L.getD j false = true := by
  obtain ⟨_, o, ho, hall⟩ := mem_ready.1 hm.ready
  have h' : j ∈ upOnce md ops [i] := by simpa using h
  simp only [upOnce, List.flatMap_cons, List.flatMap_nil, List.append_nil, ho, Option.map_some, Option.getD_some, List.mem_map, List.mem_filter] at h'
  obtain ⟨e, ⟨he, hb⟩, rfl⟩ := h'
  exact hall e (Array.mem_toList_iff.1 he) hb
theorem ya_store {o : Oper} {v : Value} {a : Act} (hne : s ≠ al) (hb : (upOnce md ops [s]).contains al = true) (hw : Region.wanted o (yielded ops a.tmps) = true)
    {q : Value} (h : ∀ w, T false true q w → Lands P (T true true q) v ((execOp a.eval o).run P w)) : YieldsQ P md ops (TwoA s al T) q s o v a :=
  ⟨hw, fun L w hm hS => by
    unfold TwoA at *
    rw [hm.unlisted.2, getD_set_ne false hne, already hm hb]
    rw [hm.unlisted.1, already hm hb] at hS
    exact h w hS⟩
end
end Go.Proofs.Ytjggclhhimccoaa
