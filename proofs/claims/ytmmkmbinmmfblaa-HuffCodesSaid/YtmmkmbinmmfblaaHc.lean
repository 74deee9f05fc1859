/- Layer 9 in numbers: two of the least become one, till one is left; how deep each one is. -/
import Derived.Test.YtmmkmbinmmfblaaWords
namespace Go.Proofs.Ytmmkmbinmmfblaa
open Go.RowKit
/-- A node's weight and number. -/
abbrev Kd := Nat × Nat
def klt (a b : Kd) : Prop := a.1 < b.1 ∨ a.1 = b.1 ∧ a.2 < b.2
instance (a b : Kd) : Decidable (klt a b) := inferInstanceAs (Decidable (_ ∨ _))
theorem klt_trans {a b c : Kd} (h : klt a b) (h2 : klt b c) : klt a c := by unfold klt at *; omega
theorem klt_irrefl (a : Kd) : ¬ klt a a := by unfold klt; omega
theorem klt_asymm {a b : Kd} (h : klt a b) : ¬ klt b a := by unfold klt at *; omega
theorem klt_total {a b : Kd} (h : a.2 ≠ b.2) (h2 : ¬ klt a b) : klt b a := by unfold klt at *; omega
/-- The least one, and the others. -/
def pk : List Kd → Kd × List Kd
  | [] => ((0, 0), [])
  | [x] => (x, [])
  | x :: y :: l => if klt x (pk (y :: l)).1 then (x, y :: l) else ((pk (y :: l)).1, x :: (pk (y :: l)).2)
theorem pk_perm : ∀ {l : List Kd}, l ≠ [] → l.Perm ((pk l).1 :: (pk l).2)
  | [], h => absurd rfl h
  | [_], _ => List.Perm.refl _
  | x :: y :: l, _ => by
    unfold pk
    by_cases h : klt x (pk (y :: l)).1
    · rw [if_pos h]
    · rw [if_neg h]
      have ih := pk_perm (l := y :: l) (by simp)
      exact (ih.cons x).trans (List.Perm.swap _ _ _)
theorem pk_least : ∀ {l : List Kd} (_ : (l.map (·.2)).Nodup) (x : Kd), x ∈ (pk l).2 → klt (pk l).1 x
  | [], _, x, hx => by simp [pk] at hx
  | [_], _, x, hx => by simp [pk] at hx
  | x :: y :: l, hn, z, hz => by
    have hn2 : ((y :: l).map (·.2)).Nodup := (List.nodup_cons.1 (by simpa only [List.map_cons] using hn)).2
    have hx : x.2 ∉ (y :: l).map (·.2) := (List.nodup_cons.1 (by simpa only [List.map_cons] using hn)).1
    have ih := pk_least (l := y :: l) hn2
    have hp := pk_perm (l := y :: l) (by simp)
    unfold pk at hz ⊢
    by_cases h : klt x (pk (y :: l)).1
    · rw [if_pos h] at hz ⊢
      rcases List.mem_cons.1 (hp.mem_iff.1 hz) with rfl | h3
      · exact h
      · exact klt_trans h (ih z h3)
    · rw [if_neg h] at hz ⊢
      rcases List.mem_cons.1 hz with rfl | h3
      · refine klt_total (fun e => hx ?_) h
        rw [e]
        exact List.mem_map.2 ⟨_, hp.mem_iff.2 (List.mem_cons_self ..), rfl⟩
      · exact ih z h3
theorem nums_perm {l l' : List Kd} (h : l.Perm l') (hn : (l.map (·.2)).Nodup) : (l'.map (·.2)).Nodup := ((h.map _).nodup_iff).1 hn
/-- Whatever way the least one is found. -/
theorem pk_is {l r : List Kd} {a : Kd} (hn : (l.map (·.2)).Nodup) (hp : l.Perm (a :: r)) (ha : ∀ x ∈ r, klt a x) : (pk l).1 = a ∧ (pk l).2.Perm r := by
  have hne : l ≠ [] := fun e => by subst e; exact absurd hp.length_eq (by simp)
  have h1 := pk_perm hne
  have h2 := h1.symm.trans hp
  have e : (pk l).1 = a := by
    rcases List.mem_cons.1 (h2.mem_iff.1 (List.mem_cons_self ..)) with h3 | h3
    · exact h3
    · have h4 := ha _ h3
      rcases List.mem_cons.1 (h2.mem_iff.2 (List.mem_cons_self ..)) with h5 | h5
      · exact h5.symm
      · exact absurd h4 (klt_asymm (pk_least hn a h5))
  refine ⟨e, ?_⟩
  rw [e] at h2
  exact h2.cons_inv
/-- How deep the node m is, the next new one numbered n. -/
def hE : Nat → List Kd → Nat → Nat → Nat
  | 0, _, _, _ => 0
  | f + 1, l, n, m => if l.length ≤ 1 then 0 else
    if m = (pk l).1.2 ∨ m = (pk (pk l).2).1.2 then hE f (((pk l).1.1 + (pk (pk l).2).1.1, n) :: (pk (pk l).2).2) (n + 1) n + 1
    else hE f (((pk l).1.1 + (pk (pk l).2).1.1, n) :: (pk (pk l).2).2) (n + 1) m
/-- Numbers below n, each once. -/
def okK (l : List Kd) (n : Nat) : Prop := (l.map (·.2)).Nodup ∧ ∀ x ∈ l, x.2 < n
theorem okK_perm {l l' : List Kd} {n : Nat} (h : l.Perm l') (hk : okK l n) : okK l' n := ⟨nums_perm h hk.1, fun x hx => hk.2 x (h.mem_iff.2 hx)⟩
theorem okK_next {a b : Kd} {r : List Kd} {n w : Nat} (h : okK (a :: b :: r) n) : okK ((w, n) :: r) (n + 1) := by
  obtain ⟨h1, h2⟩ := h
  have h3 : (r.map (·.2)).Nodup := (List.nodup_cons.1 (List.nodup_cons.1 (by simpa only [List.map_cons] using h1)).2).2
  refine ⟨?_, fun x hx => ?_⟩
  · rw [List.map_cons]
    refine List.nodup_cons.2 ⟨fun hm => ?_, h3⟩
    obtain ⟨x, hx, e⟩ := List.mem_map.1 hm
    have := h2 x (List.mem_cons_of_mem _ (List.mem_cons_of_mem _ hx))
    simp only at e; omega
  · rcases List.mem_cons.1 hx with rfl | hx
    · exact Nat.lt_succ_self _
    · have := h2 x (List.mem_cons_of_mem _ (List.mem_cons_of_mem _ hx)); omega
theorem hE_perm (f : Nat) : ∀ {l l' : List Kd} {n : Nat}, l.Perm l' → okK l n → ∀ m, hE f l n m = hE f l' n m := by
  induction f with
  | zero => intro l l' n _ _ m; rfl
  | succ f ih =>
    intro l l' n hp hk m
    unfold hE
    rw [hp.length_eq]
    by_cases hl : l'.length ≤ 1
    · rw [if_pos hl, if_pos hl]
    · rw [if_neg hl, if_neg hl]
      have hlen := hp.length_eq
      have hne : l ≠ [] := fun e => by subst e; simp at hlen; omega
      have hne' : l' ≠ [] := fun e => by subst e; simp at hl
      have p1 := pk_perm hne
      have p1' := pk_perm hne'
      have hk' := okK_perm hp hk
      obtain ⟨e1, q1⟩ := pk_is (a := (pk l').1) (r := (pk l').2) hk.1 (hp.trans p1') (pk_least hk'.1)
      have hr1 := okK_perm p1 hk
      have hr : okK (pk l).2 n := ⟨(List.nodup_cons.1 (by simpa only [List.map_cons] using hr1.1)).2, fun x hx => hr1.2 x (List.mem_cons_of_mem _ hx)⟩
      have hr' := okK_perm q1 hr
      have hne2 : (pk l').2 ≠ [] := fun e => by
        have := p1'.length_eq
        rw [e] at this; simp at this; omega
      have p2' := pk_perm hne2
      obtain ⟨e2, q2⟩ := pk_is (a := (pk (pk l').2).1) (r := (pk (pk l').2).2) hr.1 (q1.trans p2') (pk_least hr'.1)
      rw [e1, e2]
      have hne3 : (pk l).2 ≠ [] := fun e => by
        rw [e] at q1
        exact hne2 (List.Perm.nil_eq q1).symm
      have p2 := pk_perm hne3
      have hk3 : okK (((pk l').1.1 + (pk (pk l').2).1.1, n) :: (pk (pk l).2).2) (n + 1) := okK_next (okK_perm (p2.cons _) hr1)
      rw [ih (q2.cons _) hk3, ih (q2.cons _) hk3]
/-- One step, whatever way the two least ones are found. -/
theorem hE_step {f : Nat} {l r : List Kd} {n : Nat} {a b : Kd} (hk : okK l n) (hp : l.Perm (a :: b :: r)) (ha : ∀ x ∈ b :: r, klt a x) (hb : ∀ x ∈ r, klt b x) (m : Nat) :
    hE (f + 1) l n m = if m = a.2 ∨ m = b.2 then hE f ((a.1 + b.1, n) :: r) (n + 1) n + 1 else hE f ((a.1 + b.1, n) :: r) (n + 1) m := by
  obtain ⟨e1, q1⟩ := pk_is hk.1 hp ha
  have hl : ¬ l.length ≤ 1 := by rw [hp.length_eq]; simp
  have hr1 := okK_perm hp hk
  have hne : l ≠ [] := fun e => by subst e; simp at hl
  have hr0 := okK_perm (pk_perm hne) hk
  have hr : okK (pk l).2 n := ⟨(List.nodup_cons.1 (by simpa only [List.map_cons] using hr0.1)).2, fun x hx => hr0.2 x (List.mem_cons_of_mem _ hx)⟩
  obtain ⟨e2, q2⟩ := pk_is hr.1 q1 hb
  have hk3 : okK ((a.1 + b.1, n) :: r) (n + 1) := okK_next hr1
  have hk4 := okK_perm (q2.symm.cons (a.1 + b.1, n)) hk3
  show (if l.length ≤ 1 then 0 else _) = _
  rw [if_neg hl, e1, e2, hE_perm f (q2.cons _) hk4, hE_perm f (q2.cons _) hk4]
theorem hE_one (f : Nat) {l : List Kd} (h : l.length ≤ 1) (n m : Nat) : hE f l n m = 0 := by
  cases f with
  | zero => rfl
  | succ f => exact if_pos h
/-- How deep the node m is. -/
def hD (l : List Kd) (n m : Nat) : Nat := hE l.length l n m
theorem hD_one {l : List Kd} (h : l.length ≤ 1) (n m : Nat) : hD l n m = 0 := hE_one _ h n m
theorem hD_perm {l l' : List Kd} {n : Nat} (h : l.Perm l') (hk : okK l n) (m : Nat) : hD l n m = hD l' n m := by
  unfold hD
  rw [← h.length_eq]
  exact hE_perm _ h hk m
theorem hD_step {l r : List Kd} {n : Nat} {a b : Kd} (hk : okK l n) (hp : l.Perm (a :: b :: r)) (ha : ∀ x ∈ b :: r, klt a x) (hb : ∀ x ∈ r, klt b x) (m : Nat) :
    hD l n m = if m = a.2 ∨ m = b.2 then hD ((a.1 + b.1, n) :: r) (n + 1) n + 1 else hD ((a.1 + b.1, n) :: r) (n + 1) m := by
  unfold hD
  rw [show l.length = r.length + 1 + 1 from hp.length_eq, hE_step hk hp ha hb]
  rfl
/-- Of two and more there are a first and a second one. -/
theorem two_least {l : List Kd} {n : Nat} (hk : okK l n) (h : 2 ≤ l.length) : ∃ a b r, l.Perm (a :: b :: r) ∧ (∀ x ∈ b :: r, klt a x) ∧ ∀ x ∈ r, klt b x := by
  have hne : l ≠ [] := fun e => by subst e; simp at h
  have p1 := pk_perm hne
  have hr1 := okK_perm p1 hk
  have hr : ((pk l).2.map (·.2)).Nodup := (List.nodup_cons.1 (by simpa only [List.map_cons] using hr1.1)).2
  have hne2 : (pk l).2 ≠ [] := fun e => by
    have := p1.length_eq
    rw [e] at this; simp at this; omega
  have p2 := pk_perm hne2
  refine ⟨(pk l).1, (pk (pk l).2).1, (pk (pk l).2).2, p1.trans (p2.cons _), fun x hx => ?_, pk_least hr⟩
  exact pk_least hk.1 x (p2.mem_iff.2 hx)
end Go.Proofs.Ytmmkmbinmmfblaa
