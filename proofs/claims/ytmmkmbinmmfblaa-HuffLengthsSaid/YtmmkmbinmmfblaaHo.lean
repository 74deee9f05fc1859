/- lengths of chapter 9: a round, in numbers. -/
import Derived.Test.YtmmkmbinmmfblaaHn
namespace Go.Proofs.Ytmmkmbinmmfblaa
open Go.RowKit
def sumW : List Kd → Nat
  | [] => 0
  | x :: l => x.1 + sumW l
theorem sumW_perm {l m : List Kd} (h : l.Perm m) : sumW l = sumW m := by
  induction h with
  | nil => rfl
  | cons x _ ih => show _ + _ = _ + _; rw [ih]
  | swap x y l => show _ + (_ + _) = _ + (_ + _); omega
  | trans _ _ h1 h2 => rw [h1, h2]
theorem sumW_mem {l : List Kd} {x : Kd} (h : x ∈ l) : x.1 ≤ sumW l := by
  induction l with
  | nil => cases h
  | cons y l ih =>
    show _ ≤ y.1 + sumW l
    rcases List.mem_cons.1 h with rfl | h2
    · exact Nat.le_add_right _ _
    · have := ih h2; omega
/-- Between two rounds: the nodes, and how often each symbol was in a new one. -/
structure LP (c : Nat → Nat) (n : Nat) (l : List Ny) (nx : Nat) (F : Nat → Nat) : Prop where
  ok : okK (kys l) nx
  nd : (l.flatMap (·.2.2)).Nodup
  lt : ∀ x ∈ l, ∀ s ∈ x.2.2, s < n ∧ 0 < c s
  cov : ∀ s, s < n → 0 < c s → ∃ x ∈ l, s ∈ x.2.2
  fd : ∀ x ∈ l, ∀ s ∈ x.2.2, F s + hD (kys l) nx x.1.2 = dep c n s
  z : ∀ s, c s = 0 → F s = 0
  nb : nx + l.length ≤ 2 * n
  wt : sumW (kys l) ≤ n * 1099511627776
  ne : ∀ x ∈ l, x.2.2 ≠ []
theorem kys_mem {l : List Ny} {x : Ny} (h : x ∈ l) : x.1 ∈ kys l := List.mem_map.2 ⟨x, h, rfl⟩
def addH (F : Nat → Nat) (L : List Nat) (s : Nat) : Nat := if s ∈ L then F s + 1 else F s
theorem LP.step {c : Nat → Nat} {n nx : Nat} {l r : List Ny} {a b : Ny} {F : Nat → Nat} (h : LP c n l nx F) (hp : l.Perm (a :: b :: r)) (ha : ∀ x ∈ b.1 :: kys r, klt a.1 x) (hb : ∀ x ∈ kys r, klt b.1 x) (sv : Value) :
    LP c n (r ++ [((a.1.1 + b.1.1, nx), sv, a.2.2 ++ b.2.2)]) (nx + 1) (addH F (a.2.2 ++ b.2.2)) := by
  have hk : (kys l).Perm (a.1 :: b.1 :: kys r) := hp.map _
  have st := hD_step h.ok hk ha hb
  have hq : (r ++ [(((a.1.1 + b.1.1, nx), sv, a.2.2 ++ b.2.2) : Ny)]).Perm ((((a.1.1 + b.1.1, nx), sv, a.2.2 ++ b.2.2) : Ny) :: r) := List.perm_append_singleton _ _
  have hkq : (kys (r ++ [(((a.1.1 + b.1.1, nx), sv, a.2.2 ++ b.2.2) : Ny)])).Perm ((a.1.1 + b.1.1, nx) :: kys r) := hq.map _
  have ok2 : okK ((a.1.1 + b.1.1, nx) :: kys r) (nx + 1) := okK_next (okK_perm hk h.ok)
  have ok3 : okK (kys (r ++ [(((a.1.1 + b.1.1, nx), sv, a.2.2 ++ b.2.2) : Ny)])) (nx + 1) := okK_perm hkq.symm ok2
  have mem : ∀ x, x ∈ l ↔ x = a ∨ x = b ∨ x ∈ r := fun x => by rw [hp.mem_iff]; simp
  have nd2 : ((a :: b :: r).flatMap (·.2.2)).Nodup := (hp.flatMap_right _).nodup_iff.1 h.nd
  have nd3 : (a.2.2 ++ (b.2.2 ++ r.flatMap (·.2.2))).Nodup := by simpa using nd2
  have rnot : ∀ x ∈ r, ∀ s ∈ x.2.2, s ∉ a.2.2 ++ b.2.2 := fun x hx s hs hm => by
    rw [← List.append_assoc] at nd3
    exact (List.nodup_append.1 nd3).2.2 s hm s (List.mem_flatMap.2 ⟨x, hx, hs⟩) rfl
  refine ⟨ok3, ?_, ?_, ?_, ?_, ?_, ?_, ?_, ?_⟩
  · rw [List.flatMap_append]
    have e : [(((a.1.1 + b.1.1, nx), sv, a.2.2 ++ b.2.2) : Ny)].flatMap (·.2.2) = a.2.2 ++ b.2.2 := by simp
    rw [e]
    refine (List.perm_append_comm.nodup_iff).1 ?_
    rw [List.append_assoc]; exact nd3
  · intro x hx s hs
    rcases List.mem_append.1 hx with h1 | h1
    · exact h.lt x ((mem x).2 (.inr (.inr h1))) s hs
    · rw [List.mem_singleton.1 h1] at hs
      rcases List.mem_append.1 hs with h2 | h2
      · exact h.lt a ((mem a).2 (.inl rfl)) s h2
      · exact h.lt b ((mem b).2 (.inr (.inl rfl))) s h2
  · intro s hs hc
    obtain ⟨x, hx, hsx⟩ := h.cov s hs hc
    rcases (mem x).1 hx with rfl | rfl | h1
    · exact ⟨_, List.mem_append.2 (.inr (List.mem_singleton.2 rfl)), List.mem_append.2 (.inl hsx)⟩
    · exact ⟨_, List.mem_append.2 (.inr (List.mem_singleton.2 rfl)), List.mem_append.2 (.inr hsx)⟩
    · exact ⟨x, List.mem_append.2 (.inl h1), hsx⟩
  · intro x hx s hs
    rw [hD_perm hkq ok3]
    rcases List.mem_append.1 hx with h1 | h1
    · have h2 := h.fd x ((mem x).2 (.inr (.inr h1))) s hs
      rw [st, if_neg (num_ne h.ok hk (kys_mem h1))] at h2
      unfold addH
      rw [if_neg (rnot x h1 s hs)]; exact h2
    · rw [List.mem_singleton.1 h1] at hs ⊢
      show addH F (a.2.2 ++ b.2.2) s + hD _ (nx + 1) nx = _
      unfold addH
      rw [if_pos hs]
      rcases List.mem_append.1 hs with h2 | h2
      · have h3 := h.fd a ((mem a).2 (.inl rfl)) s h2
        rw [st, if_pos (.inl rfl)] at h3
        omega
      · have h3 := h.fd b ((mem b).2 (.inr (.inl rfl))) s h2
        rw [st, if_pos (.inr rfl)] at h3
        omega
  · intro s hc
    unfold addH
    rw [if_neg, h.z s hc]
    intro hm
    rcases List.mem_append.1 hm with h2 | h2
    · have := (h.lt a ((mem a).2 (.inl rfl)) s h2).2; omega
    · have := (h.lt b ((mem b).2 (.inr (.inl rfl))) s h2).2; omega
  · have h1 := h.nb
    have h2 := hp.length_eq
    simp only [List.length_append, List.length_cons, List.length_nil] at h2 ⊢
    omega
  · have h1 := h.wt
    rw [sumW_perm hk] at h1
    rw [sumW_perm hkq]
    show a.1.1 + b.1.1 + sumW (kys r) ≤ _
    have h2 : sumW (a.1 :: b.1 :: kys r) = a.1.1 + (b.1.1 + sumW (kys r)) := rfl
    omega
  · intro x hx
    rcases List.mem_append.1 hx with h1 | h1
    · exact h.ne x ((mem x).2 (.inr (.inr h1)))
    · rw [List.mem_singleton.1 h1]
      intro e
      exact h.ne a ((mem a).2 (.inl rfl)) (List.append_eq_nil_iff.1 e).1
end Go.Proofs.Ytmmkmbinmmfblaa
