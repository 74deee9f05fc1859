/- Layer 9 in numbers: nodes that are all alike, or twice as heavy at most, are as deep, but for one. -/
import Derived.Test.YtmmkmbinmmfblaaHd
namespace Go.Proofs.Ytmmkmbinmmfblaa
open Go.RowKit
theorem log_half {m p : Nat} (h : m / 2 = p) (hp : p ≠ 0) : Nat.log2 m = Nat.log2 p + 1 := by
  have hm : m ≠ 0 := by omega
  have h1 := (Nat.log2_lt hm (k := Nat.log2 p + 2)).2 (by
    have := (Nat.log2_lt hp (k := Nat.log2 p + 1)).1 (Nat.lt_succ_self _)
    rw [Nat.pow_succ]; omega)
  have h2 := (Nat.le_log2 hm (k := Nat.log2 p + 1)).2 (by
    have := (Nat.le_log2 hp (k := Nat.log2 p)).1 (Nat.le_refl _)
    rw [Nat.pow_succ]; omega)
  omega
theorem hD_queue (k : Nat) : ∀ (q : List Kd) (n : Nat), q.length = k + 1 → okK q n → q.Pairwise klt → (∀ x ∈ q, ∀ y ∈ q, y.1 ≤ 2 * x.1) →
    ∀ j (hj : j < q.length), hD q n (q[j]).2 = Nat.log2 (2 * q.length - 1 - j) := by
  induction k with
  | zero =>
    intro q n h _ _ _ j hj
    rw [hD_one (by omega), h, show j = 0 by omega]
    rfl
  | succ k ih =>
    intro q n h hk hs hb j hj
    match q, h with
    | a :: b :: r, h =>
      have ha : ∀ x ∈ b :: r, klt a x := (List.pairwise_cons.1 hs).1
      have hs2 := (List.pairwise_cons.1 hs).2
      have hbr : ∀ x ∈ r, klt b x := (List.pairwise_cons.1 hs2).1
      have hs3 := (List.pairwise_cons.1 hs2).2
      have st := hD_step hk (List.Perm.refl _) ha hbr
      have hk2 : okK ((a.1 + b.1, n) :: r) (n + 1) := okK_next hk
      have pp : ((a.1 + b.1, n) :: r).Perm (r ++ [(a.1 + b.1, n)]) := (List.perm_append_singleton _ _).symm
      have hk3 := okK_perm pp hk2
      have hl3 : (r ++ [((a.1 + b.1, n) : Kd)]).length = k + 1 := by simp at h ⊢; omega
      have ab : a.1 ≤ b.1 := by have := ha b (List.mem_cons_self ..); unfold klt at this; omega
      have am : ∀ x ∈ r, a ∈ a :: b :: r ∧ x ∈ a :: b :: r := fun x hx => ⟨List.mem_cons_self .., List.mem_cons_of_mem _ (List.mem_cons_of_mem _ hx)⟩
      have hs4 : (r ++ [((a.1 + b.1, n) : Kd)]).Pairwise klt := List.pairwise_append.2 ⟨hs3, List.pairwise_singleton _ _, fun x hx y hy => by
        rw [List.mem_singleton.1 hy]
        have h1 := hb a (am x hx).1 x (am x hx).2
        have h2 := hk.2 x (am x hx).2
        show x.1 < a.1 + b.1 ∨ x.1 = a.1 + b.1 ∧ x.2 < n
        omega⟩
      have hb4 : ∀ x ∈ r ++ [((a.1 + b.1, n) : Kd)], ∀ y ∈ r ++ [((a.1 + b.1, n) : Kd)], y.1 ≤ 2 * x.1 := fun x hx y hy => by
        rcases List.mem_append.1 hx with hx | hx <;> rcases List.mem_append.1 hy with hy | hy
        · exact hb x (am x hx).2 y (am y hy).2
        · rw [List.mem_singleton.1 hy]
          have := hbr x hx
          unfold klt at this
          show a.1 + b.1 ≤ _
          omega
        · rw [List.mem_singleton.1 hx]
          have := hb a (am y hy).1 y (am y hy).2
          show _ ≤ 2 * (a.1 + b.1)
          omega
        · rw [List.mem_singleton.1 hx, List.mem_singleton.1 hy]; omega
      have IH := ih _ (n + 1) hl3 hk3 hs4 hb4
      have hlr : r.length = k := by simp at h; omega
      have hc : hD ((a.1 + b.1, n) :: r) (n + 1) n = Nat.log2 (k + 1) := by
        rw [hD_perm pp hk2]
        have h1 := IH k (by rw [hl3]; exact Nat.lt_succ_self _)
        have e : (r ++ [((a.1 + b.1, n) : Kd)])[k]'(by rw [hl3]; exact Nat.lt_succ_self _) = (a.1 + b.1, n) := by
          rw [List.getElem_append_right (by omega)]; simp
        rw [e, hl3] at h1
        rw [h1]
        congr 1
        omega
      match j, hj with
      | 0, _ =>
        show hD _ n a.2 = _
        rw [st, if_pos (.inl rfl), hc]
        exact (log_half (by rw [h]; omega) (by omega)).symm
      | 1, _ =>
        show hD _ n b.2 = _
        rw [st, if_pos (.inr rfl), hc]
        exact (log_half (by rw [h]; omega) (by omega)).symm
      | i + 2, hj =>
        have hi : i < r.length := by simp at hj; omega
        have hx : r[i] ∈ r := List.getElem_mem hi
        show hD _ n (r[i]).2 = _
        rw [st, if_neg (num_ne hk (List.Perm.refl _) hx), hD_perm pp hk2]
        have h1 := IH i (by rw [hl3]; omega)
        have e : (r ++ [((a.1 + b.1, n) : Kd)])[i]'(by rw [hl3]; omega) = r[i] := List.getElem_append_left hi
        rw [e, hl3] at h1
        rw [h1, h]
        congr 1
        omega
end Go.Proofs.Ytmmkmbinmmfblaa
