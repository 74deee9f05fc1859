/- Layer 9 in numbers: how deep nodes are: their sum, the heavier the less deep, all alike alike. -/
import Derived.Test.YtmmkmbinmmfblaaHc
namespace Go.Proofs.Ytmmkmbinmmfblaa
open Go.RowKit
theorem len_le {k : Nat} {l r : List Kd} {a b : Kd} (h : l.length ≤ k + 1) (hp : l.Perm (a :: b :: r)) (w n : Nat) : ((w, n) :: r).length ≤ k := by
  have := hp.length_eq
  simp only [List.length_cons] at this ⊢
  omega
/-- Numbers differ where nodes do. -/
theorem okK_inj {l : List Kd} {n : Nat} (hk : okK l n) {x y : Kd} (hx : x ∈ l) (hy : y ∈ l) (e : x.2 = y.2) : x = y := by
  have h := hk.1
  clear hk
  induction l with
  | nil => cases hx
  | cons z l ih =>
    rw [List.map_cons] at h
    obtain ⟨h1, h2⟩ := List.nodup_cons.1 h
    rcases List.mem_cons.1 hx with h3 | h3 <;> rcases List.mem_cons.1 hy with h4 | h4
    · rw [h3, h4]
    · exact absurd (List.mem_map.2 ⟨y, h4, by rw [← e, h3]⟩ : z.2 ∈ l.map (·.2)) h1
    · exact absurd (List.mem_map.2 ⟨x, h3, by rw [e, h4]⟩ : z.2 ∈ l.map (·.2)) h1
    · exact ih h3 h4 h2
theorem num_ne {l r : List Kd} {n : Nat} {a b x : Kd} (hk : okK l n) (hp : l.Perm (a :: b :: r)) (hx : x ∈ r) : ¬ (x.2 = a.2 ∨ x.2 = b.2) := by
  have h := (okK_perm hp hk).1
  simp only [List.map_cons] at h
  obtain ⟨h1, h2⟩ := List.nodup_cons.1 h
  obtain ⟨h3, _⟩ := List.nodup_cons.1 h2
  rintro (e | e)
  · exact h1 (List.mem_cons_of_mem _ (List.mem_map.2 ⟨x, hx, e⟩))
  · exact h3 (List.mem_map.2 ⟨x, hx, e⟩)
theorem hD_le (k : Nat) : ∀ (l : List Kd) (n m : Nat), l.length ≤ k + 1 → okK l n → hD l n m ≤ k := by
  induction k with
  | zero => intro l n m h _; rw [hD_one h]; exact Nat.le_refl _
  | succ k ih =>
    intro l n m h hk
    rcases Nat.lt_or_ge l.length 2 with hl | hl
    · rw [hD_one (by omega)]; omega
    · obtain ⟨a, b, r, hp, ha, hb⟩ := two_least hk hl
      have hk2 : okK ((a.1 + b.1, n) :: r) (n + 1) := okK_next (okK_perm hp hk)
      have h2 := len_le h hp (a.1 + b.1) n
      rw [hD_step hk hp ha hb]
      split
      · have := ih _ (n + 1) n h2 hk2; omega
      · have := ih _ (n + 1) m h2 hk2; omega
/-- 2 ^ (M - depth), summed. -/
def krL (M : Nat) (D : Nat → Nat) : List Kd → Nat
  | [] => 0
  | x :: l => 2 ^ (M - D x.2) + krL M D l
theorem krL_perm (M : Nat) (D : Nat → Nat) {l l' : List Kd} (h : l.Perm l') : krL M D l = krL M D l' := by
  induction h with
  | nil => rfl
  | cons x _ ih => show _ + _ = _ + _; rw [ih]
  | swap x y l => show _ + (_ + _) = _ + (_ + _); omega
  | trans _ _ h1 h2 => rw [h1, h2]
theorem krL_same (M : Nat) {D E : Nat → Nat} {l : List Kd} (h : ∀ x ∈ l, D x.2 = E x.2) : krL M D l = krL M E l := by
  induction l with
  | nil => rfl
  | cons x l ih =>
    show _ + _ = _ + _
    rw [ih fun y hy => h y (List.mem_cons_of_mem _ hy), h x (List.mem_cons_self ..)]
theorem hD_kraft (M k : Nat) : ∀ (l : List Kd) (n : Nat), l.length ≤ k + 1 → l ≠ [] → okK l n → (∀ x ∈ l, hD l n x.2 ≤ M) → krL M (hD l n) l = 2 ^ M := by
  induction k with
  | zero =>
    intro l n h hne _ _
    match l, hne, h with
    | [x], _, _ => show 2 ^ (M - hD [x] n x.2) + 0 = _; rw [hD_one (Nat.le_refl _)]; rfl
  | succ k ih =>
    intro l n h hne hk hM
    rcases Nat.lt_or_ge l.length 2 with hl | hl
    · match l, hne, hl with
      | [x], _, _ => show 2 ^ (M - hD [x] n x.2) + 0 = _; rw [hD_one (Nat.le_refl _)]; rfl
    · obtain ⟨a, b, r, hp, ha, hb⟩ := two_least hk hl
      have hk2 : okK ((a.1 + b.1, n) :: r) (n + 1) := okK_next (okK_perm hp hk)
      have h2 := len_le h hp (a.1 + b.1) n
      have st := hD_step hk hp ha hb
      have sa := st a.2
      have sb := st b.2
      rw [if_pos (.inl rfl)] at sa
      rw [if_pos (.inr rfl)] at sb
      have sr : ∀ x ∈ r, hD l n x.2 = hD ((a.1 + b.1, n) :: r) (n + 1) x.2 := fun x hx => by rw [st, if_neg (num_ne hk hp hx)]
      have ma := hM a (hp.mem_iff.2 (List.mem_cons_self ..))
      have hM2 : ∀ x ∈ (a.1 + b.1, n) :: r, hD ((a.1 + b.1, n) :: r) (n + 1) x.2 ≤ M := fun x hx => by
        rcases List.mem_cons.1 hx with rfl | hx
        · show hD _ _ n ≤ M; omega
        · rw [← sr x hx]; exact hM x (hp.mem_iff.2 (List.mem_cons_of_mem _ (List.mem_cons_of_mem _ hx)))
      have ih2 := ih _ (n + 1) h2 (by simp) hk2 hM2
      rw [krL_perm M _ hp]
      show 2 ^ (M - hD l n a.2) + (2 ^ (M - hD l n b.2) + krL M (hD l n) r) = _
      rw [sa, sb, krL_same M sr]
      have ih3 : 2 ^ (M - hD ((a.1 + b.1, n) :: r) (n + 1) n) + krL M (hD ((a.1 + b.1, n) :: r) (n + 1)) r = 2 ^ M := ih2
      rw [← ih3]
      have e : 2 ^ (M - hD ((a.1 + b.1, n) :: r) (n + 1) n) = 2 * 2 ^ (M - (hD ((a.1 + b.1, n) :: r) (n + 1) n + 1)) := by
        rw [show M - hD ((a.1 + b.1, n) :: r) (n + 1) n = M - (hD ((a.1 + b.1, n) :: r) (n + 1) n + 1) + 1 by omega, Nat.pow_succ, Nat.mul_comm]
      rw [e]; omega
/-- No more than any two of them together. -/
def low (l : List Kd) (y : Kd) : Prop := ∀ x ∈ l, ∀ z ∈ l, x.2 ≠ z.2 → y.1 ≤ x.1 + z.1
theorem hD_order (k : Nat) : ∀ (l : List Kd) (n : Nat), l.length ≤ k + 1 → okK l n →
    (∀ x ∈ l, ∀ y ∈ l, klt y x → hD l n x.2 ≤ hD l n y.2) ∧ (∀ x ∈ l, ∀ y ∈ l, low l y → hD l n x.2 ≤ hD l n y.2 + 1) := by
  induction k with
  | zero =>
    intro l n h _
    exact ⟨fun x _ y _ _ => by rw [hD_one h]; omega, fun x _ y _ _ => by rw [hD_one h]; omega⟩
  | succ k ih =>
    intro l n h hk
    rcases Nat.lt_or_ge l.length 2 with hl | hl
    · exact ⟨fun x _ y _ _ => by rw [hD_one (by omega)]; omega, fun x _ y _ _ => by rw [hD_one (by omega)]; omega⟩
    · obtain ⟨a, b, r, hp, ha, hb⟩ := two_least hk hl
      have hkp := okK_perm hp hk
      have hk2 : okK ((a.1 + b.1, n) :: r) (n + 1) := okK_next hkp
      obtain ⟨P, Q⟩ := ih _ (n + 1) (len_le h hp (a.1 + b.1) n) hk2
      have st := hD_step hk hp ha hb
      have sa : ∀ x, x = a ∨ x = b → hD l n x.2 = hD ((a.1 + b.1, n) :: r) (n + 1) n + 1 := fun x hx => by
        rw [st, if_pos (by rcases hx with rfl | rfl; exact .inl rfl; exact .inr rfl)]
      have sr : ∀ x ∈ r, hD l n x.2 = hD ((a.1 + b.1, n) :: r) (n + 1) x.2 := fun x hx => by rw [st, if_neg (num_ne hk hp hx)]
      have hmem : ∀ x ∈ l, (x = a ∨ x = b) ∨ x ∈ r := fun x hx => by
        rcases List.mem_cons.1 (hp.mem_iff.1 hx) with h1 | h1
        · exact .inl (.inl h1)
        · rcases List.mem_cons.1 h1 with h2 | h2
          · exact .inl (.inr h2)
          · exact .inr h2
      have hmr : ∀ x ∈ r, x ∈ (a.1 + b.1, n) :: r := fun x hx => List.mem_cons_of_mem _ hx
      have hmc : ((a.1 + b.1, n) : Kd) ∈ (a.1 + b.1, n) :: r := List.mem_cons_self ..
      have hab : a.1 ≤ b.1 := by have := ha b (List.mem_cons_self ..); unfold klt at this; omega
      have hbr : ∀ x ∈ r, b.1 ≤ x.1 := fun x hx => by have := hb x hx; unfold klt at this; omega
      have lowc : low ((a.1 + b.1, n) :: r) (a.1 + b.1, n) := fun x hx z hz hne => by
        show a.1 + b.1 ≤ _
        rcases List.mem_cons.1 hx with rfl | hx
        · exact Nat.le_add_right _ _
        · rcases List.mem_cons.1 hz with rfl | hz
          · exact Nat.le_add_left _ _
          · have := hbr x hx; have := hbr z hz; omega
      have hax : a ∈ l := hp.mem_iff.2 (List.mem_cons_self ..)
      have hbx : b ∈ l := hp.mem_iff.2 (List.mem_cons_of_mem _ (List.mem_cons_self ..))
      have hneab : a.2 ≠ b.2 := fun e => by
        have := okK_inj hk hax hbx e
        subst this
        exact klt_irrefl a (ha a (List.mem_cons_self ..))
      have lowr : ∀ y, low l y → low ((a.1 + b.1, n) :: r) y ∧ y.1 ≤ a.1 + b.1 := fun y hy => by
        have h1 := hy a hax b hbx hneab
        refine ⟨fun x hx z hz hne => ?_, h1⟩
        rcases List.mem_cons.1 hx with rfl | hx
        · exact Nat.le_trans h1 (Nat.le_add_right _ _)
        · rcases List.mem_cons.1 hz with rfl | hz
          · exact Nat.le_trans h1 (Nat.le_add_left _ _)
          · exact hy x (hp.mem_iff.2 (List.mem_cons_of_mem _ (List.mem_cons_of_mem _ hx))) z (hp.mem_iff.2 (List.mem_cons_of_mem _ (List.mem_cons_of_mem _ hz))) hne
      constructor
      · intro x hx y hy hlt
        rcases hmem x hx with h1 | h1 <;> rcases hmem y hy with h2 | h2
        · rw [sa x h1, sa y h2]; exact Nat.le_refl _
        · exfalso
          refine klt_asymm hlt ?_
          rcases h1 with rfl | rfl
          · exact ha y (List.mem_cons_of_mem _ h2)
          · exact hb y h2
        · rw [sa y h2, sr x h1]
          by_cases hc : klt (a.1 + b.1, n) x
          · have := P x (hmr x h1) _ hmc hc
            exact Nat.le_succ_of_le this
          · exact Q x (hmr x h1) _ hmc lowc
        · rw [sr x h1, sr y h2]
          exact P x (hmr x h1) y (hmr y h2) hlt
      · intro x hx y hy hlow
        rcases hmem x hx with h1 | h1 <;> rcases hmem y hy with h2 | h2
        · rw [sa x h1, sa y h2]; exact Nat.le_succ _
        · rw [sa x h1, sr y h2]
          refine Nat.succ_le_succ (P _ hmc y (hmr y h2) ?_)
          have h3 := (lowr y hlow).2
          have h4 := hk.2 y hy
          show y.1 < a.1 + b.1 ∨ y.1 = a.1 + b.1 ∧ y.2 < n
          omega
        · rw [sa y h2, sr x h1]
          have := Q x (hmr x h1) _ hmc lowc
          exact Nat.le_succ_of_le this
        · rw [sr x h1, sr y h2]
          exact Q x (hmr x h1) y (hmr y h2) (lowr y hlow).1
end Go.Proofs.Ytmmkmbinmmfblaa
