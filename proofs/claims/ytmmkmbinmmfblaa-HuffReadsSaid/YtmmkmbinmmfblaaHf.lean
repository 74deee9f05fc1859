/- Layer 9 in numbers: the lengths of counts; there are such; they are a code. -/
import Derived.Test.YtmmkmbinmmfblaaHe
import Derived.Test.YtmmkmbinmmfblaaHa
namespace Go.Proofs.Ytmmkmbinmmfblaa
open Go.RowKit
/-- The nodes of the first m counts. -/
def nds (c : Nat → Nat) : Nat → List Kd
  | 0 => []
  | m + 1 => nds c m ++ if 0 < c m then [(c m, m)] else []
theorem nds_mem {c : Nat → Nat} {m : Nat} {x : Kd} : x ∈ nds c m ↔ x.2 < m ∧ 0 < c x.2 ∧ x.1 = c x.2 := by
  induction m with
  | zero => simp [nds]
  | succ m ih =>
    unfold nds
    rw [List.mem_append, ih]
    by_cases h : 0 < c m
    · rw [if_pos h, List.mem_singleton]
      constructor
      · rintro (h1 | rfl)
        · exact ⟨by omega, h1.2⟩
        · exact ⟨Nat.lt_succ_self _, h, rfl⟩
      · rintro ⟨h1, h2, h3⟩
        by_cases e : x.2 = m
        · right
          obtain ⟨a, b⟩ := x
          simp only at e h3
          subst e; subst h3; rfl
        · exact .inl ⟨by omega, h2, h3⟩
    · rw [if_neg h]
      constructor
      · rintro (h1 | h1)
        · exact ⟨by omega, h1.2⟩
        · cases h1
      · rintro ⟨h1, h2, h3⟩
        by_cases e : x.2 = m
        · rw [e] at h2; exact absurd h2 h
        · exact .inl ⟨by omega, h2, h3⟩
theorem nds_ok (c : Nat → Nat) (m : Nat) : okK (nds c m) m := by
  induction m with
  | zero => exact ⟨List.nodup_nil, fun x hx => by cases hx⟩
  | succ m ih =>
    refine ⟨?_, fun x hx => (nds_mem.1 hx).1⟩
    unfold nds
    by_cases h : 0 < c m
    · rw [if_pos h, List.map_append]
      refine List.nodup_append.2 ⟨ih.1, by simp, fun a ha b hb => ?_⟩
      obtain ⟨x, hx, rfl⟩ := List.mem_map.1 ha
      have h1 := ih.2 x hx
      have h2 : b = m := by simpa using hb
      omega
    · rw [if_neg h, List.append_nil]; exact ih.1
theorem nds_len (c : Nat → Nat) (m : Nat) : (nds c m).length ≤ m := by
  induction m with
  | zero => exact Nat.le_refl _
  | succ m ih =>
    unfold nds
    rw [List.length_append]
    split <;> simp <;> omega
/-- The depths. -/
def dep (c : Nat → Nat) (n i : Nat) : Nat := hD (nds c n) n i
/-- The greatest depth of the first m. -/
def depM (c : Nat → Nat) (n : Nat) : Nat → Nat
  | 0 => 0
  | m + 1 => max (depM c n m) (if 0 < c m then dep c n m else 0)
theorem depM_le {c : Nat → Nat} {n m k : Nat} : depM c n m ≤ k ↔ ∀ i, i < m → 0 < c i → dep c n i ≤ k := by
  induction m with
  | zero => exact ⟨fun _ i hi => by omega, fun _ => Nat.zero_le _⟩
  | succ m ih =>
    unfold depM
    rw [Nat.max_le, ih]
    constructor
    · rintro ⟨h1, h2⟩ i hi hc
      rcases (show i < m ∨ i = m by omega) with h | rfl
      · exact h1 i h hc
      · rwa [if_pos hc] at h2
    · intro h
      refine ⟨fun i hi hc => h i (by omega) hc, ?_⟩
      split
      · exact h m (by omega) (by assumption)
      · exact Nat.zero_le _
/-- The lengths, whatever is the limit. -/
def lenO (c : Nat → Nat) (n i : Nat) : Nat := if c i = 0 then 0 else if (nds c n).length = 1 then 1 else dep c n i
def halve (c : Nat → Nat) (i : Nat) : Nat := c i / 2 + c i % 2
/-- The lengths: f rounds at most. -/
def lenV : Nat → (Nat → Nat) → Nat → Nat → Option (Nat → Nat)
  | 0, _, _, _ => none
  | f + 1, c, n, most => if depM c n n ≤ most then some (lenO c n) else lenV f (halve c) n most
theorem dep_pos {c : Nat → Nat} {n i : Nat} (h : 2 ≤ (nds c n).length) (hi : i < n) (hc : 0 < c i) (k : Nat) (hm : depM c n n ≤ k) : 1 ≤ dep c n i := by
  rcases Nat.eq_zero_or_pos (dep c n i) with h0 | h0
  · exfalso
    have hk := nds_ok c n
    have hne : nds c n ≠ [] := fun e => by rw [e] at h; simp at h
    have hM : ∀ x ∈ nds c n, hD (nds c n) n x.2 ≤ k := fun x hx => depM_le.1 hm x.2 (nds_mem.1 hx).1 (nds_mem.1 hx).2.1
    have hs := hD_kraft k n (nds c n) n (by have := nds_len c n; omega) hne hk hM
    have hx : (c i, i) ∈ nds c n := nds_mem.2 ⟨hi, hc, rfl⟩
    obtain ⟨s, t, e⟩ := List.append_of_mem hx
    have hp : (nds c n).Perm ((c i, i) :: (s ++ t)) := by rw [e]; exact List.perm_middle
    rw [krL_perm k _ hp] at hs
    have h1 : 2 ^ (k - hD (nds c n) n i) + krL k (hD (nds c n) n) (s ++ t) = 2 ^ k := hs
    rw [show hD (nds c n) n i = 0 from h0, Nat.sub_zero] at h1
    have hl := hp.length_eq
    match hst : s ++ t with
    | [] => rw [hst] at hl; simp at hl; omega
    | y :: l =>
      rw [hst] at h1
      have h2 : 2 ^ k + (2 ^ (k - hD (nds c n) n y.2) + krL k (hD (nds c n) n) l) = 2 ^ k := h1
      have h3 : 0 < 2 ^ (k - hD (nds c n) n y.2) := Nat.pow_pos (by decide)
      omega
  · exact h0
theorem kr_nds (D c : Nat → Nat) (M m : Nat) (l : Nat → Nat) (hM : M = 15) (h : ∀ i, i < m → l i = if c i = 0 then 0 else D i) (h0 : ∀ i, i < m → 0 < c i → D i ≠ 0) : kr l m = krL M D (nds c m) := by
  subst hM
  induction m with
  | zero => rfl
  | succ m ih =>
    have ih2 := ih (fun i hi => h i (by omega)) (fun i hi => h0 i (by omega))
    have e : ∀ a b : List Kd, krL 15 D (a ++ b) = krL 15 D a + krL 15 D b := fun a b => by
      induction a with
      | nil => exact (Nat.zero_add _).symm
      | cons x a ih => show _ + krL 15 D (a ++ b) = _ + _ + _; rw [ih, Nat.add_assoc]
    show kr l m + (if l m = 0 then 0 else 2 ^ (15 - l m)) = krL 15 D (nds c m ++ _)
    rw [e, ih2, h m (Nat.lt_succ_self _)]
    congr 1
    by_cases hc : c m = 0
    · rw [if_pos hc, if_pos rfl, if_neg (by omega)]; rfl
    · have := h0 m (Nat.lt_succ_self _) (by omega)
      rw [if_neg hc, if_neg this, if_pos (by omega)]; rfl
/-- What is made of two counts and more is a whole code. -/
theorem lenO_kraft {c : Nat → Nat} {n most : Nat} (h : 2 ≤ (nds c n).length) (hm : depM c n n ≤ most) (h15 : most ≤ 15) : kr (lenO c n) n = 2 ^ 15 := by
  have hne : nds c n ≠ [] := fun e => by rw [e] at h; simp at h
  rw [kr_nds (dep c n) c 15 n (lenO c n) rfl (fun i _ => by
      unfold lenO
      by_cases hc : c i = 0
      · rw [if_pos hc, if_pos hc]
      · rw [if_neg hc, if_neg hc, if_neg (by omega)])
    (fun i hi hc => by have := dep_pos h hi hc most hm; omega)]
  exact hD_kraft 15 n (nds c n) n (by have := nds_len c n; omega) hne (nds_ok c n) fun x hx => by
    have := depM_le.1 hm x.2 (nds_mem.1 hx).1 (nds_mem.1 hx).2.1
    exact Nat.le_trans this h15
/-- A length just where a count is. -/
theorem lenO_pos {c : Nat → Nat} {n i most : Nat} (hi : i < n) (hm : depM c n n ≤ most) : 0 < lenO c n i ↔ 0 < c i := by
  unfold lenO
  by_cases hc : c i = 0
  · rw [if_pos hc]; omega
  · rw [if_neg hc]
    have hx : (c i, i) ∈ nds c n := nds_mem.2 ⟨hi, by show 0 < c i; omega, rfl⟩
    by_cases h1 : (nds c n).length = 1
    · rw [if_pos h1]; omega
    · rw [if_neg h1]
      have h2 : 2 ≤ (nds c n).length := by
        have := List.length_pos_of_mem hx
        omega
      have := dep_pos h2 hi (by omega) most hm
      omega
theorem lenO_le {c : Nat → Nat} {n i most : Nat} (hi : i < n) (hm : depM c n n ≤ most) (h1 : 1 ≤ most) : lenO c n i ≤ most := by
  unfold lenO
  by_cases hc : c i = 0
  · rw [if_pos hc]; omega
  · rw [if_neg hc]
    split
    · exact h1
    · exact depM_le.1 hm i hi (by omega)
/-- The heavier the less deep. -/
theorem lenO_order {c : Nat → Nat} {n i k : Nat} (hi : i < n) (hk : k < n) (h0 : 0 < c k) (h : c k < c i) : lenO c n i ≤ lenO c n k := by
  unfold lenO
  have hi0 : c i ≠ 0 := by omega
  have hk0 : c k ≠ 0 := by omega
  rw [if_neg hi0, if_neg hk0]
  split
  · exact Nat.le_refl _
  · exact (hD_order n (nds c n) n (by have := nds_len c n; omega) (nds_ok c n)).1 (c i, i) (nds_mem.2 ⟨hi, by show 0 < c i; omega, rfl⟩) (c k, k) (nds_mem.2 ⟨hk, h0, rfl⟩) (.inl h)
/-- Of few counts no limit is met. -/
theorem depM_few (c : Nat → Nat) (n k : Nat) (h : (nds c n).length ≤ k + 1) : depM c n n ≤ k :=
  depM_le.2 fun i _ _ => hD_le k (nds c n) n i h (nds_ok c n)
theorem nds_sorted (c : Nat → Nat) (m : Nat) (h : ∀ i j, i < m → j < m → 0 < c i → 0 < c j → c i = c j) : (nds c m).Pairwise klt := by
  induction m with
  | zero => exact List.Pairwise.nil
  | succ m ih =>
    unfold nds
    by_cases hc : 0 < c m
    · rw [if_pos hc]
      refine List.pairwise_append.2 ⟨ih fun i j hi hj => h i j (by omega) (by omega), List.pairwise_singleton _ _, fun x hx y hy => ?_⟩
      rw [List.mem_singleton.1 hy]
      obtain ⟨h1, h2, h3⟩ := nds_mem.1 hx
      exact .inr ⟨by rw [h3]; exact h _ _ (by omega) (by omega) h2 hc, h1⟩
    · rw [if_neg hc, List.append_nil]
      exact ih fun i j hi hj => h i j (by omega) (by omega)
/-- Of counts that are all alike. -/
theorem dep_alike {c : Nat → Nat} {n i : Nat} (h : ∀ i j, i < n → j < n → 0 < c i → 0 < c j → c i = c j) (hi : i < n) (hc : 0 < c i) :
    ∃ j, j < (nds c n).length ∧ dep c n i = Nat.log2 (2 * (nds c n).length - 1 - j) := by
  have hx : (c i, i) ∈ nds c n := nds_mem.2 ⟨hi, hc, rfl⟩
  obtain ⟨j, hj, e⟩ := List.mem_iff_getElem.1 hx
  have hl := List.length_pos_of_mem hx
  refine ⟨j, hj, ?_⟩
  have hq := hD_queue ((nds c n).length - 1) (nds c n) n (by omega) (nds_ok c n) (nds_sorted c n h) (fun x hx y hy => by
    obtain ⟨h1, h2, h3⟩ := nds_mem.1 hx
    obtain ⟨h4, h5, h6⟩ := nds_mem.1 hy
    rw [h3, h6, h _ _ h1 h4 h2 h5]; omega) j hj
  rw [e] at hq
  exact hq
theorem dep_ones {c : Nat → Nat} {n : Nat} (h : ∀ i, i < n → c i ≤ 1) (k : Nat) (hn : 2 * n < 2 ^ (k + 1)) : depM c n n ≤ k :=
  depM_le.2 fun i hi hc => by
    obtain ⟨j, hj, e⟩ := dep_alike (c := c) (n := n) (fun i j hi hj h1 h2 => by have := h i hi; have := h j hj; omega) hi hc
    rw [e]
    have hl := nds_len c n
    have := (Nat.log2_lt (n := 2 * (nds c n).length - 1 - j) (by omega) (k := k + 1)).2 (by omega)
    omega
theorem halve_le {c : Nat → Nat} {i k : Nat} (h : c i ≤ 2 ^ (k + 1)) : halve c i ≤ 2 ^ k := by
  unfold halve
  rw [Nat.pow_succ] at h
  omega
/-- There are lengths. -/
theorem lenV_some (f : Nat) : ∀ (c : Nat → Nat) (n most k : Nat), k < f → (∀ i, i < n → c i ≤ 2 ^ k) → 2 * n < 2 ^ (most + 1) → ∃ l, lenV f c n most = some l := by
  induction f with
  | zero => intro c n most k hk; omega
  | succ f ih =>
    intro c n most k hk h hn
    unfold lenV
    by_cases hm : depM c n n ≤ most
    · rw [if_pos hm]; exact ⟨_, rfl⟩
    · rw [if_neg hm]
      match k, hk, h with
      | 0, _, h => exact absurd (dep_ones (fun i hi => h i hi) most hn) hm
      | k + 1, hk, h => exact ih (halve c) n most k (by omega) (fun i hi => halve_le (h i hi)) hn
/-- What the lengths are made of. -/
theorem lenV_is (f : Nat) : ∀ {c : Nat → Nat} {n most : Nat} {l : Nat → Nat}, lenV f c n most = some l → ∃ e, l = lenO e n ∧ depM e n n ≤ most ∧ ∀ i, 0 < e i ↔ 0 < c i := by
  induction f with
  | zero => intro c n most l h; cases h
  | succ f ih =>
    intro c n most l h
    unfold lenV at h
    by_cases hm : depM c n n ≤ most
    · rw [if_pos hm] at h; cases h; exact ⟨c, rfl, hm, fun _ => Iff.rfl⟩
    · rw [if_neg hm] at h
      obtain ⟨e, h1, h2, h3⟩ := ih h
      refine ⟨e, h1, h2, fun i => (h3 i).trans ?_⟩
      unfold halve; omega
end Go.Proofs.Ytmmkmbinmmfblaa
