/- lengths of chapter 9: the two least nodes of a round. -/
import Derived.Test.YtmmkmbinmmfblaaHo
namespace Go.Proofs.Ytmmkmbinmmfblaa
open Go.RowKit
theorem lsI_min (K : Nat → Kd) (m : Nat) : ∀ j, j < m → ¬ klt (K j) (K (lsI K m)) := by
  induction m with
  | zero => intro j hj; omega
  | succ m ih =>
    intro j hj
    unfold lsI
    by_cases h : klt (K m) (K (lsI K m))
    · rw [if_pos h]
      rcases (show j < m ∨ j = m by omega) with h1 | rfl
      · exact fun h2 => ih j h1 (klt_trans h2 h)
      · exact klt_irrefl _
    · rw [if_neg h]
      rcases (show j < m ∨ j = m by omega) with h1 | rfl
      · exact ih j h1
      · exact h
theorem keyL_at {l : List Ny} {i : Nat} (h : i < l.length) : keyL (nxs l) i = (l[i]).1 := by
  unfold keyL nxs
  rw [List.getElem?_map, List.getElem?_eq_getElem h]; rfl
theorem nxs_erase (l : List Ny) (i : Nat) : nxs (l.eraseIdx i) = (nxs l).eraseIdx i := by
  simp only [nxs, List.eraseIdx_eq_take_drop_succ, List.map_append, List.map_take, List.map_drop]
theorem erase_perm {α : Type} {l : List α} {i : Nat} (h : i < l.length) : l.Perm (l[i] :: l.eraseIdx i) := by
  rw [List.eraseIdx_eq_take_drop_succ]
  have e : l = l.take i ++ l[i] :: l.drop (i + 1) := by rw [List.getElem_cons_drop, List.take_append_drop]
  have h2 : (l.take i ++ l[i] :: l.drop (i + 1)).Perm (l[i] :: (l.take i ++ l.drop (i + 1))) := List.perm_middle
  exact (List.Perm.of_eq e).trans h2
/-- The least one, and the others. -/
theorem least_of {l : List Ny} {nx : Nat} (hk : okK (kys l) nx) (h0 : 0 < l.length) : ∃ h : lsI (keyL (nxs l)) l.length < l.length,
    l.Perm (l[lsI (keyL (nxs l)) l.length] :: l.eraseIdx (lsI (keyL (nxs l)) l.length)) ∧ ∀ x ∈ kys (l.eraseIdx (lsI (keyL (nxs l)) l.length)), klt (l[lsI (keyL (nxs l)) l.length]).1 x := by
  have h := lsI_lt (keyL (nxs l)) h0
  have hmin := lsI_min (keyL (nxs l)) l.length
  generalize lsI (keyL (nxs l)) l.length = i at *
  refine ⟨h, erase_perm h, fun x hx => ?_⟩
  have hp : (kys l).Perm ((l[i]).1 :: kys (l.eraseIdx i)) := (erase_perm h).map _
  have hn := (okK_perm hp hk).1
  rw [List.map_cons] at hn
  have hne : (l[i]).1.2 ≠ x.2 := fun e => (List.nodup_cons.1 hn).1 (List.mem_map.2 ⟨x, hx, e.symm⟩)
  obtain ⟨y, hy, rfl⟩ := List.mem_map.1 (hp.mem_iff.2 (List.mem_cons_of_mem _ hx))
  obtain ⟨j, hj, rfl⟩ := List.mem_iff_getElem.1 hy
  have h1 := hmin j hj
  rw [keyL_at hj, keyL_at h] at h1
  exact klt_total (fun e => hne e.symm) h1
end Go.Proofs.Ytmmkmbinmmfblaa
