/- The reference's least of chapter 9. -/
import Derived.Test.YtjdfdiejlmeeoaaMC
import Derived.Test.YtjdfdiejlmeeoaaMB
import Derived.Test.YtjdfdiejlmeeoaaMA
import Derived.Deep.LoopGhost
namespace Go.Proofs.Ytjdfdiejlmeeoaa
open Go.RowKit
/-- Nodes in a block: weight, number, symbols (a slice). -/
structure NB (g n : Nat) (K : Nat → Kd) (S : Nat → Value) (w : World) : Prop where
  c0 : ∀ i, i < n → w.cell? ⟨g, i * 3, none⟩ = some (.int .i64 ((K i).1 : Int))
  c1 : ∀ i, i < n → w.cell? ⟨g, i * 3 + 1, none⟩ = some (.int .i64 ((K i).2 : Int))
  c2 : ∀ i, i < n → w.cell? ⟨g, i * 3 + 2, none⟩ = some (S i)
  lt : g < w.heap.size
theorem NB.below {g n : Nat} {K : Nat → Kd} {S : Nat → Value} {w w' : World} (h : NB g n K S w) (hb : Below w.heap.size w w') : NB g n K S w' :=
  ⟨fun i hi => (hb.cell (p := ⟨g, i * 3, none⟩) h.lt).trans (h.c0 i hi), fun i hi => (hb.cell (p := ⟨g, i * 3 + 1, none⟩) h.lt).trans (h.c1 i hi), fun i hi => (hb.cell (p := ⟨g, i * 3 + 2, none⟩) h.lt).trans (h.c2 i hi), Nat.lt_of_lt_of_le h.lt hb.size⟩
/-- The least one of the first m. -/
def lsI (K : Nat → Kd) : Nat → Nat
  | 0 => 0
  | m + 1 => if klt (K m) (K (lsI K m)) then m else lsI K m
theorem lsI_lt (K : Nat → Kd) {m : Nat} (h : 0 < m) : lsI K m < m := by
  induction m with
  | zero => omega
  | succ m ih =>
    unfold lsI
    split
    · omega
    · rcases Nat.eq_zero_or_pos m with rfl | h0
      · exact Nat.one_pos
      · have := ih h0; omega
end Go.Proofs.Ytjdfdiejlmeeoaa
/- Nodes as a list in a slice of one's own; the reference's without of chapter 9. -/
namespace Go.Proofs.Ytjdfdiejlmeeoaa
open Go.RowKit
/-- A node: its weight and number, its symbols (a slice). -/
abbrev Nx := Kd × Value
def cellsL (l : List Nx) : List Value := l.flatMap fun x => [.int .i64 (x.1.1 : Int), .int .i64 (x.1.2 : Int), x.2]
theorem cellsL_len (l : List Nx) : (cellsL l).length = l.length * 3 := by
  induction l with
  | nil => rfl
  | cons x l ih => show (_ ++ cellsL l).length = _; rw [List.length_append, ih]; simp; omega
theorem cellsL_app (l m : List Nx) : cellsL (l ++ m) = cellsL l ++ cellsL m := by simp [cellsL]
theorem cellsL_at (l : List Nx) (i : Nat) (x : Nx) (h : l[i]? = some x) : (cellsL l)[i * 3]? = some (.int .i64 (x.1.1 : Int)) ∧ (cellsL l)[i * 3 + 1]? = some (.int .i64 (x.1.2 : Int)) ∧ (cellsL l)[i * 3 + 2]? = some x.2 := by
  induction l generalizing i with
  | nil => simp at h
  | cons y l ih =>
    have e : cellsL (y :: l) = [.int .i64 (y.1.1 : Int), .int .i64 (y.1.2 : Int), y.2] ++ cellsL l := rfl
    rw [e]
    match i, h with
    | 0, h => simp at h; subst h; exact ⟨rfl, rfl, rfl⟩
    | i + 1, h =>
      have h2 : l[i]? = some x := by simpa using h
      obtain ⟨a, b, c⟩ := ih i h2
      refine ⟨?_, ?_, ?_⟩
      · rw [List.getElem?_append_right (by simp; omega)]; simpa [show (i + 1) * 3 - 3 = i * 3 by omega] using a
      · rw [List.getElem?_append_right (by simp; omega)]; simpa [show (i + 1) * 3 + 1 - 3 = i * 3 + 1 by omega] using b
      · rw [List.getElem?_append_right (by simp; omega)]; simpa [show (i + 1) * 3 + 2 - 3 = i * 3 + 2 by omega] using c
/-- Nodes in a block, read. -/
structure RB (g : Nat) (l : List Nx) (w : World) : Prop where
  c : ∀ j, j < l.length * 3 → w.cell? ⟨g, j, none⟩ = (cellsL l)[j]?
  lt : g < w.heap.size
theorem RB.below {g : Nat} {l : List Nx} {w w' : World} (h : RB g l w) (hb : Below w.heap.size w w') : RB g l w' :=
  ⟨fun j hj => (hb.cell (p := ⟨g, j, none⟩) h.lt).trans (h.c j hj), Nat.lt_of_lt_of_le h.lt hb.size⟩
def keyL (l : List Nx) (i : Nat) : Kd := (l[i]?.getD ((0, 0), .slice none 0 0)).1
def symL (l : List Nx) (i : Nat) : Value := (l[i]?.getD ((0, 0), .slice none 0 0)).2
theorem RB.nb {g : Nat} {l : List Nx} {w : World} (h : RB g l w) : NB g l.length (keyL l) (symL l) w := by
  have key : ∀ i, i < l.length → l[i]? = some (l[i]?.getD ((0, 0), .slice none 0 0)) := fun i hi => by rw [List.getElem?_eq_getElem hi]; rfl
  exact ⟨fun i hi => (h.c _ (by omega)).trans (cellsL_at l i _ (key i hi)).1, fun i hi => (h.c _ (by omega)).trans (cellsL_at l i _ (key i hi)).2.1, fun i hi => (h.c _ (by omega)).trans (cellsL_at l i _ (key i hi)).2.2, h.lt⟩
theorem cellsL_take (l : List Nx) (i j : Nat) (hj : j < (l.take i).length * 3) : (cellsL l)[j]? = (cellsL (l.take i))[j]? := by
  have e : cellsL l = cellsL (l.take i) ++ cellsL (l.drop i) := by rw [← cellsL_app, List.take_append_drop]
  rw [e, List.getElem?_append_left (by rw [cellsL_len]; exact hj)]
theorem cellsL_drop (l : List Nx) (i j : Nat) (hi : i ≤ l.length) : (cellsL l)[i * 3 + j]? = (cellsL (l.drop i))[j]? := by
  have e : cellsL l = cellsL (l.take i) ++ cellsL (l.drop i) := by rw [← cellsL_app, List.take_append_drop]
  have hl : (cellsL (l.take i)).length = i * 3 := by rw [cellsL_len, List.length_take, Nat.min_eq_left hi]
  rw [e, List.getElem?_append_right (by omega), hl, Nat.add_sub_cancel_left]
end Go.Proofs.Ytjdfdiejlmeeoaa
/- Nodes with their symbols; the first nodes, of chapter 9's lengths. -/
namespace Go.Proofs.Ytjdfdiejlmeeoaa
open Go.RowKit
/-- A node with its symbols. -/
abbrev Ny := Kd × Value × List Nat
def nxs (l : List Ny) : List Nx := l.map fun x => (x.1, x.2.1)
def kys (l : List Ny) : List Kd := l.map (·.1)
/-- A list of symbols, read. -/
def RL (w : World) (v : Value) (L : List Nat) : Prop := w.ownsRow 0 3 1 v L.length (L.map fun (i : Nat) => Value.int .i64 (i : Int))
theorem RL.lt {w : World} {v : Value} {L : List Nat} (h : RL w v L) {g : Nat} (hg : v.ownBlock = some g) : ∃ cur, w.heap[g]? = some (.cells cur 3 (0, 0)) ∧ g < w.heap.size := by
  rcases h.2 with ⟨rfl, _⟩ | ⟨g', cap, cur, rfl, _, hc, _⟩
  · simp [Value.ownBlock] at hg
  · have : g' = g := by simpa [Value.ownBlock] using hg
    subst this
    refine ⟨cur, hc, ?_⟩
    rcases Nat.lt_or_ge g' w.heap.size with hlt | hge
    · exact hlt
    · rw [Array.getElem?_eq_none hge] at hc; cases hc
theorem RL.block {w w' : World} {v : Value} {L : List Nat} (h : RL w v L) (hb : ∀ g, v.ownBlock = some g → w'.heap[g]? = w.heap[g]?) : RL w' v L := by
  refine ⟨h.1, ?_⟩
  rcases h.2 with h1 | ⟨g, cap, cur, h1, h2, h3, h4⟩
  · exact .inl h1
  · exact .inr ⟨g, cap, cur, h1, h2, (hb g (by rw [h1]; rfl)).trans h3, h4⟩
theorem RL.below {w w' : World} {v : Value} {L : List Nat} (h : RL w v L) (hb : Below w.heap.size w w') : RL w' v L :=
  h.block fun g hg => hb.block g (h.lt hg).choose_spec.2
theorem nxs_app (l m : List Ny) : nxs (l ++ m) = nxs l ++ nxs m := List.map_append ..
theorem nxs_len (l : List Ny) : (nxs l).length = l.length := List.length_map ..
theorem RL.cellOk {w : World} {v : Value} {L : List Nat} (h : RL w v L) : v.oneCell' = true := by
  rcases h.2 with ⟨rfl, _⟩ | ⟨g, cap, cur, rfl, _⟩ <;> rfl
end Go.Proofs.Ytjdfdiejlmeeoaa
/- lengths of the reference of chapter 9: the first nodes. -/
namespace Go.Proofs.Ytjdfdiejlmeeoaa
open Go.RowKit
theorem kys_app (l m : List Ny) : kys (l ++ m) = kys l ++ kys m := List.map_append ..
theorem kys_len (l : List Ny) : (kys l).length = l.length := List.length_map ..
theorem RL_one (w : World) (k : Nat) : RL (w.alloc (.cells #[.int .i64 (k : Int)] 3)) (.slice (some ⟨w.heap.size, 0, none⟩) 1 1) [k] :=
  ⟨rfl, .inr ⟨w.heap.size, 1, #[.int .i64 (k : Int)], rfl, Nat.zero_le _, heap_alloc_new w _, Nat.le_refl _, by unfold maxLen; omega, rfl, rfl⟩⟩
end Go.Proofs.Ytjdfdiejlmeeoaa
/- lengths of chapter 9: a round, in numbers. -/
namespace Go.Proofs.Ytjdfdiejlmeeoaa
open Go.RowKit
def sumW : List Kd → Nat
  | [] => 0
  | x :: l => x.1 + sumW l
theorem sumW_perm {l m : List Kd} (h : l.Perm m) : sumW l = sumW m := by
  induction h with
  | nil => rfl
  | cons x _ ih => show _ + _ = _ + _; rw [ih]
  | swap x y l => show _ + (_ + _) = _ + (_ + _); omega
  | trans _ _ h1 h2 => rw [h1, h2]
theorem sumW_mem {l : List Kd} {x : Kd} (h : x ∈ l) : x.1 ≤ sumW l := by
  induction l with
  | nil => cases h
  | cons y l ih =>
    show _ ≤ y.1 + sumW l
    rcases List.mem_cons.1 h with rfl | h2
    · exact Nat.le_add_right _ _
    · have := ih h2; omega
/-- Between two rounds: the nodes, and how often each symbol was in a new one. -/
structure LP (c : Nat → Nat) (n : Nat) (l : List Ny) (nx : Nat) (F : Nat → Nat) : Prop where
  ok : okK (kys l) nx
  nd : (l.flatMap (·.2.2)).Nodup
  lt : ∀ x ∈ l, ∀ s ∈ x.2.2, s < n ∧ 0 < c s
  cov : ∀ s, s < n → 0 < c s → ∃ x ∈ l, s ∈ x.2.2
  fd : ∀ x ∈ l, ∀ s ∈ x.2.2, F s + hD (kys l) nx x.1.2 = dep c n s
  z : ∀ s, c s = 0 → F s = 0
  nb : nx + l.length ≤ 2 * n
  wt : sumW (kys l) ≤ n * 1099511627776
  ne : ∀ x ∈ l, x.2.2 ≠ []
theorem kys_mem {l : List Ny} {x : Ny} (h : x ∈ l) : x.1 ∈ kys l := List.mem_map.2 ⟨x, h, rfl⟩
def addH (F : Nat → Nat) (L : List Nat) (s : Nat) : Nat := if s ∈ L then F s + 1 else F s
theorem LP.step {c : Nat → Nat} {n nx : Nat} {l r : List Ny} {a b : Ny} {F : Nat → Nat} (h : LP c n l nx F) (hp : l.Perm (a :: b :: r)) (ha : ∀ x ∈ b.1 :: kys r, klt a.1 x) (hb : ∀ x ∈ kys r, klt b.1 x) (sv : Value) :
    LP c n (r ++ [((a.1.1 + b.1.1, nx), sv, a.2.2 ++ b.2.2)]) (nx + 1) (addH F (a.2.2 ++ b.2.2)) := by
  have hk : (kys l).Perm (a.1 :: b.1 :: kys r) := hp.map _
  have st := hD_step h.ok hk ha hb
  have hq : (r ++ [(((a.1.1 + b.1.1, nx), sv, a.2.2 ++ b.2.2) : Ny)]).Perm ((((a.1.1 + b.1.1, nx), sv, a.2.2 ++ b.2.2) : Ny) :: r) := List.perm_append_singleton _ _
  have hkq : (kys (r ++ [(((a.1.1 + b.1.1, nx), sv, a.2.2 ++ b.2.2) : Ny)])).Perm ((a.1.1 + b.1.1, nx) :: kys r) := hq.map _
  have ok2 : okK ((a.1.1 + b.1.1, nx) :: kys r) (nx + 1) := okK_next (okK_perm hk h.ok)
  have ok3 : okK (kys (r ++ [(((a.1.1 + b.1.1, nx), sv, a.2.2 ++ b.2.2) : Ny)])) (nx + 1) := okK_perm hkq.symm ok2
  have mem : ∀ x, x ∈ l ↔ x = a ∨ x = b ∨ x ∈ r := fun x => by rw [hp.mem_iff]; simp
  have nd2 : ((a :: b :: r).flatMap (·.2.2)).Nodup := (hp.flatMap_right _).nodup_iff.1 h.nd
  have nd3 : (a.2.2 ++ (b.2.2 ++ r.flatMap (·.2.2))).Nodup := by simpa using nd2
  have rnot : ∀ x ∈ r, ∀ s ∈ x.2.2, s ∉ a.2.2 ++ b.2.2 := fun x hx s hs hm => by
    rw [← List.append_assoc] at nd3
    exact (List.nodup_append.1 nd3).2.2 s hm s (List.mem_flatMap.2 ⟨x, hx, hs⟩) rfl
  refine ⟨ok3, ?_, ?_, ?_, ?_, ?_, ?_, ?_, ?_⟩
  · rw [List.flatMap_append]
    have e : [(((a.1.1 + b.1.1, nx), sv, a.2.2 ++ b.2.2) : Ny)].flatMap (·.2.2) = a.2.2 ++ b.2.2 := by simp
    rw [e]
    refine (List.perm_append_comm.nodup_iff).1 ?_
    rw [List.append_assoc]; exact nd3
  · intro x hx s hs
    rcases List.mem_append.1 hx with h1 | h1
    · exact h.lt x ((mem x).2 (.inr (.inr h1))) s hs
    · rw [List.mem_singleton.1 h1] at hs
      rcases List.mem_append.1 hs with h2 | h2
      · exact h.lt a ((mem a).2 (.inl rfl)) s h2
      · exact h.lt b ((mem b).2 (.inr (.inl rfl))) s h2
  · intro s hs hc
    obtain ⟨x, hx, hsx⟩ := h.cov s hs hc
    rcases (mem x).1 hx with rfl | rfl | h1
    · exact ⟨_, List.mem_append.2 (.inr (List.mem_singleton.2 rfl)), List.mem_append.2 (.inl hsx)⟩
    · exact ⟨_, List.mem_append.2 (.inr (List.mem_singleton.2 rfl)), List.mem_append.2 (.inr hsx)⟩
    · exact ⟨x, List.mem_append.2 (.inl h1), hsx⟩
  · intro x hx s hs
    rw [hD_perm hkq ok3]
    rcases List.mem_append.1 hx with h1 | h1
    · have h2 := h.fd x ((mem x).2 (.inr (.inr h1))) s hs
      rw [st, if_neg (num_ne h.ok hk (kys_mem h1))] at h2
      unfold addH
      rw [if_neg (rnot x h1 s hs)]; exact h2
    · rw [List.mem_singleton.1 h1] at hs ⊢
      show addH F (a.2.2 ++ b.2.2) s + hD _ (nx + 1) nx = _
      unfold addH
      rw [if_pos hs]
      rcases List.mem_append.1 hs with h2 | h2
      · have h3 := h.fd a ((mem a).2 (.inl rfl)) s h2
        rw [st, if_pos (.inl rfl)] at h3
        omega
      · have h3 := h.fd b ((mem b).2 (.inr (.inl rfl))) s h2
        rw [st, if_pos (.inr rfl)] at h3
        omega
  · intro s hc
    unfold addH
    rw [if_neg, h.z s hc]
    intro hm
    rcases List.mem_append.1 hm with h2 | h2
    · have := (h.lt a ((mem a).2 (.inl rfl)) s h2).2; omega
    · have := (h.lt b ((mem b).2 (.inr (.inl rfl))) s h2).2; omega
  · have h1 := h.nb
    have h2 := hp.length_eq
    simp only [List.length_append, List.length_cons, List.length_nil] at h2 ⊢
    omega
  · have h1 := h.wt
    rw [sumW_perm hk] at h1
    rw [sumW_perm hkq]
    show a.1.1 + b.1.1 + sumW (kys r) ≤ _
    have h2 : sumW (a.1 :: b.1 :: kys r) = a.1.1 + (b.1.1 + sumW (kys r)) := rfl
    omega
  · intro x hx
    rcases List.mem_append.1 hx with h1 | h1
    · exact h.ne x ((mem x).2 (.inr (.inr h1)))
    · rw [List.mem_singleton.1 h1]
      intro e
      exact h.ne a ((mem a).2 (.inl rfl)) (List.append_eq_nil_iff.1 e).1
end Go.Proofs.Ytjdfdiejlmeeoaa
/- lengths of chapter 9: the two least nodes of a round. -/
namespace Go.Proofs.Ytjdfdiejlmeeoaa
open Go.RowKit
theorem lsI_min (K : Nat → Kd) (m : Nat) : ∀ j, j < m → ¬ klt (K j) (K (lsI K m)) := by
  induction m with
  | zero => intro j hj; omega
  | succ m ih =>
    intro j hj
    unfold lsI
    by_cases h : klt (K m) (K (lsI K m))
    · rw [if_pos h]
      rcases (show j < m ∨ j = m by omega) with h1 | rfl
      · exact fun h2 => ih j h1 (klt_trans h2 h)
      · exact klt_irrefl _
    · rw [if_neg h]
      rcases (show j < m ∨ j = m by omega) with h1 | rfl
      · exact ih j h1
      · exact h
theorem keyL_at {l : List Ny} {i : Nat} (h : i < l.length) : keyL (nxs l) i = (l[i]).1 := by
  unfold keyL nxs
  rw [List.getElem?_map, List.getElem?_eq_getElem h]; rfl
theorem nxs_erase (l : List Ny) (i : Nat) : nxs (l.eraseIdx i) = (nxs l).eraseIdx i := by
  simp only [nxs, List.eraseIdx_eq_take_drop_succ, List.map_append, List.map_take, List.map_drop]
theorem erase_perm {α : Type} {l : List α} {i : Nat} (h : i < l.length) : l.Perm (l[i] :: l.eraseIdx i) := by
  rw [List.eraseIdx_eq_take_drop_succ]
  have e : l = l.take i ++ l[i] :: l.drop (i + 1) := by rw [List.getElem_cons_drop, List.take_append_drop]
  have h2 : (l.take i ++ l[i] :: l.drop (i + 1)).Perm (l[i] :: (l.take i ++ l.drop (i + 1))) := List.perm_middle
  exact (List.Perm.of_eq e).trans h2
/-- The least one, and the others. -/
theorem least_of {l : List Ny} {nx : Nat} (hk : okK (kys l) nx) (h0 : 0 < l.length) : ∃ h : lsI (keyL (nxs l)) l.length < l.length,
    l.Perm (l[lsI (keyL (nxs l)) l.length] :: l.eraseIdx (lsI (keyL (nxs l)) l.length)) ∧ ∀ x ∈ kys (l.eraseIdx (lsI (keyL (nxs l)) l.length)), klt (l[lsI (keyL (nxs l)) l.length]).1 x := by
  have h := lsI_lt (keyL (nxs l)) h0
  have hmin := lsI_min (keyL (nxs l)) l.length
  generalize lsI (keyL (nxs l)) l.length = i at *
  refine ⟨h, erase_perm h, fun x hx => ?_⟩
  have hp : (kys l).Perm ((l[i]).1 :: kys (l.eraseIdx i)) := (erase_perm h).map _
  have hn := (okK_perm hp hk).1
  rw [List.map_cons] at hn
  have hne : (l[i]).1.2 ≠ x.2 := fun e => (List.nodup_cons.1 hn).1 (List.mem_map.2 ⟨x, hx, e.symm⟩)
  obtain ⟨y, hy, rfl⟩ := List.mem_map.1 (hp.mem_iff.2 (List.mem_cons_of_mem _ hx))
  obtain ⟨j, hj, rfl⟩ := List.mem_iff_getElem.1 hy
  have h1 := hmin j hj
  rw [keyL_at hj, keyL_at h] at h1
  exact klt_total (fun e => hne e.symm) h1
end Go.Proofs.Ytjdfdiejlmeeoaa
/- An operation of a region that draws, behind another one. -/
namespace Go.Proofs.Ytjdfdiejlmeeoaa
open Go.RowKit
section
variable {P : Program} {md : Region.Mode} {ops : Array Oper} {T : Bool → Bool → World → Prop} {s t : Nat}
theorem listed_before {L : Array Bool} {o : Oper} (hm : May md ops t L) (ho : ops[t]? = some o) (hb : (o.after.toList.any fun e => Region.binds md e && e.on == s) = true) : L.getD s false = true := by
  obtain ⟨_, o', ho', hall⟩ := mem_ready.1 hm.ready
  obtain rfl : o = o' := by rw [ho] at ho'; cases ho'; rfl
  obtain ⟨e, he, h2⟩ := List.any_eq_true.1 hb
  rw [Bool.and_eq_true, beq_iff_eq] at h2
  have := hall e (by simpa using he) h2.1
  rw [h2.2] at this
  exact this
theorem yl_late {o o2 : Oper} {v : Value} {a : Act} (hne : t ≠ s) (ho : ops[t]? = some o2) (hb : (o2.after.toList.any fun e => Region.binds md e && e.on == s) = true) (hw : Region.wanted o (yielded ops a.tmps) = true)
    (h : ∀ w, T true false w → Lands P (T true true) v ((execOp a.eval o).run P w)) : YieldsL P md ops (Two s t T) t o v a :=
  .inl ⟨hw, fun L w hm hS => by
    unfold Two at *
    rw [hm.unlisted.2, getD_set_ne false hne]
    rw [hm.unlisted.1] at hS
    rw [listed_before hm ho hb] at hS ⊢
    exact h w hS⟩
end
theorem lands_appendH {P : Program} {R : World → Prop} {o : Oper} {a : Act} {w w' : World} {v : Value} (s x : Operand) (t : TypeId) (ho : o.op = Op.call { callee := Callee.builtin Builtin.append, args := #[s, x], argTypes := #[t, t] })
    {vs vx : Value} (hs : a.eval s = vs) (hx : a.eval x = vx) (hr : (Builtin.append_ #[t, t] o.type #[vs, vx]).run P w = .ok v w') (hR : R w') : Lands P R v ((execOp a.eval o).run P w) := by
  refine lands_value (w := w') ?_ hR
  simp [execOp, ho, resolve, invoke, builtin, hs, hx, hr, Result.andThen]
/-- A list behind another one, in one's own. -/
theorem run_joinR (w : World) (B : Nat) (v x : Value) (L M : List Nat) (hv : w.ownsRow B 3 1 v L.length (L.map fun (i : Nat) => Value.int .i64 (i : Int))) (hx : RL w x M) (hM : M ≠ []) (hB : B ≤ w.heap.size) (hn : L.length + M.length ≤ 1000000) (ty : TypeId) :
    ∃ v' w', (Builtin.append_ #[31, 31] ty #[v, x]).run Try.prog w = .ok v' w' ∧ w'.ownsRow B 3 1 v' (L ++ M).length ((L ++ M).map fun (i : Nat) => Value.int .i64 (i : Int)) ∧ w.grownBy w' v.ownBlock := by
  obtain ⟨i0, hi, hz0, hz1, hz2⟩ := info_parts int_infoC
  rcases hx.2 with ⟨_, h2⟩ | ⟨g, cap, cur, rfl, _, hc, h4, h5, h6, h7⟩
  · exact absurd (List.eq_nil_of_length_eq_zero h2) hM
  · obtain ⟨v', w', h1, h2, h3, _⟩ := run_append_own (P := Try.prog) w B 31 ty 3 i0 (.int .i64 0) 1 8 Try.underlying31 hi hz0 hz1 hz2 rfl (by decide) v L.length _ hv ⟨g, 0, none⟩ M.length cap (M.map fun (i : Nat) => Value.int .i64 (i : Int)) (by rw [List.length_map, Nat.mul_one]) (fun j u hu => by
        have hj : j < M.length := by
          rcases Nat.lt_or_ge j M.length with h1 | h1
          · exact h1
          · rw [List.getElem?_eq_none (by rw [List.length_map]; exact h1)] at hu; cases hu
        rw [addr_add, Nat.zero_add, cell_of_row w g j cur _ (0, 0) hc, ← hu, ← h7, List.getElem?_take, if_pos (by omega)]; simp)
      (fun u hu => by obtain ⟨y, _, rfl⟩ := List.mem_map.1 hu; rfl) (by unfold maxLen; omega) (by omega) hB
    exact ⟨v', w', h1, by rw [List.length_append, List.map_append]; exact h2, h3⟩
end Go.Proofs.Ytjdfdiejlmeeoaa
/- lengths of the reference of chapter 9: the walk. -/
namespace Go.Proofs.Ytjdfdiejlmeeoaa
open Go.RowKit
/-- The most that any of the first m was. -/
def mxN (F : Nat → Nat) : Nat → Nat
  | 0 => 0
  | m + 1 => max (mxN F m) (F m)
theorem RL.form {w : World} {v : Value} {L : List Nat} (h : RL w v L) : ∃ p c, v = .slice p L.length c := by
  rcases h.2 with ⟨rfl, h2⟩ | ⟨g, cap, cur, rfl, _⟩
  · exact ⟨none, 0, by rw [h2]⟩
  · exact ⟨_, _, rfl⟩
theorem mem_erase {α : Type} {l : List α} {i : Nat} {x : α} (h : x ∈ l.eraseIdx i) : x ∈ l := by
  rw [List.eraseIdx_eq_take_drop_succ] at h
  rcases List.mem_append.1 h with h | h
  · exact List.mem_of_mem_take h
  · exact List.mem_of_mem_drop h
theorem okK_tail {x : Kd} {l : List Kd} {n : Nat} (h : okK (x :: l) n) : okK l n :=
  ⟨(List.nodup_cons.1 (by simpa only [List.map_cons] using h.1)).2, fun y hy => h.2 y (List.mem_cons_of_mem _ hy)⟩
theorem mxN_zero (m : Nat) : mxN (fun _ => 0) m = 0 := by
  induction m with
  | zero => rfl
  | succ m ih => show max (mxN _ m) 0 = 0; rw [ih]; rfl
theorem mxN_depM {c F : Nat → Nat} {n m : Nat} (h : ∀ s, s < m → F s = if 0 < c s then dep c n s else 0) : mxN F m = depM c n m := by
  induction m with
  | zero => rfl
  | succ m ih => show max _ _ = max _ _; rw [ih fun s hs => h s (by omega), h m (by omega)]
theorem LP.done {c : Nat → Nat} {n nx : Nat} {l : List Ny} {F : Nat → Nat} (h : LP c n l nx F) (hl : l.length ≤ 1) : ∀ s, s < n → F s = if c s = 0 then 0 else dep c n s := fun s hs => by
  by_cases h0 : c s = 0
  · rw [if_pos h0, h.z s h0]
  · rw [if_neg h0]
    obtain ⟨x, hx, hsx⟩ := h.cov s hs (by omega)
    have := h.fd x hx s hsx
    rw [hD_one (by rw [kys_len]; exact hl)] at this
    omega
theorem LP.two {c : Nat → Nat} {n nx : Nat} {l r : List Ny} {F : Nat → Nat} {a b : Ny} (h : LP c n l nx F) (hp : l.Perm (a :: b :: r)) : a.2.2.length + b.2.2.length ≤ n := by
  have nd2 : ((a :: b :: r).flatMap (·.2.2)).Nodup := (hp.flatMap_right _).nodup_iff.1 h.nd
  have nd3 : ((a.2.2 ++ b.2.2) ++ r.flatMap (·.2.2)).Nodup := by simpa [List.append_assoc] using nd2
  have nd4 := (List.nodup_append.1 nd3).1
  have hs : ∀ s ∈ a.2.2 ++ b.2.2, s ∈ List.range n := fun s hs => by
    rcases List.mem_append.1 hs with h1 | h1
    · exact List.mem_range.2 (h.lt a (hp.mem_iff.2 (List.mem_cons_self ..)) s h1).1
    · exact List.mem_range.2 (h.lt b (hp.mem_iff.2 (List.mem_cons_of_mem _ (List.mem_cons_self ..))) s h1).1
  have h5 := List.Nodup.length_le_of_subset nd4 hs
  rw [List.length_range, List.length_append] at h5
  exact h5
theorem own_far {w : World} {B e size n : Nat} {v : Value} {xs : List Value} {g : Nat} (h : w.ownsRow B e size v n xs) (hg : v.ownBlock ≠ some g) (s : Nat) (u : Value) : (w.setCell ⟨g, s, none⟩ u).ownsRow B e size v n xs := by
  refine ⟨h.1, ?_⟩
  rcases h.2 with h1 | ⟨q, cap, cur, h1, h2, h3, h4⟩
  · exact .inl h1
  · refine .inr ⟨q, cap, cur, h1, h2, ?_, h4⟩
    rw [Below.heap_setCell w ⟨g, s, none⟩ u q (fun e => hg (by rw [h1]; exact congrArg some e))]
    exact h3
theorem mxN_put {H G : Nat → Nat} {s m : Nat} (hG : ∀ j, (if j = s then H s + 1 else H j) = G j) (hs : s < m) : mxN G m = max (mxN H m) (H s + 1) := by
  have lo : ∀ i, i ≤ s → mxN G i = mxN H i := fun i => by
    induction i with
    | zero => intro _; rfl
    | succ i ih => intro hi; show max _ _ = max _ _; rw [ih (by omega), ← hG i, if_neg (by omega)]
  induction m with
  | zero => omega
  | succ m ih =>
    show max _ _ = max (max _ _) _
    by_cases h : m = s
    · subst h
      rw [lo m (Nat.le_refl _), ← hG m, if_pos rfl]
      omega
    · rw [ih (by omega), ← hG m, if_neg h]
      omega
theorem addH_zero (F : Nat → Nat) (M : List Nat) : addH F (M.take 0) = F := funext fun s => by unfold addH; rw [if_neg (by simp)]
theorem addH_next (F : Nat → Nat) (M : List Nat) (hM : M.Nodup) (t : Nat) (ht : t < M.length) : ∀ j, (if j = M[t] then addH F (M.take t) M[t] + 1 else addH F (M.take t) j) = addH F (M.take (t + 1)) j := fun j => by
  have e : M.take (t + 1) = M.take t ++ [M[t]] := by rw [List.take_succ_eq_append_getElem ht]
  have hn : M[t] ∉ M.take t := fun hm => by
    have h1 : (M.take (t + 1)).Nodup := hM.sublist (List.take_sublist _ _)
    rw [e] at h1
    exact (List.nodup_append.1 h1).2.2 _ hm _ (List.mem_singleton.2 rfl) rfl
  rw [e]
  unfold addH
  by_cases h : j = M[t]
  · subst h
    rw [if_pos rfl, if_neg hn, if_pos (List.mem_append.2 (.inr (List.mem_singleton.2 rfl)))]
  · rw [if_neg h]
    by_cases h2 : j ∈ M.take t
    · rw [if_pos h2, if_pos (List.mem_append.2 (.inl h2))]
    · rw [if_neg h2, if_neg]
      intro h3
      rcases List.mem_append.1 h3 with h4 | h4
      · exact h2 h4
      · exact h (List.mem_singleton.1 h4)
theorem addH_at (F : Nat → Nat) (M : List Nat) (hM : M.Nodup) (t : Nat) (ht : t < M.length) : addH F (M.take t) M[t] = F M[t] := by
  have e : M.take (t + 1) = M.take t ++ [M[t]] := by rw [List.take_succ_eq_append_getElem ht]
  have h1 : (M.take (t + 1)).Nodup := hM.sublist (List.take_sublist _ _)
  rw [e] at h1
  unfold addH
  rw [if_neg fun hm => (List.nodup_append.1 h1).2.2 _ hm _ (List.mem_singleton.2 rfl) rfl]
theorem lands_max2 {o : Oper} {a : Act} {w : World} (x y : Operand) (n m r : Nat) (hr : r = max n m) (ho : o.op = .call { callee := .builtin .max, args := #[x, y], argTypes := #[3, 3] }) (ht : o.type = 3) (hx : a.eval x = .int .i64 (n : Int)) (hy : a.eval y = .int .i64 (m : Int)) :
    Lands Try.prog (fun w' => w' = w) (.int .i64 (r : Int)) ((execOp a.eval o).run Try.prog w) := by
  refine lands_value (w := w) ?_ rfl
  simp [execOp, ho, ht, hx, hy, resolve, invoke, builtin]
  have e : ∀ at_ ty, (Builtin.max_ at_ ty #[Value.int .i64 (n : Int), .int .i64 (m : Int)]).run Try.prog w = .ok (.int .i64 (r : Int)) w := fun at_ ty => by
    simp only [Builtin.max_, Builtin.max2, List.foldlM, Sem.run_bind, Sem.run_pure, Result.andThen]
    subst hr
    congr 2
    split <;> omega
  rw [e]
  rfl
theorem LP.pair {c : Nat → Nat} {n nx : Nat} {l r : List Ny} {F : Nat → Nat} {a b : Ny} (h : LP c n l nx F) (hp : l.Perm (a :: b :: r)) : a.1.1 + b.1.1 ≤ n * 1099511627776 := by
  have h1 := h.wt
  have hk : (kys l).Perm (a.1 :: b.1 :: kys r) := hp.map _
  rw [sumW_perm hk] at h1
  have h2 : sumW (a.1 :: b.1 :: kys r) = a.1.1 + (b.1.1 + sumW (kys r)) := rfl
  generalize n * 1099511627776 = K at *
  omega
def lenVN : Value → Nat
  | .slice _ n _ => n
  | _ => 0
theorem sumW_app (a b : List Kd) : sumW (a ++ b) = sumW a + sumW b := by
  induction a with
  | nil => exact (Nat.zero_add _).symm
  | cons x a ih => show x.1 + sumW (a ++ b) = x.1 + sumW a + sumW b; rw [ih, Nat.add_assoc]
theorem sumW_nds (c : Nat → Nat) (n K : Nat) (hc : ∀ i, i < n → c i ≤ K) : ∀ m, m ≤ n → sumW (nds c m) ≤ m * K := by
  intro m hm
  induction m with
  | zero => exact Nat.zero_le _
  | succ m ih =>
    have h1 := ih (by omega)
    have h2 := hc m (by omega)
    show sumW (nds c m ++ _) ≤ _
    rw [sumW_app, Nat.succ_mul]
    split
    · exact Nat.add_le_add h1 h2
    · exact Nat.le_trans h1 (Nat.le_add_right _ _)
end Go.Proofs.Ytjdfdiejlmeeoaa
/- The reference's Lengths of chapter 9. -/
namespace Go.Proofs.Ytjdfdiejlmeeoaa
open Go.RowKit
/-- Is each one of the first n from 0 to 2 ^ 40? -/
def okC (f : Nat → Int) : Nat → Bool
  | 0 => true
  | k + 1 => okC f k && decide (0 ≤ f k ∧ f k ≤ 1099511627776)
theorem okC_true {f : Nat → Int} {n : Nat} : okC f n = true ↔ ∀ i, i < n → 0 ≤ f i ∧ f i ≤ 1099511627776 := by
  induction n with
  | zero => exact ⟨fun _ i hi => by omega, fun _ => rfl⟩
  | succ n ih =>
    unfold okC
    rw [Bool.and_eq_true, ih, decide_eq_true_eq]
    constructor
    · rintro ⟨h1, h2⟩ i hi
      rcases (show i < n ∨ i = n by omega) with h | rfl
      · exact h1 i h
      · exact h2
    · intro h
      exact ⟨fun i hi => h i (by omega), h n (by omega)⟩
theorem okC_false {f : Nat → Int} {n k : Nat} (hk : k < n) (h : ¬ (0 ≤ f k ∧ f k ≤ 1099511627776)) : okC f n = false := by
  cases e : okC f n with
  | false => rfl
  | true => exact absurd (okC_true.1 e k hk) h
/-- May the limit be? -/
def okM (most : Int) (n : Nat) : Prop := (9 ≤ most ∧ most ≤ 15) ∨ (most = 7 ∧ n ≤ 19)
theorem okM_facts {most : Int} {n : Nat} (h : okM most n) (hn : n ≤ 300) : ¬ (n : Int) > 300 ∧ ((¬ most < 9 ∧ ¬ most > 15) ∨ (most = 7 ∧ ¬ (n : Int) > 19)) := by
  unfold okM at h; omega
/-- A list of one's own that is written in place. -/
structure OI (B : Nat) (w0 : World) (p : Option Addr) (n cap : Nat) (f : Nat → Int) (w : World) : Prop where
  is_ : IS p n cap f w
  form : ∀ a, p = some a → a = ⟨a.block, 0, none⟩ ∧ B ≤ a.block
  fz : ∀ g, p = some ⟨g, 0, none⟩ → ∀ i, i < n → w.frozen? ⟨g, i, none⟩ = false
  b : Below B w0 w
theorem LI.oi {B : Nat} {w0 w : World} {f : Nat → Int} {n : Nat} {v : Value} (h : LI B w0 (firstI f n) v w) (lo : ∀ i, i < n → -9223372036854775808 ≤ f i) (hi : ∀ i, i < n → f i < 9223372036854775808) :
    ∃ p cap, v = .slice p n cap ∧ OI B w0 p n cap f w := by
  obtain ⟨p, cap, h1, h2, h3⟩ := h.is lo hi
  have hown := h.own
  rw [firstI_len] at hown
  refine ⟨p, cap, h1, h2, fun a ha => ?_, fun g hg i hi2 => ?_, h.b⟩
  · refine ⟨?_, h3 a ha⟩
    rcases hown.2 with ⟨h4, _⟩ | ⟨g, cap2, cur, h4, _⟩
    · rw [h1, ha] at h4; cases h4
    · rw [h1, ha] at h4; cases h4; rfl
  · rcases hown.2 with ⟨h4, _⟩ | ⟨g2, cap2, cur, h4, _, h5, _⟩
    · rw [h1, hg] at h4; cases h4
    · rw [h1, hg] at h4; cases h4
      exact Blk.frozen (t := 3) (cs := cur) h5 i
theorem OI.below {B : Nat} {w0 w w' : World} {p : Option Addr} {n cap : Nat} {f : Nat → Int} (h : OI B w0 p n cap f w) (hb : Below w.heap.size w w') (hB : B ≤ w.heap.size) : OI B w0 p n cap f w' :=
  ⟨h.is_.below hb, h.form, fun g hg i hi => (hb.frozen (p := ⟨g, i, none⟩) (show g < _ from h.is_.lt _ hg)).trans (h.fz g hg i hi), h.b.trans (hb.mono hB)⟩
theorem OI.drew {B : Nat} {w0 w : World} {p : Option Addr} {n cap : Nat} {f : Nat → Int} (h : OI B w0 p n cap f w) : OI B w0 p n cap f w.drew :=
  ⟨⟨h.is_.nil_, h.is_.cell, h.is_.lt, h.is_.lo, h.is_.hi⟩, h.form, h.fz, h.b.drew⟩
theorem OI.at_ {B : Nat} {w0 w : World} {g n cap : Nat} {f : Nat → Int} (h : OI B w0 (some ⟨g, 0, none⟩) n cap f w) {i : Nat} (hi : i < n) : w.cell? ⟨g, i, none⟩ = some (.int .i64 (f i)) := by
  have := h.is_.cell _ rfl i hi
  rwa [addr_add, Nat.zero_add] at this
theorem OI.cast {B : Nat} {w0 w : World} {p : Option Addr} {n cap : Nat} {f f' : Nat → Int} (h : OI B w0 p n cap f w) (e : ∀ i, i < n → f i = f' i) : OI B w0 p n cap f' w :=
  ⟨⟨h.is_.nil_, fun a ha i hi => by rw [← e i hi]; exact h.is_.cell a ha i hi, h.is_.lt, fun i hi => by rw [← e i hi]; exact h.is_.lo i hi, fun i hi => by rw [← e i hi]; exact h.is_.hi i hi⟩, h.form, h.fz, h.b⟩
theorem OI.put {B : Nat} {w0 w : World} {g n cap : Nat} {f f' : Nat → Int} (h : OI B w0 (some ⟨g, 0, none⟩) n cap f w) (k : Nat) (x : Int) (lo : -9223372036854775808 ≤ x) (hi : x < 9223372036854775808) (e : ∀ i, i < n → (if i = k then x else f i) = f' i) (hk : k < n) :
    OI B w0 (some ⟨g, 0, none⟩) n cap f' (w.setCell ⟨g, k, none⟩ (.int .i64 x)) := by
  refine ⟨⟨(fun e => by cases e), fun a ha i hi2 => ?_, fun a ha => ?_, fun i hi2 => ?_, fun i hi2 => ?_⟩, h.form, fun g2 hg2 i hi2 => ?_, h.b.setCell (p := ⟨g, k, none⟩) (show B ≤ g from (h.form _ rfl).2) _⟩
  · cases ha
    rw [addr_add, Nat.zero_add, ← e i hi2]
    by_cases h1 : i = k
    · subst h1; rw [if_pos rfl]; exact World.cell?_setCell_same _ _ _ (h.at_ hi2)
    · rw [if_neg h1, World.cell?_setCell_other _ _ _ _ (fun hh => by injection hh with _ h2; exact h1 h2.symm)]; exact h.at_ hi2
  · cases ha
    simp [World.setCell]; exact h.is_.lt _ rfl
  · rw [← e i hi2]; split; exact lo; exact h.is_.lo i hi2
  · rw [← e i hi2]; split; exact hi; exact h.is_.hi i hi2
  · cases hg2
    exact (World.frozen?_setCell _ _ _ _).trans (h.fz g rfl i hi2)
/-- Halved as far as k. -/
def haI (c : Nat → Nat) (f : Nat → Int) (k j : Nat) : Int := if j < k then ((halve c j : Nat) : Int) else f j
theorem haI_put (c : Nat → Nat) (f : Nat → Int) (k j : Nat) : (if j = k then ((halve c k : Nat) : Int) else haI c f k j) = haI c f (k + 1) j := by
  unfold haI
  by_cases h : j = k
  · subst h; rw [if_pos rfl, if_pos (by omega)]
  · rw [if_neg h]
    by_cases h2 : j < k
    · rw [if_pos h2, if_pos (by omega)]
    · rw [if_neg h2, if_neg (by omega)]
end Go.Proofs.Ytjdfdiejlmeeoaa
/- The reference's answers of chapter 9, each in one statement. -/
namespace Go.Proofs.Ytjdfdiejlmeeoaa
open Go.RowKit
/-- How many codes Codes answers. -/
def codesM (f : Nat → Int) (n : Nat) : Nat := if codesE f n = 0 then n else 0
theorem codesE_n {f : Nat → Int} {n : Nat} (h : codesE f n = 0) : n ≤ 300 := (codesE_zero h).1.2
theorem IS.nil0 (f : Nat → Int) (w : World) : IS none 0 0 f w := ⟨fun _ => ⟨rfl, rfl⟩, (fun a e => by cases e), (fun a e => by cases e), (fun i hi => by omega), (fun i hi => by omega)⟩
end Go.Proofs.Ytjdfdiejlmeeoaa
/- Numbers of the laws of chapter 9. -/
namespace Go.Proofs.Ytjdfdiejlmeeoaa
open Go.RowKit
/-- What Lengths answers: nothing, or lengths. -/
def lensV (f : Nat → Int) (n : Nat) (most : Int) : Option (Nat → Nat) := if okC f n = true ∧ n ≤ 300 ∧ ((9 ≤ most ∧ most ≤ 15) ∨ (most = 7 ∧ n ≤ 19)) then lenV 42 (toL f) n most.toNat else none
theorem lens_some {f : Nat → Int} {n : Nat} {most : Int} (hc : okC f n = true) (hn : n ≤ 300) (hM : okM most n) : ∃ l, lenV 42 (toL f) n most.toNat = some l := by
  refine lenV_some 42 (toL f) n most.toNat 40 (by omega) (fun i hi => ?_) ?_
  · have := okC_true.1 hc i hi
    unfold toL
    have e : (2 : Nat) ^ 40 = 1099511627776 := by decide
    omega
  · rcases hM with ⟨h1, h2⟩ | ⟨h1, h2⟩
    · have : 2 ^ 10 ≤ 2 ^ (most.toNat + 1) := Nat.pow_le_pow_right (by decide) (by omega)
      omega
    · subst h1
      show 2 * n < 2 ^ 8
      omega
end Go.Proofs.Ytjdfdiejlmeeoaa
