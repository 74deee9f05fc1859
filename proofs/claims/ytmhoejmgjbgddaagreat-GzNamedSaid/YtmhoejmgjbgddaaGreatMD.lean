/- The reference's least of chapter 9. -/
import Derived.Test.YtmhoejmgjbgddaaGreatMC
import Derived.Test.YtmhoejmgjbgddaaGreatMB
import Derived.Test.YtmhoejmgjbgddaaGreatMA
import Derived.Deep.LoopGhost
namespace Go.Proofs.YtmhoejmgjbgddaaGreat
open Go.RowKit
structure NB (g n : Nat) (K : Nat → Kd) (S : Nat → Value) (w : World) : Prop where
 c0 : ∀ i, i < n → w.cell? ⟨g, i * 3, none⟩ = some (.int .i64 ((K i).1 : Int))
 c1 : ∀ i, i < n → w.cell? ⟨g, i * 3 + 1, none⟩ = some (.int .i64 ((K i).2 : Int))
 c2 : ∀ i, i < n → w.cell? ⟨g, i * 3 + 2, none⟩ = some (S i)
 lt : g < w.heap.size
theorem NB.below {g n : Nat} {K : Nat → Kd} {S : Nat → Value} {w w' : World} (h : NB g n K S w) (hb : Below w.heap.size w w') : NB g n K S w' :=
 ⟨fun i hi => (hb.cell (p := ⟨g, i * 3, none⟩) h.lt).trans (h.c0 i hi), fun i hi => (hb.cell (p := ⟨g, i * 3 + 1, none⟩) h.lt).trans (h.c1 i hi), fun i hi => (hb.cell (p := ⟨g, i * 3 + 2, none⟩) h.lt).trans (h.c2 i hi), Nat.lt_of_lt_of_le h.lt hb.size⟩
end Go.Proofs.YtmhoejmgjbgddaaGreat
/- Nodes as a list in a slice of one's own; the reference's without of chapter 9. -/
namespace Go.Proofs.YtmhoejmgjbgddaaGreat
open Go.RowKit
abbrev Nx := Kd × Value
def cellsL (l : List Nx) : List Value := l.flatMap fun x => [.int .i64 (x.1.1 : Int), .int .i64 (x.1.2 : Int), x.2]
theorem cellsL_at (l : List Nx) (i : Nat) (x : Nx) (h : l[i]? = some x) : (cellsL l)[i * 3]? = some (.int .i64 (x.1.1 : Int)) ∧ (cellsL l)[i * 3 + 1]? = some (.int .i64 (x.1.2 : Int)) ∧ (cellsL l)[i * 3 + 2]? = some x.2 := by
 induction l generalizing i with
 | nil => simp at h
 | cons y l ih =>
  have e : cellsL (y :: l) = [.int .i64 (y.1.1 : Int), .int .i64 (y.1.2 : Int), y.2] ++ cellsL l := rfl
  rw [e]
  match i, h with
  | 0, h => simp at h; subst h; exact ⟨rfl, rfl, rfl⟩
  | i + 1, h =>
   have h2 : l[i]? = some x := by simpa using h
   obtain ⟨a, b, c⟩ := ih i h2
   refine ⟨?_, ?_, ?_⟩
   ·rw [List.getElem?_append_right (by simp; omega)]; simpa [show (i + 1) * 3 - 3 = i * 3 by omega] using a
   ·rw [List.getElem?_append_right (by simp; omega)]; simpa [show (i + 1) * 3 + 1 - 3 = i * 3 + 1 by omega] using b
   ·rw [List.getElem?_append_right (by simp; omega)]; simpa [show (i + 1) * 3 + 2 - 3 = i * 3 + 2 by omega] using c
structure RB (g : Nat) (l : List Nx) (w : World) : Prop where
 c : ∀ j, j < l.length * 3 → w.cell? ⟨g, j, none⟩ = (cellsL l)[j]?
 lt : g < w.heap.size
theorem RB.below {g : Nat} {l : List Nx} {w w' : World} (h : RB g l w) (hb : Below w.heap.size w w') : RB g l w' :=
 ⟨fun j hj => (hb.cell (p := ⟨g, j, none⟩) h.lt).trans (h.c j hj), Nat.lt_of_lt_of_le h.lt hb.size⟩
def keyL (l : List Nx) (i : Nat) : Kd := (l[i]?.getD ((0, 0), .slice none 0 0)).1
def symL (l : List Nx) (i : Nat) : Value := (l[i]?.getD ((0, 0), .slice none 0 0)).2
theorem RB.nb {g : Nat} {l : List Nx} {w : World} (h : RB g l w) : NB g l.length (keyL l) (symL l) w := by
 have key : ∀ i, i < l.length → l[i]? = some (l[i]?.getD ((0, 0), .slice none 0 0)) := fun i hi => by rw [List.getElem?_eq_getElem hi]; rfl
 exact ⟨fun i hi => (h.c _ (by omega)).trans (cellsL_at l i _ (key i hi)).1, fun i hi => (h.c _ (by omega)).trans (cellsL_at l i _ (key i hi)).2.1, fun i hi => (h.c _ (by omega)).trans (cellsL_at l i _ (key i hi)).2.2, h.lt⟩
structure ON (B : Nat) (w0 : World) (l : List Nx) (v : Value) (wr : World) : Prop where
 own : wr.ownsRow B 217 3 v l.length (cellsL l)
 b : Below B w0 wr
 lo : B ≤ wr.heap.size
theorem ON.nil {B : Nat} {w0 w : World} (h : Below B w0 w) (hB : B ≤ w.heap.size) : ON B w0 [] (.slice none 0 0) w := ⟨⟨rfl, .inl ⟨rfl, rfl⟩⟩, h, hB⟩
theorem ON.cast {B : Nat} {w0 w : World} {l m : List Nx} {v : Value} (h : ON B w0 l v w) (e : l = m) : ON B w0 m v w := e ▸ h
theorem ON.below {B : Nat} {w0 w w' : World} {l : List Nx} {v : Value} (h : ON B w0 l v w) (hb : Below w.heap.size w w') : ON B w0 l v w' := by
 refine ⟨⟨h.own.1, ?_⟩, h.b.trans (hb.mono h.lo), Nat.le_trans h.lo hb.size⟩
 rcases h.own.2 with h1 | ⟨g, cap, cur, h1, h2, h3, h4⟩
 ·exact .inl h1
 ·refine .inr ⟨g, cap, cur, h1, h2, ?_, h4⟩
  rw [hb.block g (by
   rcases Nat.lt_or_ge g w.heap.size with hlt | hge
   ·exact hlt
   ·rw [Array.getElem?_eq_none hge] at h3; cases h3)]
  exact h3
theorem ON.rb {B : Nat} {w0 w : World} {l : List Nx} {v : Value} (h : ON B w0 l v w) (hl : l ≠ []) : ∃ g cap, v = .slice (some ⟨g, 0, none⟩) l.length cap ∧ B ≤ g ∧ l.length ≤ cap ∧ cap ≤ maxLen ∧ RB g l w := by
 rcases h.own.2 with ⟨_, h2⟩ | ⟨g, cap, cur, h1, h2, h3, h4, h5, h6, h7⟩
 ·exact absurd (List.eq_nil_of_length_eq_zero h2) hl
 ·refine ⟨g, cap, h1, h2, h4, h5, fun j hj => ?_, ?_⟩
  ·rw [cell_of_row w g j cur _ (0, 0) h3, ← h7, List.getElem?_take, if_pos hj]; simp
  ·rcases Nat.lt_or_ge g w.heap.size with hlt | hge
   ·exact hlt
   ·rw [Array.getElem?_eq_none hge] at h3; cases h3
end Go.Proofs.YtmhoejmgjbgddaaGreat
/- Nodes with their symbols; the first nodes, of chapter 9's lengths. -/
namespace Go.Proofs.YtmhoejmgjbgddaaGreat
open Go.RowKit
abbrev Ny := Kd × Value × List Nat
def nxs (l : List Ny) : List Nx := l.map fun x => (x.1, x.2.1)
def kys (l : List Ny) : List Kd := l.map (·.1)
def RL (w : World) (v : Value) (L : List Nat) : Prop := w.ownsRow 0 3 1 v L.length (L.map fun (i : Nat) => Value.int .i64 (i : Int))
theorem RL.lt {w : World} {v : Value} {L : List Nat} (h : RL w v L) {g : Nat} (hg : v.ownBlock = some g) : ∃ cur, w.heap[g]? = some (.cells cur 3 (0, 0)) ∧ g < w.heap.size := by
 rcases h.2 with ⟨rfl, _⟩ | ⟨g', cap, cur, rfl, _, hc, _⟩
 ·simp [Value.ownBlock] at hg
 ·have : g' = g := by simpa [Value.ownBlock] using hg
  subst this
  refine ⟨cur, hc, ?_⟩
  rcases Nat.lt_or_ge g' w.heap.size with hlt | hge
  ·exact hlt
  ·rw [Array.getElem?_eq_none hge] at hc; cases hc
theorem RL.block {w w' : World} {v : Value} {L : List Nat} (h : RL w v L) (hb : ∀ g, v.ownBlock = some g → w'.heap[g]? = w.heap[g]?) : RL w' v L := by
 refine ⟨h.1, ?_⟩
 rcases h.2 with h1 | ⟨g, cap, cur, h1, h2, h3, h4⟩
 ·exact .inl h1
 ·exact .inr ⟨g, cap, cur, h1, h2, (hb g (by rw [h1]; rfl)).trans h3, h4⟩
theorem RL.below {w w' : World} {v : Value} {L : List Nat} (h : RL w v L) (hb : Below w.heap.size w w') : RL w' v L :=
 h.block fun g hg => hb.block g (h.lt hg).choose_spec.2
theorem int_node : (3 : Nat) ≠ 217 := by decide
theorem ON.type {B : Nat} {w0 w : World} {l : List Nx} {v : Value} (h : ON B w0 l v w) {g : Nat} (hg : v.ownBlock = some g) : ∃ cur, w.heap[g]? = some (.cells cur 217 (0, 0)) := by
 rcases h.own.2 with ⟨rfl, _⟩ | ⟨g', cap, cur, rfl, _, hc, _⟩
 ·simp [Value.ownBlock] at hg
 ·have : g' = g := by simpa [Value.ownBlock] using hg
  subst this
  exact ⟨cur, hc⟩
theorem RL.grown {B : Nat} {w0 w w' : World} {l : List Nx} {u v : Value} {L : List Nat} (h : RL w v L) (hn : ON B w0 l u w) (hg : w.grownBy w' u.ownBlock) : RL w' v L :=
 h.block fun g hv => by
  obtain ⟨cur, h1, h2⟩ := h.lt hv
  refine hg.block g h2 fun e => ?_
  obtain ⟨cur2, h3⟩ := hn.type e.symm
  rw [h1] at h3
  simp only [Option.some.injEq, Obj.cells.injEq] at h3
  exact int_node h3.2.1
theorem nxs_len (l : List Ny) : (nxs l).length = l.length := List.length_map ..
structure PN (B : Nat) (w0 : World) (l : List Ny) (v : Value) (wr : World) : Prop where
 on : ON B w0 (nxs l) v wr
 rl : ∀ x ∈ l, RL wr x.2.1 x.2.2
theorem PN.below {B : Nat} {w0 w w' : World} {l : List Ny} {v : Value} (h : PN B w0 l v w) (hb : Below w.heap.size w w') : PN B w0 l v w' := ⟨h.on.below hb, fun x hx => (h.rl x hx).below hb⟩
end Go.Proofs.YtmhoejmgjbgddaaGreat
/- lengths of the reference of chapter 9: the first nodes. -/
namespace Go.Proofs.YtmhoejmgjbgddaaGreat
open Go.RowKit
structure P1 (c : Nat → Nat) (k : Nat) (w : World) (l : List Ny) (v : Value) (wr : World) : Prop where
 pn : PN w.heap.size w l v wr
 ks : kys l = nds c k
 sy : ∀ x ∈ l, x.2.2 = [x.1.2]
theorem kys_app (l m : List Ny) : kys (l ++ m) = kys l ++ kys m := List.map_append ..
theorem kys_len (l : List Ny) : (kys l).length = l.length := List.length_map ..
theorem P1.skip {c : Nat → Nat} {k : Nat} {w wr : World} {l : List Ny} {v : Value} (h : P1 c k w l v wr) (h0 : c k = 0) : P1 c (k + 1) w l v wr :=
 ⟨h.pn, by rw [h.ks]; show _ = nds c k ++ _; rw [if_neg (by omega), List.append_nil], h.sy⟩
theorem P1.len {c : Nat → Nat} {k : Nat} {w wr : World} {l : List Ny} {v : Value} (h : P1 c k w l v wr) : l.length ≤ k := by
 rw [← kys_len, h.ks]; exact nds_len c k
theorem P1.more {c : Nat → Nat} {k : Nat} {w w1 w2 : World} {l : List Ny} {v v' sv : Value} (h : P1 c k w l v w1) (h0 : 0 < c k) (h2 : PN w.heap.size w (l ++ [((c k, k), sv, [k])]) v' w2) : P1 c (k + 1) w (l ++ [((c k, k), sv, [k])]) v' w2 :=
 ⟨h2, by rw [kys_app, h.ks]; show _ = nds c k ++ _; rw [if_pos h0]; rfl, fun x hx => by
  rcases List.mem_append.1 hx with h3 | h3
  ·exact h.sy x h3
  ·rw [List.mem_singleton.1 h3]⟩
end Go.Proofs.YtmhoejmgjbgddaaGreat
/- lengths of chapter 9: a round, in numbers. -/
namespace Go.Proofs.YtmhoejmgjbgddaaGreat
open Go.RowKit
def sumW : List Kd → Nat
 | [] => 0
 | x :: l => x.1 + sumW l
theorem sumW_perm {l m : List Kd} (h : l.Perm m) : sumW l = sumW m := by
 induction h with
 | nil => rfl
 | cons x _ ih => show _ + _ = _ + _; rw [ih]
 | swap x y l => show _ + (_ + _) = _ + (_ + _); omega
 | trans _ _ h1 h2 => rw [h1, h2]
structure LP (c : Nat → Nat) (n : Nat) (l : List Ny) (nx : Nat) (F : Nat → Nat) : Prop where
 ok : okK (kys l) nx
 nd : (l.flatMap (·.2.2)).Nodup
 lt : ∀ x ∈ l, ∀ s ∈ x.2.2, s < n ∧ 0 < c s
 cov : ∀ s, s < n → 0 < c s → ∃ x ∈ l, s ∈ x.2.2
 fd : ∀ x ∈ l, ∀ s ∈ x.2.2, F s + hD (kys l) nx x.1.2 = dep c n s
 z : ∀ s, c s = 0 → F s = 0
 nb : nx + l.length ≤ 2 * n
 wt : sumW (kys l) ≤ n * 1099511627776
 ne : ∀ x ∈ l, x.2.2 ≠ []
theorem kys_mem {l : List Ny} {x : Ny} (h : x ∈ l) : x.1 ∈ kys l := List.mem_map.2 ⟨x, h, rfl⟩
def addH (F : Nat → Nat) (L : List Nat) (s : Nat) : Nat := if s ∈ L then F s + 1 else F s
theorem LP.step {c : Nat → Nat} {n nx : Nat} {l r : List Ny} {a b : Ny} {F : Nat → Nat} (h : LP c n l nx F) (hp : l.Perm (a :: b :: r)) (ha : ∀ x ∈ b.1 :: kys r, klt a.1 x) (hb : ∀ x ∈ kys r, klt b.1 x) (sv : Value) :
  LP c n (r ++ [((a.1.1 + b.1.1, nx), sv, a.2.2 ++ b.2.2)]) (nx + 1) (addH F (a.2.2 ++ b.2.2)) := by
 have hk : (kys l).Perm (a.1 :: b.1 :: kys r) := hp.map _
 have st := hD_step h.ok hk ha hb
 have hq : (r ++ [(((a.1.1 + b.1.1, nx), sv, a.2.2 ++ b.2.2) : Ny)]).Perm ((((a.1.1 + b.1.1, nx), sv, a.2.2 ++ b.2.2) : Ny) :: r) := List.perm_append_singleton _ _
 have hkq : (kys (r ++ [(((a.1.1 + b.1.1, nx), sv, a.2.2 ++ b.2.2) : Ny)])).Perm ((a.1.1 + b.1.1, nx) :: kys r) := hq.map _
 have ok2 : okK ((a.1.1 + b.1.1, nx) :: kys r) (nx + 1) := okK_next (okK_perm hk h.ok)
 have ok3 : okK (kys (r ++ [(((a.1.1 + b.1.1, nx), sv, a.2.2 ++ b.2.2) : Ny)])) (nx + 1) := okK_perm hkq.symm ok2
 have mem : ∀ x, x ∈ l ↔ x = a ∨ x = b ∨ x ∈ r := fun x => by rw [hp.mem_iff]; simp
 have nd2 : ((a :: b :: r).flatMap (·.2.2)).Nodup := (hp.flatMap_right _).nodup_iff.1 h.nd
 have nd3 : (a.2.2 ++ (b.2.2 ++ r.flatMap (·.2.2))).Nodup := by simpa using nd2
 have rnot : ∀ x ∈ r, ∀ s ∈ x.2.2, s ∉ a.2.2 ++ b.2.2 := fun x hx s hs hm => by
  rw [← List.append_assoc] at nd3
  exact (List.nodup_append.1 nd3).2.2 s hm s (List.mem_flatMap.2 ⟨x, hx, hs⟩) rfl
 refine ⟨ok3, ?_, ?_, ?_, ?_, ?_, ?_, ?_, ?_⟩
 ·rw [List.flatMap_append]
  have e : [(((a.1.1 + b.1.1, nx), sv, a.2.2 ++ b.2.2) : Ny)].flatMap (·.2.2) = a.2.2 ++ b.2.2 := by simp
  rw [e]
  refine (List.perm_append_comm.nodup_iff).1 ?_
  rw [List.append_assoc]; exact nd3
 ·intro x hx s hs
  rcases List.mem_append.1 hx with h1 | h1
  ·exact h.lt x ((mem x).2 (.inr (.inr h1))) s hs
  ·rw [List.mem_singleton.1 h1] at hs
   rcases List.mem_append.1 hs with h2 | h2
   ·exact h.lt a ((mem a).2 (.inl rfl)) s h2
   ·exact h.lt b ((mem b).2 (.inr (.inl rfl))) s h2
 ·intro s hs hc
  obtain ⟨x, hx, hsx⟩ := h.cov s hs hc
  rcases (mem x).1 hx with rfl | rfl | h1
  ·exact ⟨_, List.mem_append.2 (.inr (List.mem_singleton.2 rfl)), List.mem_append.2 (.inl hsx)⟩
  ·exact ⟨_, List.mem_append.2 (.inr (List.mem_singleton.2 rfl)), List.mem_append.2 (.inr hsx)⟩
  ·exact ⟨x, List.mem_append.2 (.inl h1), hsx⟩
 ·intro x hx s hs
  rw [hD_perm hkq ok3]
  rcases List.mem_append.1 hx with h1 | h1
  ·have h2 := h.fd x ((mem x).2 (.inr (.inr h1))) s hs
   rw [st, if_neg (num_ne h.ok hk (kys_mem h1))] at h2
   unfold addH
   rw [if_neg (rnot x h1 s hs)]; exact h2
  ·rw [List.mem_singleton.1 h1] at hs ⊢
   show addH F (a.2.2 ++ b.2.2) s + hD _ (nx + 1) nx = _
   unfold addH
   rw [if_pos hs]
   rcases List.mem_append.1 hs with h2 | h2
   ·have h3 := h.fd a ((mem a).2 (.inl rfl)) s h2
    rw [st, if_pos (.inl rfl)] at h3
    omega
   ·have h3 := h.fd b ((mem b).2 (.inr (.inl rfl))) s h2
    rw [st, if_pos (.inr rfl)] at h3
    omega
 ·intro s hc
  unfold addH
  rw [if_neg, h.z s hc]
  intro hm
  rcases List.mem_append.1 hm with h2 | h2
  ·have := (h.lt a ((mem a).2 (.inl rfl)) s h2).2; omega
  ·have := (h.lt b ((mem b).2 (.inr (.inl rfl))) s h2).2; omega
 ·have h1 := h.nb
  have h2 := hp.length_eq
  simp only [List.length_append, List.length_cons, List.length_nil] at h2 ⊢
  omega
 ·have h1 := h.wt
  rw [sumW_perm hk] at h1
  rw [sumW_perm hkq]
  show a.1.1 + b.1.1 + sumW (kys r) ≤ _
  have h2 : sumW (a.1 :: b.1 :: kys r) = a.1.1 + (b.1.1 + sumW (kys r)) := rfl
  omega
 ·intro x hx
  rcases List.mem_append.1 hx with h1 | h1
  ·exact h.ne x ((mem x).2 (.inr (.inr h1)))
  ·rw [List.mem_singleton.1 h1]
   intro e
   exact h.ne a ((mem a).2 (.inl rfl)) (List.append_eq_nil_iff.1 e).1
end Go.Proofs.YtmhoejmgjbgddaaGreat
/- lengths of chapter 9: the two least nodes of a round. -/
namespace Go.Proofs.YtmhoejmgjbgddaaGreat
open Go.RowKit
end Go.Proofs.YtmhoejmgjbgddaaGreat
/- An operation of a region that draws, behind another one. -/
namespace Go.Proofs.YtmhoejmgjbgddaaGreat
open Go.RowKit
section
variable {P : Program} {md : Region.Mode} {ops : Array Oper} {T : Bool → Bool → World → Prop} {s t : Nat}
theorem listed_before {L : Array Bool} {o : Oper} (hm : May md ops t L) (ho : ops[t]? = some o) (hb : (o.after.toList.any fun e => Region.binds md e && e.on == s) = true) : L.getD s false = true := by
 obtain ⟨_, o', ho', hall⟩ := mem_ready.1 hm.ready
 obtain rfl : o = o' := by rw [ho] at ho'; cases ho'; rfl
 obtain ⟨e, he, h2⟩ := List.any_eq_true.1 hb
 rw [Bool.and_eq_true, beq_iff_eq] at h2
 have := hall e (by simpa using he) h2.1
 rw [h2.2] at this
 exact this
theorem yl_late {o o2 : Oper} {v : Value} {a : Act} (hne : t ≠ s) (ho : ops[t]? = some o2) (hb : (o2.after.toList.any fun e => Region.binds md e && e.on == s) = true) (hw : Region.wanted o (yielded ops a.tmps) = true)
  (h : ∀ w, T true false w → Lands P (T true true) v ((execOp a.eval o).run P w)) : YieldsL P md ops (Two s t T) t o v a :=
 .inl ⟨hw, fun L w hm hS => by
  unfold Two at *
  rw [hm.unlisted.2, getD_set_ne false hne]
  rw [hm.unlisted.1] at hS
  rw [listed_before hm ho hb] at hS ⊢
  exact h w hS⟩
end
end Go.Proofs.YtmhoejmgjbgddaaGreat
/- lengths of the reference of chapter 9: the walk. -/
namespace Go.Proofs.YtmhoejmgjbgddaaGreat
open Go.RowKit
structure LW (n g : Nat) (w : World) (l : List Ny) (F : Nat → Nat) (v : Value) (wr : World) : Prop where
 on : ON w.heap.size w (nxs l) v wr
 rl : ∀ x ∈ l, RL wr x.2.1 x.2.2 ∧ x.2.1.ownBlock ≠ some g
 o : Blk wr g 3 (rI n fun i => (F i : Int))
 gl : w.heap.size ≤ g
theorem LW.below {n g : Nat} {w w1 w2 : World} {l : List Ny} {F : Nat → Nat} {v : Value} (h : LW n g w l F v w1) (hb : Below w1.heap.size w1 w2) : LW n g w l F v w2 :=
 ⟨h.on.below hb, fun x hx => ⟨(h.rl x hx).1.below hb, (h.rl x hx).2⟩, h.o.below hb h.o.lt, h.gl⟩
theorem RL.form {w : World} {v : Value} {L : List Nat} (h : RL w v L) : ∃ p c, v = .slice p L.length c := by
 rcases h.2 with ⟨rfl, h2⟩ | ⟨g, cap, cur, rfl, _⟩
 ·exact ⟨none, 0, by rw [h2]⟩
 ·exact ⟨_, _, rfl⟩
theorem ON.up {B : Nat} {w0 w1 w : World} {l : List Nx} {v : Value} (h : ON w1.heap.size w1 l v w) (hb : Below B w0 w1) (hB : B ≤ w1.heap.size) : ON B w0 l v w := by
 refine ⟨⟨h.own.1, ?_⟩, hb.trans (h.b.mono hB), Nat.le_trans hB h.lo⟩
 rcases h.own.2 with h1 | ⟨g, cap, cur, h1, h2, h3⟩
 ·exact .inl h1
 ·exact .inr ⟨g, cap, cur, h1, Nat.le_trans hB h2, h3⟩
theorem LP.done {c : Nat → Nat} {n nx : Nat} {l : List Ny} {F : Nat → Nat} (h : LP c n l nx F) (hl : l.length ≤ 1) : ∀ s, s < n → F s = if c s = 0 then 0 else dep c n s := fun s hs => by
 by_cases h0 : c s = 0
 ·rw [if_pos h0, h.z s h0]
 ·rw [if_neg h0]
  obtain ⟨x, hx, hsx⟩ := h.cov s hs (by omega)
  have := h.fd x hx s hsx
  rw [hD_one (by rw [kys_len]; exact hl)] at this
  omega
theorem LP.two {c : Nat → Nat} {n nx : Nat} {l r : List Ny} {F : Nat → Nat} {a b : Ny} (h : LP c n l nx F) (hp : l.Perm (a :: b :: r)) : a.2.2.length + b.2.2.length ≤ n := by
 have nd2 : ((a :: b :: r).flatMap (·.2.2)).Nodup := (hp.flatMap_right _).nodup_iff.1 h.nd
 have nd3 : ((a.2.2 ++ b.2.2) ++ r.flatMap (·.2.2)).Nodup := by simpa [List.append_assoc] using nd2
 have nd4 := (List.nodup_append.1 nd3).1
 have hs : ∀ s ∈ a.2.2 ++ b.2.2, s ∈ List.range n := fun s hs => by
  rcases List.mem_append.1 hs with h1 | h1
  ·exact List.mem_range.2 (h.lt a (hp.mem_iff.2 (List.mem_cons_self ..)) s h1).1
  ·exact List.mem_range.2 (h.lt b (hp.mem_iff.2 (List.mem_cons_of_mem _ (List.mem_cons_self ..))) s h1).1
 have h5 := List.Nodup.length_le_of_subset nd4 hs
 rw [List.length_range, List.length_append] at h5
 exact h5
theorem own_far {w : World} {B e size n : Nat} {v : Value} {xs : List Value} {g : Nat} (h : w.ownsRow B e size v n xs) (hg : v.ownBlock ≠ some g) (s : Nat) (u : Value) : (w.setCell ⟨g, s, none⟩ u).ownsRow B e size v n xs := by
 refine ⟨h.1, ?_⟩
 rcases h.2 with h1 | ⟨q, cap, cur, h1, h2, h3, h4⟩
 ·exact .inl h1
 ·refine .inr ⟨q, cap, cur, h1, h2, ?_, h4⟩
  rw [Below.heap_setCell w ⟨g, s, none⟩ u q (fun e => hg (by rw [h1]; exact congrArg some e))]
  exact h3
structure CLW (n g : Nat) (w : World) (l : List Ny) (F : Nat → Nat) (v vB : Value) (M : List Nat) (ba bb : Nat) (Ca Cb : Array Value) (wr : World) : Prop where
 lw : LW n g w l F v wr
 rb : RL wr vB M
 b1 : Blk wr ba 217 Ca
 b2 : Blk wr bb 217 Cb
theorem blk_types {w : World} {g q : Nat} {Cs Ds : Array Value} (h : Blk w g 3 Cs) (h2 : Blk w q 217 Ds) : q ≠ g := fun e => by
 subst e
 unfold Blk at h h2
 rw [h] at h2
 simp only [Option.some.injEq, Obj.cells.injEq] at h2
 exact int_node h2.2.1
theorem CLW.put {n g : Nat} {w wr : World} {l : List Ny} {F G : Nat → Nat} {v vB : Value} {M : List Nat} {ba bb : Nat} {Ca Cb : Array Value} (h : CLW n g w l F v vB M ba bb Ca Cb wr) (hB : vB.ownBlock ≠ some g) {s : Nat} (hs : s < n)
  (hG : ∀ j, (if j = s then F s + 1 else F j) = G j) : CLW n g w l G v vB M ba bb Ca Cb (wr.setCell ⟨g, s, none⟩ (.int .i64 ((F s + 1 : Nat) : Int))) := by
 have hv : v.ownBlock ≠ some g := fun e => by
  obtain ⟨cur, h1⟩ := h.lw.on.type e
  exact blk_types h.lw.o h1 rfl
 refine ⟨⟨⟨own_far h.lw.on.own hv s _, h.lw.on.b.setCell h.lw.gl _, ?_⟩, fun x hx => ⟨own_far (h.lw.rl x hx).1 (h.lw.rl x hx).2 s _, (h.lw.rl x hx).2⟩, ?_, h.lw.gl⟩, own_far h.rb hB s _, h.b1.far (blk_types h.lw.o h.b1) _, h.b2.far (blk_types h.lw.o h.b2) _⟩
 ·simp [World.setCell]; exact h.lw.on.lo
 ·refine (h.lw.o.put hs _).cast_ (row_ext fun i _ => ?_)
  show (if i = s then Value.int .i64 ((F s + 1 : Nat) : Int) else Value.int .i64 ((F i : Nat) : Int)) = Value.int .i64 ((G i : Nat) : Int)
  rw [← hG i]
  split <;> rfl
theorem PN.form {B : Nat} {w0 w : World} {l : List Ny} {v : Value} (h : PN B w0 l v w) : ∃ p c, v = .slice p l.length c := by
 rcases h.on.own.2 with ⟨h1, h2⟩ | ⟨gl, cap, cur, h1, _⟩
 ·exact ⟨none, 0, by rw [nxs_len] at h2; rw [h2]; exact h1⟩
 ·exact ⟨_, _, by rw [nxs_len] at h1; exact h1⟩
end Go.Proofs.YtmhoejmgjbgddaaGreat
/- The reference's Lengths of chapter 9. -/
namespace Go.Proofs.YtmhoejmgjbgddaaGreat
open Go.RowKit
def okC (f : Nat → Int) : Nat → Bool
 | 0 => true
 | k + 1 => okC f k && decide (0 ≤ f k ∧ f k ≤ 1099511627776)
theorem okC_true {f : Nat → Int} {n : Nat} : okC f n = true ↔ ∀ i, i < n → 0 ≤ f i ∧ f i ≤ 1099511627776 := by
 induction n with
 | zero => exact ⟨fun _ i hi => by omega, fun _ => rfl⟩
 | succ n ih =>
  unfold okC
  rw [Bool.and_eq_true, ih, decide_eq_true_eq]
  constructor
  ·rintro ⟨h1, h2⟩ i hi
   rcases (show i < n ∨ i = n by omega) with h | rfl
   ·exact h1 i h
   ·exact h2
  ·intro h
   exact ⟨fun i hi => h i (by omega), h n (by omega)⟩
def okM (most : Int) (n : Nat) : Prop := (9 ≤ most ∧ most ≤ 15) ∨ (most = 7 ∧ n ≤ 19)
structure OI (B : Nat) (w0 : World) (p : Option Addr) (n cap : Nat) (f : Nat → Int) (w : World) : Prop where
 is_ : IS p n cap f w
 form : ∀ a, p = some a → a = ⟨a.block, 0, none⟩ ∧ B ≤ a.block
 fz : ∀ g, p = some ⟨g, 0, none⟩ → ∀ i, i < n → w.frozen? ⟨g, i, none⟩ = false
 b : Below B w0 w
theorem LI.oi {B : Nat} {w0 w : World} {f : Nat → Int} {n : Nat} {v : Value} (h : LI B w0 (firstI f n) v w) (lo : ∀ i, i < n → -9223372036854775808 ≤ f i) (hi : ∀ i, i < n → f i < 9223372036854775808) :
  ∃ p cap, v = .slice p n cap ∧ OI B w0 p n cap f w := by
 obtain ⟨p, cap, h1, h2, h3⟩ := h.is lo hi
 have hown := h.own
 rw [firstI_len] at hown
 refine ⟨p, cap, h1, h2, fun a ha => ?_, fun g hg i hi2 => ?_, h.b⟩
 ·refine ⟨?_, h3 a ha⟩
  rcases hown.2 with ⟨h4, _⟩ | ⟨g, cap2, cur, h4, _⟩
  ·rw [h1, ha] at h4; cases h4
  ·rw [h1, ha] at h4; cases h4; rfl
 ·rcases hown.2 with ⟨h4, _⟩ | ⟨g2, cap2, cur, h4, _, h5, _⟩
  ·rw [h1, hg] at h4; cases h4
  ·rw [h1, hg] at h4; cases h4
   exact Blk.frozen (t := 3) (cs := cur) h5 i
theorem OI.below {B : Nat} {w0 w w' : World} {p : Option Addr} {n cap : Nat} {f : Nat → Int} (h : OI B w0 p n cap f w) (hb : Below w.heap.size w w') (hB : B ≤ w.heap.size) : OI B w0 p n cap f w' :=
 ⟨h.is_.below hb, h.form, fun g hg i hi => (hb.frozen (p := ⟨g, i, none⟩) (show g < _ from h.is_.lt _ hg)).trans (h.fz g hg i hi), h.b.trans (hb.mono hB)⟩
theorem OI.drew {B : Nat} {w0 w : World} {p : Option Addr} {n cap : Nat} {f : Nat → Int} (h : OI B w0 p n cap f w) : OI B w0 p n cap f w.drew :=
 ⟨⟨h.is_.nil_, h.is_.cell, h.is_.lt, h.is_.lo, h.is_.hi⟩, h.form, h.fz, h.b.drew⟩
theorem OI.at_ {B : Nat} {w0 w : World} {g n cap : Nat} {f : Nat → Int} (h : OI B w0 (some ⟨g, 0, none⟩) n cap f w) {i : Nat} (hi : i < n) : w.cell? ⟨g, i, none⟩ = some (.int .i64 (f i)) := by
 have := h.is_.cell _ rfl i hi
 rwa [addr_add, Nat.zero_add] at this
theorem OI.cast {B : Nat} {w0 w : World} {p : Option Addr} {n cap : Nat} {f f' : Nat → Int} (h : OI B w0 p n cap f w) (e : ∀ i, i < n → f i = f' i) : OI B w0 p n cap f' w :=
 ⟨⟨h.is_.nil_, fun a ha i hi => by rw [← e i hi]; exact h.is_.cell a ha i hi, h.is_.lt, fun i hi => by rw [← e i hi]; exact h.is_.lo i hi, fun i hi => by rw [← e i hi]; exact h.is_.hi i hi⟩, h.form, h.fz, h.b⟩
theorem OI.put {B : Nat} {w0 w : World} {g n cap : Nat} {f f' : Nat → Int} (h : OI B w0 (some ⟨g, 0, none⟩) n cap f w) (k : Nat) (x : Int) (lo : -9223372036854775808 ≤ x) (hi : x < 9223372036854775808) (e : ∀ i, i < n → (if i = k then x else f i) = f' i) (hk : k < n) :
  OI B w0 (some ⟨g, 0, none⟩) n cap f' (w.setCell ⟨g, k, none⟩ (.int .i64 x)) := by
 refine ⟨⟨(fun e => by cases e), fun a ha i hi2 => ?_, fun a ha => ?_, fun i hi2 => ?_, fun i hi2 => ?_⟩, h.form, fun g2 hg2 i hi2 => ?_, h.b.setCell (p := ⟨g, k, none⟩) (show B ≤ g from (h.form _ rfl).2) _⟩
 ·cases ha
  rw [addr_add, Nat.zero_add, ← e i hi2]
  by_cases h1 : i = k
  ·subst h1; rw [if_pos rfl]; exact World.cell?_setCell_same _ _ _ (h.at_ hi2)
  ·rw [if_neg h1, World.cell?_setCell_other _ _ _ _ (fun hh => by injection hh with _ h2; exact h1 h2.symm)]; exact h.at_ hi2
 ·cases ha
  simp [World.setCell]; exact h.is_.lt _ rfl
 ·rw [← e i hi2]; split; exact lo; exact h.is_.lo i hi2
 ·rw [← e i hi2]; split; exact hi; exact h.is_.hi i hi2
 ·cases hg2
  exact (World.frozen?_setCell _ _ _ _).trans (h.fz g rfl i hi2)
end Go.Proofs.YtmhoejmgjbgddaaGreat
/- The reference's answers of chapter 9, each in one statement. -/
namespace Go.Proofs.YtmhoejmgjbgddaaGreat
open Go.RowKit
def codesM (f : Nat → Int) (n : Nat) : Nat := if codesE f n = 0 then n else 0
end Go.Proofs.YtmhoejmgjbgddaaGreat
/- Numbers of the laws of chapter 9. -/
namespace Go.Proofs.YtmhoejmgjbgddaaGreat
open Go.RowKit
def lensV (f : Nat → Int) (n : Nat) (most : Int) : Option (Nat → Nat) := if okC f n = true ∧ n ≤ 300 ∧ ((9 ≤ most ∧ most ≤ 15) ∨ (most = 7 ∧ n ≤ 19)) then lenV 42 (toL f) n most.toNat else none
theorem lens_some {f : Nat → Int} {n : Nat} {most : Int} (hc : okC f n = true) (hn : n ≤ 300) (hM : okM most n) : ∃ l, lenV 42 (toL f) n most.toNat = some l := by
 refine lenV_some 42 (toL f) n most.toNat 40 (by omega) (fun i hi => ?_) ?_
 ·have := okC_true.1 hc i hi
  unfold toL
  have e : (2 : Nat) ^ 40 = 1099511627776 := by decide
  omega
 ·rcases hM with ⟨h1, h2⟩ | ⟨h1, h2⟩
  ·have : 2 ^ 10 ≤ 2 ^ (most.toNat + 1) := Nat.pow_le_pow_right (by decide) (by omega)
   omega
  ·subst h1
   show 2 * n < 2 ^ 8
   omega
end Go.Proofs.YtmhoejmgjbgddaaGreat
