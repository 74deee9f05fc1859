/- Nodes as a list in a slice of one's own; the reference's without of chapter 9. -/
import Derived.Test.YtmmkmbinmmfblaaHk
import Derived.Test.YtmmkmbinmmfblaaMA
namespace Go.Proofs.Ytmmkmbinmmfblaa
open Go.RowKit
/-- A node: its weight and number, its symbols (a slice). -/
abbrev Nx := Kd × Value
def cellsL (l : List Nx) : List Value := l.flatMap fun x => [.int .i64 (x.1.1 : Int), .int .i64 (x.1.2 : Int), x.2]
theorem cellsL_len (l : List Nx) : (cellsL l).length = l.length * 3 := by
  induction l with
  | nil => rfl
  | cons x l ih => show (_ ++ cellsL l).length = _; rw [List.length_append, ih]; simp; omega
theorem cellsL_app (l m : List Nx) : cellsL (l ++ m) = cellsL l ++ cellsL m := by simp [cellsL]
theorem cellsL_at (l : List Nx) (i : Nat) (x : Nx) (h : l[i]? = some x) : (cellsL l)[i * 3]? = some (.int .i64 (x.1.1 : Int)) ∧ (cellsL l)[i * 3 + 1]? = some (.int .i64 (x.1.2 : Int)) ∧ (cellsL l)[i * 3 + 2]? = some x.2 := by
  induction l generalizing i with
  | nil => simp at h
  | cons y l ih =>
    have e : cellsL (y :: l) = [.int .i64 (y.1.1 : Int), .int .i64 (y.1.2 : Int), y.2] ++ cellsL l := rfl
    rw [e]
    match i, h with
    | 0, h => simp at h; subst h; exact ⟨rfl, rfl, rfl⟩
    | i + 1, h =>
      have h2 : l[i]? = some x := by simpa using h
      obtain ⟨a, b, c⟩ := ih i h2
      refine ⟨?_, ?_, ?_⟩
      · rw [List.getElem?_append_right (by simp; omega)]; simpa [show (i + 1) * 3 - 3 = i * 3 by omega] using a
      · rw [List.getElem?_append_right (by simp; omega)]; simpa [show (i + 1) * 3 + 1 - 3 = i * 3 + 1 by omega] using b
      · rw [List.getElem?_append_right (by simp; omega)]; simpa [show (i + 1) * 3 + 2 - 3 = i * 3 + 2 by omega] using c
/-- Nodes in a block, read. -/
structure RB (g : Nat) (l : List Nx) (w : World) : Prop where
  c : ∀ j, j < l.length * 3 → w.cell? ⟨g, j, none⟩ = (cellsL l)[j]?
  lt : g < w.heap.size
theorem RB.below {g : Nat} {l : List Nx} {w w' : World} (h : RB g l w) (hb : Below w.heap.size w w') : RB g l w' :=
  ⟨fun j hj => (hb.cell (p := ⟨g, j, none⟩) h.lt).trans (h.c j hj), Nat.lt_of_lt_of_le h.lt hb.size⟩
def keyL (l : List Nx) (i : Nat) : Kd := (l[i]?.getD ((0, 0), .slice none 0 0)).1
def symL (l : List Nx) (i : Nat) : Value := (l[i]?.getD ((0, 0), .slice none 0 0)).2
theorem RB.nb {g : Nat} {l : List Nx} {w : World} (h : RB g l w) : NB g l.length (keyL l) (symL l) w := by
  have key : ∀ i, i < l.length → l[i]? = some (l[i]?.getD ((0, 0), .slice none 0 0)) := fun i hi => by rw [List.getElem?_eq_getElem hi]; rfl
  exact ⟨fun i hi => (h.c _ (by omega)).trans (cellsL_at l i _ (key i hi)).1, fun i hi => (h.c _ (by omega)).trans (cellsL_at l i _ (key i hi)).2.1, fun i hi => (h.c _ (by omega)).trans (cellsL_at l i _ (key i hi)).2.2, h.lt⟩
/-- A list of nodes in a slice of one's own, made since w0. -/
structure ON (B : Nat) (w0 : World) (l : List Nx) (v : Value) (wr : World) : Prop where
  own : wr.ownsRow B 82 3 v l.length (cellsL l)
  b : Below B w0 wr
  lo : B ≤ wr.heap.size
theorem ON.nil {B : Nat} {w0 w : World} (h : Below B w0 w) (hB : B ≤ w.heap.size) : ON B w0 [] (.slice none 0 0) w := ⟨⟨rfl, .inl ⟨rfl, rfl⟩⟩, h, hB⟩
theorem ON.cast {B : Nat} {w0 w : World} {l m : List Nx} {v : Value} (h : ON B w0 l v w) (e : l = m) : ON B w0 m v w := e ▸ h
theorem ON.below {B : Nat} {w0 w w' : World} {l : List Nx} {v : Value} (h : ON B w0 l v w) (hb : Below w.heap.size w w') : ON B w0 l v w' := by
  refine ⟨⟨h.own.1, ?_⟩, h.b.trans (hb.mono h.lo), Nat.le_trans h.lo hb.size⟩
  rcases h.own.2 with h1 | ⟨g, cap, cur, h1, h2, h3, h4⟩
  · exact .inl h1
  · refine .inr ⟨g, cap, cur, h1, h2, ?_, h4⟩
    rw [hb.block g (by
      rcases Nat.lt_or_ge g w.heap.size with hlt | hge
      · exact hlt
      · rw [Array.getElem?_eq_none hge] at h3; cases h3)]
    exact h3
theorem ON.rb {B : Nat} {w0 w : World} {l : List Nx} {v : Value} (h : ON B w0 l v w) (hl : l ≠ []) : ∃ g cap, v = .slice (some ⟨g, 0, none⟩) l.length cap ∧ B ≤ g ∧ l.length ≤ cap ∧ cap ≤ maxLen ∧ RB g l w := by
  rcases h.own.2 with ⟨_, h2⟩ | ⟨g, cap, cur, h1, h2, h3, h4, h5, h6, h7⟩
  · exact absurd (List.eq_nil_of_length_eq_zero h2) hl
  · refine ⟨g, cap, h1, h2, h4, h5, fun j hj => ?_, ?_⟩
    · rw [cell_of_row w g j cur _ (0, 0) h3, ← h7, List.getElem?_take, if_pos hj]; simp
    · rcases Nat.lt_or_ge g w.heap.size with hlt | hge
      · exact hlt
      · rw [Array.getElem?_eq_none hge] at h3; cases h3
theorem node_info : (Try.prog.info? 82).map (fun i => (i.zero, i.size, i.bytes)) = some (some (.agg #[.int .i64 0, .int .i64 0, .slice none 0 0]), 3, 40) := by kernel_rfl
/-- append(l, x[a:b]...): nodes of a block behind one's own. -/
theorem wpList_moreN {ops : Array Oper} {rest : List Oper} {o : Oper} {a : Act} {Q : Exit → Act → World → Prop} {B : Nat} {w0 w : World} {l m : List Nx} {v : Value} (hgd : o.guard = none) (s x : Operand)
    (ho : o.op = .call { callee := .builtin .append, args := #[s, x], argTypes := #[80, 80] }) (hs : a.eval s = v) (h : ON B w0 l v w) (ad : Addr) (c : Nat) (hx : a.eval x = .slice (some ad) m.length c)
    (hc : ∀ j, j < m.length * 3 → w.cell? (ad.add j) = (cellsL m)[j]?) (h1 : ∀ y ∈ m, y.2.oneCell' = true) (hn : l.length + m.length ≤ 1000000)
    (k : ∀ v' w', ON B w0 (l ++ m) v' w' → w.grownBy w' v.ownBlock → wpList Try.prog ops Q rest (a.put o.dst v') w') : wpList Try.prog ops Q (o :: rest) a w := by
  obtain ⟨i0, hi, hz0, hz1, hz2⟩ := info_parts node_info
  refine wpList_append_own _ hgd s x 80 ho B 82 i0 (.agg #[.int .i64 0, .int .i64 0, .slice none 0 0]) 3 40 Try.underlying80 hi hz0 hz1 hz2 rfl (by decide) v l.length _ hs h.own ad m.length c (cellsL m) hx (cellsL_len m) ?_ ?_ ?_ ?_ h.lo ?_
  · intro j u hu
    have hj : j < m.length * 3 := by
      rcases Nat.lt_or_ge j (m.length * 3) with h1 | h1
      · exact h1
      · rw [List.getElem?_eq_none (by rw [cellsL_len]; exact h1)] at hu; cases hu
    rw [hc j hj, hu]
  · intro u hu
    obtain ⟨y, hy, hu2⟩ := List.mem_flatMap.1 hu
    simp only [List.mem_cons, List.not_mem_nil, or_false] at hu2
    rcases hu2 with rfl | rfl | rfl
    · rfl
    · rfl
    · exact h1 y hy
  · unfold maxLen; omega
  · omega
  · intro v' w2 hown hg _
    have hb := h.b.grown hg h.lo (own_le h.own)
    exact k v' w2 ⟨by rw [List.length_append, cellsL_app]; exact hown, hb, Nat.le_trans h.lo hg.size⟩ hg
theorem cellsL_take (l : List Nx) (i j : Nat) (hj : j < (l.take i).length * 3) : (cellsL l)[j]? = (cellsL (l.take i))[j]? := by
  have e : cellsL l = cellsL (l.take i) ++ cellsL (l.drop i) := by rw [← cellsL_app, List.take_append_drop]
  rw [e, List.getElem?_append_left (by rw [cellsL_len]; exact hj)]
theorem cellsL_drop (l : List Nx) (i j : Nat) (hi : i ≤ l.length) : (cellsL l)[i * 3 + j]? = (cellsL (l.drop i))[j]? := by
  have e : cellsL l = cellsL (l.take i) ++ cellsL (l.drop i) := by rw [← cellsL_app, List.take_append_drop]
  have hl : (cellsL (l.take i)).length = i * 3 := by rw [cellsL_len, List.length_take, Nat.min_eq_left hi]
  rw [e, List.getElem?_append_right (by omega), hl, Nat.add_sub_cancel_left]
set_option maxRecDepth 100000 in
set_option maxHeartbeats 4000000 in
theorem rwithout9_any (g cap i : Nat) (l : List Nx) (w : World) (h : RB g l w) (hc : l.length ≤ cap) (hcm : cap ≤ 9223372036854775807) (h1 : ∀ y ∈ l, y.2.oneCell' = true) (hn : l.length ≤ 1000) (hi : i < l.length) :
    Calls Try.prog 38 #[.slice (some ⟨g, 0, none⟩) l.length cap, .int .i64 (i : Int)] w fun e w' => ∃ v, e = .returned v ∧ ON w.heap.size w (l.eraseIdx i) v w' := by
  have ht : (l.take i).length = i := by rw [List.length_take]; omega
  have hd : (l.drop (i + 1)).length = l.length - (i + 1) := List.length_drop ..
  have H0 : Hid (ON w.heap.size w [] (.slice none 0 0) w) := Lib.hid (ON.nil (Below.refl _ _) (Nat.le_refl _))
  have HC := Lib.hid (fun j (hj : j < (l.take i).length * 3) => (show w.cell? ((⟨g, 0, none⟩ : Addr).add j) = (cellsL (l.take i))[j]? by
    rw [addr_add, Nat.zero_add, h.c j (by omega)]; exact cellsL_take l i j hj))
  have HT : Hid (∀ y ∈ l.take i, y.2.oneCell' = true) := Lib.hid fun y hy => h1 y (List.mem_of_mem_take hy)
  have HD : Hid (∀ y ∈ l.drop (i + 1), y.2.oneCell' = true) := Lib.hid fun y hy => h1 y (List.mem_of_mem_drop hy)
  have HTL : Hid ((l.take i).length = i) := Lib.hid ht
  have hiw : IntKind.i64.wrap ((i : Int) + 1) = ((i + 1 : Nat) : Int) := by rw [IntWalk.i64_in _ (by omega)]; omega
  have hi1 : i + 1 ≤ l.length := by omega
  clear h1
  have HEQ : Hid ([] ++ l.take i ++ l.drop (i + 1) = l.eraseIdx i) := Lib.hid (by rw [List.nil_append, List.eraseIdx_eq_take_drop_succ])
  by_cases hcap : cap = i + 1
  · subst hcap
    have HE2 : Hid ([] ++ l.take i ++ [] = l.eraseIdx i) := Lib.hid (by rw [← HEQ.out, show l.drop (i + 1) = [] from List.drop_eq_nil_of_le (by omega)])
    go_enter Try.func38, Try.ntmps38
    go_wp2_with (first | (refine wpList_moreN (m := l.take i) rfl (.tmp 6) (.tmp 9) rfl rfl H0.out ⟨g, 0, none⟩ _ (by rw [HTL.out]; rfl) HC.out HT.out (by rw [HTL.out]; simp; omega) ?_; intro v1 w1 hv1 hg1) | (refine wpList_moreN (m := []) rfl (.tmp 11) (.tmp 15) rfl rfl hv1 ⟨g, 0, none⟩ 0 rfl (fun j hj => by simp at hj) (fun y hy => by cases hy) (by simp; omega) ?_; intro v2 w2 hv2 hg2))
    go_ret
    exact ⟨_, rfl, hv2.cast HE2.out⟩
  · have hlt : i + 1 < cap := by omega
    go_enter Try.func38, Try.ntmps38
    go_wp2_with (first | (refine wpList_moreN (m := l.take i) rfl (.tmp 6) (.tmp 9) rfl rfl H0.out ⟨g, 0, none⟩ _ (by rw [HTL.out]; rfl) HC.out HT.out (by rw [HTL.out]; simp; omega) ?_; intro v1 w1 hv1 hg1) | (refine wpList_moreN (m := l.drop (i + 1)) rfl (.tmp 11) (.tmp 15) rfl rfl hv1 ⟨g, (i + 1) * 3, none⟩ (cap - (i + 1)) (by show Value.slice _ _ _ = _; rw [List.length_drop]) (fun j hj => by rw [List.length_drop] at hj; rw [addr_add, (h.below hv1.b).c _ (by omega)]; exact cellsL_drop l (i + 1) j hi1) HD.out (by simp; omega) ?_; intro v2 w2 hv2 hg2))
    go_ret
    exact ⟨_, rfl, hv2.cast HEQ.out⟩
end Go.Proofs.Ytmmkmbinmmfblaa
