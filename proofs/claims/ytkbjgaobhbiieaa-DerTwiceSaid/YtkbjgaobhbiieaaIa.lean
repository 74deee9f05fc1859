/- Lists of structs, what is read and what is owned; what stays as it was. (Of no layer: from chapters 9 to 12.) -/
import Derived.Test.YtkbjgaobhbiieaaMA
import Derived.Lib.AppendStr
import Derived.OwnWalk
import Derived.Laws.AppendOwn
import Derived.Deep.AppendLies
import Derived.IntWalk
import Derived.Lib.Hide
namespace Go.Proofs.Ytkbjgaobhbiieaa
open Go.RowKit
theorem addr_add2 (a : Addr) (k i : Nat) : (a.add k).add i = a.add (k + i) := by
  unfold Addr.add
  by_cases h1 : k = 0
  · subst h1; simp
  · by_cases h2 : i = 0
    · subst h2; simp [h1]
    · rw [if_neg h1, if_neg h2, if_neg (by omega), Nat.add_assoc]
theorem belowN {B : Nat} {w w' : World} (h : Below B w w') (n : Nat) : Below B w (w'.drewN n) := ⟨h.os, h.tape, h.output, h.size, h.block⟩
theorem new_cells (w : World) (arr : Array Value) (t : TypeId) (j : Nat) (u : Value) (h : arr.toList[j]? = some u) : (w.alloc (.cells arr t)).cell? ((⟨w.heap.size, 0, none⟩ : Addr).add j) = some u := by
  rw [addr_add, Nat.zero_add, cell_of_row _ _ j _ _ (0, 0) (heap_alloc_new w _)]
  simpa using h
/-- Lists all of whose parts have so many values. -/
def Each (z : Nat) (l : List (List Value)) : Prop := ∀ x ∈ l, x.length = z ∧ ∀ u ∈ x, u.oneCell' = true
theorem Each.len {z : Nat} : ∀ {l : List (List Value)}, Each z l → l.flatten.length = l.length * z
  | [], _ => by simp
  | x :: l, h => by
    rw [List.flatten_cons, List.length_append, (h x (.head _)).1, Each.len fun y hy => h y (.tail _ hy), List.length_cons, Nat.succ_mul]; omega
theorem Each.app {z : Nat} {l m : List (List Value)} (h : Each z l) (k : Each z m) : Each z (l ++ m) := fun x hx => by
  rcases List.mem_append.1 hx with hx | hx
  · exact h x hx
  · exact k x hx
theorem Each.one {z : Nat} {l : List (List Value)} (h : Each z l) : ∀ u ∈ l.flatten, u.oneCell' = true := fun u hu => by
  obtain ⟨x, hx, hux⟩ := List.mem_flatten.1 hu
  exact (h x hx).2 u hux
theorem flatten_at {z : Nat} : ∀ {l : List (List Value)}, (∀ x ∈ l, x.length = z) → ∀ (i j : Nat) (h : i < l.length), j < z → l.flatten[i * z + j]? = (l[i])[j]?
  | [], _, i, j, h, _ => absurd h (Nat.not_lt_zero i)
  | x :: l, hl, 0, j, _, hj => by
    rw [List.flatten_cons, Nat.zero_mul, Nat.zero_add, List.getElem?_append_left (by rw [hl x (.head _)]; exact hj)]; rfl
  | x :: l, hl, i + 1, j, h, hj => by
    rw [List.flatten_cons, List.getElem?_append_right (by rw [hl x (.head _), Nat.succ_mul]; omega), hl x (.head _), show (i + 1) * z + j - z = i * z + j by rw [Nat.succ_mul]; omega]
    exact flatten_at (fun y hy => hl y (.tail _ hy)) i j (by simpa using h) hj
/-- A slice of structs of so many values each, made since w0. -/
structure LS (E : TypeId) (z : Nat) (B : Nat) (w0 : World) (l : List (List Value)) (v : Value) (wr : World) : Prop where
  own : wr.ownsRow B E z v l.length l.flatten
  each : Each z l
  b : Below B w0 wr
  lo : B ≤ wr.heap.size
section
variable {E : TypeId} {z B : Nat} {w0 w w' : World} {l : List (List Value)} {v : Value}
theorem LS.nil (h : Below B w0 w) (hB : B ≤ w.heap.size) : LS E z B w0 [] (.slice none 0 0) w := ⟨⟨by simp, .inl ⟨rfl, rfl⟩⟩, fun _ h => (by cases h), h, hB⟩
theorem LS.below (h : LS E z B w0 l v w) (hb : Below w.heap.size w w') : LS E z B w0 l v w' := by
  refine ⟨⟨h.own.1, ?_⟩, h.each, h.b.trans (hb.mono h.lo), Nat.le_trans h.lo hb.size⟩
  rcases h.own.2 with h1 | ⟨g, cap, cur, h1, h2, h3, h4⟩
  · exact .inl h1
  · refine .inr ⟨g, cap, cur, h1, h2, ?_, h4⟩
    rw [hb.block g (by
      rcases Nat.lt_or_ge g w.heap.size with hlt | hge
      · exact hlt
      · rw [Array.getElem?_eq_none hge] at h3; cases h3)]
    exact h3
theorem LS.drew (h : LS E z B w0 l v w) : LS E z B w0 l v w.drew := ⟨h.own.drew, h.each, h.b.drew, h.lo⟩
end
/-- A slice of structs that is read: f tells the values of each. -/
structure RS (z : Nat) (p : Option Addr) (n cap : Nat) (l : List (List Value)) (w : World) : Prop where
  len : l.length = n
  each : Each z l
  nil_ : p = none → n = 0 ∧ cap = 0
  le : n ≤ cap
  mx : cap ≤ 9223372036854775807
  cell : ∀ a, p = some a → ∀ i (h : i < l.length), ∀ j u, (l[i])[j]? = some u → w.cell? (a.add (i * z + j)) = some u
  lt : ∀ a, p = some a → a.block < w.heap.size
section
variable {E : TypeId} {z B : Nat} {w0 w w' : World} {l : List (List Value)} {v : Value} {p : Option Addr} {n cap : Nat}
theorem RS.below (h : RS z p n cap l w) (hb : Below w.heap.size w w') : RS z p n cap l w' :=
  ⟨h.len, h.each, h.nil_, h.le, h.mx, fun a ha i hi j u hu => by
    have hl := h.lt a ha
    have : (a.add (i * z + j)).block = a.block := by unfold Addr.add; split <;> rfl
    rw [hb.cell (p := a.add (i * z + j)) (by rw [this]; exact hl)]; exact h.cell a ha i hi j u hu, fun a ha => Nat.lt_of_lt_of_le (h.lt a ha) hb.size⟩
theorem RS.some_ (h : RS z p n cap l w) (h0 : 0 < n) : ∃ a, p = some a := by
  cases p with
  | none => have := (h.nil_ rfl).1; omega
  | some a => exact ⟨a, rfl⟩
/-- What was made is read. -/
theorem LS.rs (h : LS E z B w0 l v w) : ∃ p cap, v = .slice p l.length cap ∧ RS z p l.length cap l w ∧ ∀ a, p = some a → B ≤ a.block := by
  rcases h.own.2 with ⟨h1, h2⟩ | ⟨g, cap, cur, h1, h2, h3, h4, h5, h6, h7⟩
  · rw [h2]
    obtain rfl : l = [] := List.eq_nil_of_length_eq_zero h2
    exact ⟨none, 0, h1, ⟨rfl, h.each, fun _ => ⟨rfl, rfl⟩, Nat.le_refl _, by decide, (fun a e => by cases e), (fun a e => by cases e)⟩, (fun a e => by cases e)⟩
  · refine ⟨some ⟨g, 0, none⟩, cap, h1, ⟨rfl, h.each, (fun e => by cases e), h4, by unfold maxLen at h5; exact h5, fun a ha i hi j u hu => ?_, fun a ha => ?_⟩, fun a ha => by cases ha; exact h2⟩
    · cases ha
      have hj : j < z := by
        have := (h.each _ (List.getElem_mem hi)).1
        rcases Nat.lt_or_ge j z with h | h
        · exact h
        · rw [List.getElem?_eq_none (by omega)] at hu; cases hu
      rw [addr_add, Nat.zero_add, cell_of_row w g _ cur E (0, 0) h3]
      have hh := flatten_at (fun x hx => (h.each x hx).1) i j hi hj
      rw [hu, ← h7, List.getElem?_take] at hh
      split at hh
      · simpa using hh
      · cases hh
    · cases ha
      show g < _
      rcases Nat.lt_or_ge g w.heap.size with hlt | hge
      · exact hlt
      · rw [Array.getElem?_eq_none hge] at h3; cases h3
end
/-- What an append to v leaves: all but v's own row is as it was; the row of what it answers is v's, or new. -/
structure Gr (v : Value) (w : World) (v' : Value) (w' : World) : Prop where
  os : w'.os = w.os
  tape : w'.tape = w.tape
  output : w'.output = w.output
  size : w.heap.size ≤ w'.heap.size
  block : ∀ i, i < w.heap.size → v.ownBlock ≠ some i → w'.heap[i]? = w.heap[i]?
  own : ∀ i, v'.ownBlock = some i → v.ownBlock = some i ∨ w.heap.size ≤ i
theorem Gr.refl (v : Value) (w : World) : Gr v w v w := ⟨rfl, rfl, rfl, Nat.le_refl _, fun _ _ _ => rfl, fun _ h => .inl h⟩
theorem Gr.of {v : Value} {w w' : World} (hb : Below w.heap.size w w') : Gr v w v w' := ⟨hb.os, hb.tape, hb.output, hb.size, fun i hi _ => hb.block i hi, fun _ h => .inl h⟩
theorem Gr.trans {v v1 v2 : Value} {w w1 w2 : World} (h : Gr v w v1 w1) (k : Gr v1 w1 v2 w2) : Gr v w v2 w2 :=
  ⟨k.os.trans h.os, k.tape.trans h.tape, k.output.trans h.output, Nat.le_trans h.size k.size, fun i hi hv => (k.block i (Nat.lt_of_lt_of_le hi h.size) (fun e => by
    rcases h.own i e with h1 | h1
    · exact hv h1
    · omega)).trans (h.block i hi hv), fun i e => by
    rcases k.own i e with h1 | h1
    · exact h.own i h1
    · right; have := h.size; omega⟩
theorem Gr.after {v v1 : Value} {w w1 w2 : World} (h : Gr v w v1 w1) (hb : Below w1.heap.size w1 w2) : Gr v w v1 w2 := h.trans (Gr.of hb)
theorem below_gr {B : Nat} {w0 w w' : World} {v v' : Value} (h : Below B w0 w) (hg : Gr v w v' w') (hB : ∀ i, v.ownBlock = some i → B ≤ i) (hz : B ≤ w.heap.size) : Below B w0 w' :=
  ⟨hg.os.trans h.os, hg.tape.trans h.tape, hg.output.trans h.output, Nat.le_trans h.size hg.size, fun i hi => (hg.block i (by omega) (fun e => by have := hB i e; omega)).trans (h.block i hi)⟩
theorem Blk.gr {w w' : World} {v v' : Value} {q : Nat} {t : TypeId} {cs : Array Value} (h : Blk w q t cs) (hg : Gr v w v' w') (hq : v.ownBlock ≠ some q) : Blk w' q t cs := (hg.block q h.lt hq).trans h
section
variable {E : TypeId} {z B : Nat} {w0 w w' : World} {l : List (List Value)} {v v' u : Value} {p : Option Addr} {n cap : Nat}
theorem LS.ownB (h : LS E z B w0 l v w) : ∀ i, v.ownBlock = some i → B ≤ i ∧ i < w.heap.size := World.ownsRow.lt h.own
/-- Another list stays where one grows. -/
theorem LS.gr (h : LS E z B w0 l u w) (hg : Gr v w v' w') (hne : ∀ i, u.ownBlock = some i → v.ownBlock ≠ some i) (hB : ∀ i, v.ownBlock = some i → B ≤ i) : LS E z B w0 l u w' := by
  refine ⟨⟨h.own.1, ?_⟩, h.each, below_gr h.b hg hB h.lo, Nat.le_trans h.lo hg.size⟩
  rcases h.own.2 with h1 | ⟨g, cap, cur, h1, h2, h3, h4⟩
  · exact .inl h1
  · refine .inr ⟨g, cap, cur, h1, h2, ?_, h4⟩
    rw [hg.block g (by
      rcases Nat.lt_or_ge g w.heap.size with hlt | hge
      · exact hlt
      · rw [Array.getElem?_eq_none hge] at h3; cases h3) (hne g (by rw [h1]; rfl))]
    exact h3
theorem RS.gr (h : RS z p n cap l w) (hg : Gr v w v' w') (hp : ∀ a, p = some a → v.ownBlock ≠ some a.block) : RS z p n cap l w' :=
  ⟨h.len, h.each, h.nil_, h.le, h.mx, fun a ha i hi j u hu => by
    have hl := h.lt a ha
    have : (a.add (i * z + j)).block = a.block := by unfold Addr.add; split <;> rfl
    rw [World.cell?_of_block (a := a.add (i * z + j)) (w := w) (by rw [this]; exact hg.block _ hl (hp a ha))]; exact h.cell a ha i hi j u hu, fun a ha => Nat.lt_of_lt_of_le (h.lt a ha) hg.size⟩
/-- Two that grew apart stay apart. -/
theorem ne_gr (hg : Gr v w v' w') (hne : ∀ i, u.ownBlock = some i → v.ownBlock ≠ some i) (hu : ∀ i, u.ownBlock = some i → i < w.heap.size) : ∀ i, u.ownBlock = some i → v'.ownBlock ≠ some i := fun i e e2 => by
  rcases hg.own i e2 with h | h
  · exact hne i e h
  · have := hu i e; omega
theorem ne_sym (hne : ∀ i, u.ownBlock = some i → v.ownBlock ≠ some i) : ∀ i, v.ownBlock = some i → u.ownBlock ≠ some i := fun i e e2 => hne i e2 e
end
theorem addr_next (a : Addr) (j : Nat) (hj : 0 < j) : a.add j = ⟨a.block, a.off + j, none⟩ := by unfold Addr.add; rw [if_neg (by omega)]
/-- What is as it was, but for block g. -/
structure Ho (g : Nat) (w w' : World) : Prop where
  os : w'.os = w.os
  tape : w'.tape = w.tape
  output : w'.output = w.output
  size : w.heap.size ≤ w'.heap.size
  block : ∀ i, i < w.heap.size → i ≠ g → w'.heap[i]? = w.heap[i]?
section
variable {g : Nat} {w w1 : World} {w2 : World}
theorem Ho.refl (g : Nat) (w : World) : Ho g w w := ⟨rfl, rfl, rfl, Nat.le_refl _, fun _ _ _ => rfl⟩
theorem Ho.of (h : Below w.heap.size w w1) : Ho g w w1 := ⟨h.os, h.tape, h.output, h.size, fun i hi _ => h.block i hi⟩
theorem Ho.trans (h : Ho g w w1) (k : Ho g w1 w2) : Ho g w w2 := ⟨k.os.trans h.os, k.tape.trans h.tape, k.output.trans h.output, Nat.le_trans h.size k.size, fun i hi hg => (k.block i (Nat.lt_of_lt_of_le hi h.size) hg).trans (h.block i hi hg)⟩
theorem Ho.set (h : Ho g w w1) (j : Nat) (u : Value) : Ho g w (w1.setCell ⟨g, j, none⟩ u) :=
  ⟨h.os, h.tape, h.output, by simp [World.setCell]; exact h.size, fun i hi hg => (Below.heap_setCell w1 ⟨g, j, none⟩ u i (show i ≠ g from hg)).trans (h.block i hi hg)⟩
theorem Ho.drewN (h : Ho g w w1) (n : Nat) : Ho g w (w1.drewN n) := ⟨h.os, h.tape, h.output, h.size, h.block⟩
theorem Ho.drew (h : Ho g w w1) : Ho g w w1.drew := ⟨h.os, h.tape, h.output, h.size, h.block⟩
theorem Ho.blk {q : Nat} {t : TypeId} {cs : Array Value} (h : Ho g w w1) (hb : Blk w q t cs) (hq : q ≠ g) : Blk w1 q t cs := (h.block q hb.lt hq).trans hb
theorem Ho.below {B : Nat} (h : Ho g w w1) (hB : B ≤ g) (hg : B ≤ w.heap.size) : Below B w w1 := ⟨h.os, h.tape, h.output, h.size, fun i hi => h.block i (by omega) (by omega)⟩
end
/-- All but block g and the bytes that it owns is as it was. -/
structure Gg (g : Nat) (v : Value) (w : World) (v' : Value) (w' : World) : Prop where
  os : w'.os = w.os
  tape : w'.tape = w.tape
  output : w'.output = w.output
  size : w.heap.size ≤ w'.heap.size
  block : ∀ i, i < w.heap.size → i ≠ g → v.ownBlock ≠ some i → w'.heap[i]? = w.heap[i]?
  own : ∀ i, v'.ownBlock = some i → v.ownBlock = some i ∨ w.heap.size ≤ i
section
variable {g : Nat} {v v1 v2 : Value} {w w1 w2 : World}
theorem Gg.refl (g : Nat) (v : Value) (w : World) : Gg g v w v w := ⟨rfl, rfl, rfl, Nat.le_refl _, fun _ _ _ _ => rfl, fun _ h => .inl h⟩
theorem Gg.of (hb : Below w.heap.size w w1) : Gg g v w v w1 := ⟨hb.os, hb.tape, hb.output, hb.size, fun i hi _ _ => hb.block i hi, fun _ h => .inl h⟩
theorem Gg.trans (h : Gg g v w v1 w1) (k : Gg g v1 w1 v2 w2) : Gg g v w v2 w2 :=
  ⟨k.os.trans h.os, k.tape.trans h.tape, k.output.trans h.output, Nat.le_trans h.size k.size, fun i hi hg hv => (k.block i (Nat.lt_of_lt_of_le hi h.size) hg (fun e => by
    rcases h.own i e with h1 | h1
    · exact hv h1
    · omega)).trans (h.block i hi hg hv), fun i e => by
    rcases k.own i e with h1 | h1
    · exact h.own i h1
    · right; have := h.size; omega⟩
theorem Gg.set (h : Gg g v w v1 w1) (j : Nat) (u : Value) : Gg g v w v1 (w1.setCell ⟨g, j, none⟩ u) :=
  ⟨h.os, h.tape, h.output, by simp [World.setCell]; exact h.size, fun i hi hg hv => (Below.heap_setCell w1 ⟨g, j, none⟩ u i (show i ≠ g from hg)).trans (h.block i hi hg hv), h.own⟩
theorem Gg.drew (h : Gg g v w v1 w1) : Gg g v w v1 w1.drew := ⟨h.os, h.tape, h.output, h.size, h.block, h.own⟩
end
section
variable {g : Nat} {v v1 v2 : Value} {w w1 w2 : World}
theorem RS.gg {z : Nat} {p : Option Addr} {n cap : Nat} {l : List (List Value)} (h : RS z p n cap l w) (hg : Gg g v w v1 w1) (hp : ∀ a, p = some a → a.block ≠ g ∧ v.ownBlock ≠ some a.block) : RS z p n cap l w1 :=
  ⟨h.len, h.each, h.nil_, h.le, h.mx, fun a ha i hi j u hu => by
    have hl := h.lt a ha
    have : (a.add (i * z + j)).block = a.block := by unfold Addr.add; split <;> rfl
    rw [World.cell?_of_block (a := a.add (i * z + j)) (w := w) (by rw [this]; exact hg.block _ hl (hp a ha).1 (hp a ha).2)]; exact h.cell a ha i hi j u hu, fun a ha => Nat.lt_of_lt_of_le (h.lt a ha) hg.size⟩
end
section
variable {P : Program} {ops : Array Oper} {md : Region.Mode} {T : Bool → Bool → World → Prop} {s t : Nat}
/-- Does i wait for s? -/
def behind (md : Region.Mode) (ops : Array Oper) (n i s : Nat) : Bool := (upMany md ops n (upOnce md ops [i])).contains s
theorem already {L : Array Bool} {n i s : Nat} (hm : May md ops i L) (hw : behind md ops n i s = true) : L.getD s false = true := by
  obtain ⟨_, o, ho, hall⟩ := mem_ready.1 hm.ready
  refine upMany_listed hm.closed n (upOnce md ops [i]) (fun j hj => ?_) s (by simpa [behind] using hw)
  unfold upOnce at hj
  obtain ⟨k, hk, hj⟩ := List.mem_flatMap.1 hj
  rw [List.mem_singleton.1 hk, ho] at hj
  simp only [Option.map_some, Option.getD_some, List.mem_map, List.mem_filter] at hj
  obtain ⟨e, ⟨he, hb⟩, rfl⟩ := hj
  exact hall e (Array.mem_toList_iff.1 he) hb
theorem yl_behind {i n : Nat} {o : Oper} {v : Value} {a : Act} (hs : i ≠ s) (ht : i ≠ t) (hb : behind md ops n i s = true) (hw : Region.wanted o (yielded ops a.tmps) = true)
    (h : ∀ c w, T true c w → Lands P (T true c) v ((execOp a.eval o).run P w)) : YieldsL P md ops (Two s t T) i o v a :=
  .inl ⟨hw, fun L w hm hS => by unfold Two at *; rw [getD_set_ne false hs, getD_set_ne false ht]; rw [already hm hb] at hS ⊢; exact h _ w hS⟩
end
section
variable {P : Program} {ops : Array Oper} {Q : Exit → Act → World → Prop} {md : Region.Mode}
theorem heldT_skip {i : Nat} {oi : Oper} {r : List Oper} {fuel : Nat} {listed : Array Bool} {a : Act} {w : World} (hi : ops.toList.drop i = oi :: r)
    (hs : Region.noSelect ops = true) (hf : Region.free md ops listed i = true) (hr : (Region.ready md ops listed).contains i = true)
    (hQ : ∀ c a w, Q (.panic c) (a.put oi.dst undef) w → Q (.panic c) a w) (hw : Region.wanted oi (yielded ops a.tmps) = false)
    (h : wpAnyH P md ops Q (fun _ => True) fuel (listed.setIfInBounds i true) (a.put oi.dst undef) w) : wpAnyH P md ops Q (fun _ => True) (fuel + 1) listed a w :=
  wpAnyH_take (at_drop hi) hs hf hr hQ (.inr ⟨hw, rfl⟩) trivial h
end
section
variable {P : Program} {ops : Array Oper} {Q : Exit → Act → World → Prop} {md : Region.Mode} {J : World → Prop}
theorem heldJ_start {id : Nat} {a : Act} {w : World} (J : World → Prop) (hm : P.follows .mixedOrders = true) (h : wpAnyH P .any ops Q J ops.size (Array.replicate ops.size false) a w.drew) : (Code.region id ops true).wp P Q a w := wp_region_held hm h
theorem heldJ_take {i : Nat} {oi : Oper} {r : List Oper} {v : Value} {fuel : Nat} {listed : Array Bool} {a : Act} {w : World} (hi : ops.toList.drop i = oi :: r)
    (hs : Region.noSelect ops = true) (hf : Region.free md ops listed i = true) (hr : (Region.ready md ops listed).contains i = true)
    (hQ : ∀ c a w, Q (.panic c) (a.put oi.dst v) w → Q (.panic c) a w) (hw : Region.wanted oi (yielded ops a.tmps) = true) (hy : ∀ w, J w → (execOp a.eval oi).run P w = .ok (.value v) w) (hJ : J w)
    (h : wpAnyH P md ops Q J fuel (listed.setIfInBounds i true) (a.put oi.dst v) w) : wpAnyH P md ops Q J (fuel + 1) listed a w :=
  wpAnyH_take (at_drop hi) hs hf hr hQ (.inl ⟨hw, hy⟩) hJ h
theorem heldJ_call {i : Nat} {o : Oper} {r : List Oper} {fuel : Nat} {listed : Array Bool} {a : Act} {w : World} {f : FuncId} {args : Array Value} (hr : Region.ready md ops listed = [i]) (hi : ops.toList.drop i = o :: r) (hw : Region.wanted o (yielded ops a.tmps) = true)
    (he : (execOp a.eval o).run P w = .ok (.enter f args) w) (hc : Calls P f args w fun e w' => ∃ v, e = .returned v ∧ J w' ∧ wpAnyH P md ops Q J fuel (listed.setIfInBounds i true) (a.put o.dst v) w') : wpAnyH P md ops Q J (fuel + 1) listed a w :=
  wpAnyH_all hr (by simp) fun j hj => by
    obtain rfl := List.mem_singleton.1 hj
    exact wpOp_calls (at_drop hi) hw he (hc.mono fun e w' ⟨v, h1, h2, h3⟩ => ⟨v, h1, h2, h3⟩)
theorem heldJ_lands {i : Nat} {o : Oper} {r : List Oper} {fuel : Nat} {listed : Array Bool} {a : Act} {w : World} {R : World → Prop} {v : Value} (hr : Region.ready md ops listed = [i]) (hi : ops.toList.drop i = o :: r) (hw : Region.wanted o (yielded ops a.tmps) = true)
    (hl : Lands P R v ((execOp a.eval o).run P w)) (hk : ∀ w', R w' → J w' ∧ wpAnyH P md ops Q J fuel (listed.setIfInBounds i true) (a.put o.dst v) w') : wpAnyH P md ops Q J (fuel + 1) listed a w :=
  wpAnyH_all hr (by simp) fun j hj => by
    obtain rfl := List.mem_singleton.1 hj
    exact wpOp_lands (at_drop hi) hw hl fun w' h => hk w' h
end
section
variable {P : Program} {md : Region.Mode} {ops : Array Oper} {s t : Nat}
theorem listed_before {L : Array Bool} {o : Oper} (hm : May md ops t L) (ho : ops[t]? = some o) (hb : (o.after.toList.any fun e => Region.binds md e && e.on == s) = true) : L.getD s false = true := by
  obtain ⟨_, o', ho', hall⟩ := mem_ready.1 hm.ready
  obtain rfl : o = o' := by rw [ho] at ho'; cases ho'; rfl
  obtain ⟨e, he, h2⟩ := List.any_eq_true.1 hb
  rw [Bool.and_eq_true, beq_iff_eq] at h2
  have := hall e (by simpa using he) h2.1
  rw [h2.2] at this
  exact this
end
section
variable {P : Program} {md : Region.Mode} {ops : Array Oper} {s t u : Nat} {T : Bool → Bool → Bool → World → Prop}
def Three (s t u : Nat) (T : Bool → Bool → Bool → World → Prop) (L : Array Bool) (w : World) : Prop := T (L.getD s false) (L.getD t false) (L.getD u false) w
theorem y3_other {i : Nat} {o : Oper} {v : Value} {a : Act} (hs : i ≠ s) (ht : i ≠ t) (hu : i ≠ u) (hw : Region.wanted o (yielded ops a.tmps) = true)
    (h : ∀ b c d w, T b c d w → Lands P (T b c d) v ((execOp a.eval o).run P w)) : YieldsL P md ops (Three s t u T) i o v a :=
  .inl ⟨hw, fun L w _ hS => by unfold Three at *; rw [getD_set_ne false hs, getD_set_ne false ht, getD_set_ne false hu]; exact h _ _ _ w hS⟩
/-- Ahead of t and of u. -/
theorem y3_ahead {i n : Nat} {o : Oper} {v : Value} {a : Act} (hs : i ≠ s) (ht : i ≠ t) (hu : i ≠ u) (hb : waits md ops n t i = true) (hb2 : waits md ops n u i = true) (hw : Region.wanted o (yielded ops a.tmps) = true)
    (h : ∀ b w, T b false false w → Lands P (T b false false) v ((execOp a.eval o).run P w)) : YieldsL P md ops (Three s t u T) i o v a :=
  .inl ⟨hw, fun L w hm hS => by unfold Three at *; rw [getD_set_ne false hs, getD_set_ne false ht, getD_set_ne false hu]; rw [not_yet hm hb, not_yet hm hb2] at hS ⊢; exact h _ w hS⟩
theorem y3_first {n : Nat} {o : Oper} {v : Value} {a : Act} (hst : s ≠ t) (hsu : s ≠ u) (hb : waits md ops n t s = true) (hb2 : waits md ops n u s = true) (hw : Region.wanted o (yielded ops a.tmps) = true)
    (h : ∀ w, T false false false w → Lands P (T true false false) v ((execOp a.eval o).run P w)) : YieldsL P md ops (Three s t u T) s o v a :=
  .inl ⟨hw, fun L w hm hS => by unfold Three at *; rw [hm.unlisted.2, getD_set_ne false hst, getD_set_ne false hsu]; rw [hm.unlisted.1, not_yet hm hb, not_yet hm hb2] at hS; rw [not_yet hm hb, not_yet hm hb2]; exact h w hS⟩
theorem y3_second {n : Nat} {o o2 : Oper} {v : Value} {a : Act} (hts : t ≠ s) (htu : t ≠ u) (ho : ops[t]? = some o2) (hb : (o2.after.toList.any fun e => Region.binds md e && e.on == s) = true) (hb2 : waits md ops n u t = true) (hw : Region.wanted o (yielded ops a.tmps) = true)
    (h : ∀ w, T true false false w → Lands P (T true true false) v ((execOp a.eval o).run P w)) : YieldsL P md ops (Three s t u T) t o v a :=
  .inl ⟨hw, fun L w hm hS => by
    unfold Three at *
    rw [hm.unlisted.2, getD_set_ne false hts, getD_set_ne false htu]
    rw [hm.unlisted.1, listed_before hm ho hb, not_yet hm hb2] at hS
    rw [listed_before hm ho hb, not_yet hm hb2]
    exact h w hS⟩
theorem y3_third {o o2 : Oper} {v : Value} {a : Act} (hus : u ≠ s) (hut : u ≠ t) (ho : ops[u]? = some o2) (hb : (o2.after.toList.any fun e => Region.binds md e && e.on == t) = true) (hw : Region.wanted o (yielded ops a.tmps) = true)
    (h : ∀ b w, T b true false w → Lands P (T b true true) v ((execOp a.eval o).run P w)) : YieldsL P md ops (Three s t u T) u o v a :=
  .inl ⟨hw, fun L w hm hS => by
    unfold Three at *
    rw [hm.unlisted.2, getD_set_ne false hus, getD_set_ne false hut]
    rw [hm.unlisted.1, listed_before hm ho hb] at hS
    rw [listed_before hm ho hb]
    exact h _ w hS⟩
end
theorem lands_append {P : Program} {R : World → Prop} {o : Oper} {a : Act} {w w' : World} {v : Value} (s x : Operand) (t : TypeId) (ho : o.op = .call { callee := .builtin .append, args := #[s, x], argTypes := #[t, t] }) {vs vx : Value} (hs : a.eval s = vs) (hx : a.eval x = vx)
    (hr : (Builtin.append_ #[t, t] o.type #[vs, vx]).run P w = .ok v w') (hR : R w') : Lands P R v ((execOp a.eval o).run P w) := by
  have : (execOp a.eval o).run P w = .ok (.value v) w' := by
    unfold execOp
    simp only [ho, resolve, invoke, builtin, Sem.run_bind, Sem.run_pure, Result.andThen_ok, List.map_toArray, List.map_cons, List.map_nil, hs, hx, hr]
  exact lands_value this hR
/-- What the world is while three operations come up one behind the other. -/
def Ste (w0 w1 w2 w3 : World) (a b c : Bool) (wx : World) : Prop := (a = false → b = false → c = false → wx = w0) ∧ (a = true → b = false → c = false → wx = w1) ∧ (b = true → c = false → a = true ∧ wx = w2) ∧ (c = true → wx = w3)
section
variable {w0 w1 w2 w3 wx : World} {f : Bool}
theorem Ste.start (w0 w1 w2 w3 : World) : Ste w0 w1 w2 w3 false false false w0 := ⟨fun _ _ _ => rfl, fun h => (by cases h), fun h => (by cases h), fun h => (by cases h)⟩
theorem Ste.ahead (h : Ste w0 w1 w2 w3 f false false wx) : wx = w0 ∨ wx = w1 := by
  cases f with
  | false => exact .inl (h.1 rfl rfl rfl)
  | true => exact .inr (h.2.1 rfl rfl rfl)
theorem Ste.first (h : Ste w0 w1 w2 w3 false false false wx) : wx = w0 ∧ Ste w0 w1 w2 w3 true false false w1 := ⟨h.1 rfl rfl rfl, fun h => (by cases h), fun _ _ _ => rfl, fun h => (by cases h), fun h => (by cases h)⟩
theorem Ste.second (h : Ste w0 w1 w2 w3 true false false wx) : wx = w1 ∧ Ste w0 w1 w2 w3 true true false w2 := ⟨h.2.1 rfl rfl rfl, fun h => (by cases h), fun _ h => (by cases h), fun _ _ => ⟨rfl, rfl⟩, fun h => (by cases h)⟩
theorem Ste.third (h : Ste w0 w1 w2 w3 f true false wx) : wx = w2 ∧ Ste w0 w1 w2 w3 f true true w3 := by
  obtain ⟨rfl, e⟩ := h.2.2.1 rfl rfl
  exact ⟨e, fun h => (by cases h), fun _ h => (by cases h), fun _ h => (by cases h), fun _ => rfl⟩
theorem Ste.last {a b : Bool} (h : Ste w0 w1 w2 w3 a b true wx) : wx = w3 := h.2.2.2 rfl
end
section
variable {P : Program} {md : Region.Mode} {ops : Array Oper} {s t u : Nat} {T : Bool → Bool → Bool → World → Prop}
theorem y3_pre {i n : Nat} {o : Oper} {v : Value} {a : Act} (hs : i ≠ s) (ht : i ≠ t) (hu : i ≠ u) (hb : waits md ops n u i = true) (hw : Region.wanted o (yielded ops a.tmps) = true)
    (h : ∀ b c w, T b c false w → Lands P (T b c false) v ((execOp a.eval o).run P w)) : YieldsL P md ops (Three s t u T) i o v a :=
  .inl ⟨hw, fun L w hm hS => by unfold Three at *; rw [getD_set_ne false hs, getD_set_ne false ht, getD_set_ne false hu]; rw [not_yet hm hb] at hS ⊢; exact h _ _ w hS⟩
end
section
variable {w0 w1 w2 w3 wx : World} {f f' : Bool}
theorem Ste.pre (h : Ste w0 w1 w2 w3 f f' false wx) : wx = w0 ∨ wx = w1 ∨ wx = w2 := by
  cases f' with
  | true => exact .inr (.inr (h.2.2.1 rfl rfl).2)
  | false =>
    cases f with
    | false => exact .inl (h.1 rfl rfl rfl)
    | true => exact .inr (.inl (h.2.1 rfl rfl rfl))
end
end Go.Proofs.Ytkbjgaobhbiieaa
