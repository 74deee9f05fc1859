/- The developers' take over lists; what holds of the world while nodes are joined. -/
import Derived.Test.YtmmkmbinmmfblaaJn
namespace Go.Proofs.Ytmmkmbinmmfblaa
open Go.RowKit
/-- It lies below B. -/
def lowB (ao : Option Addr) (cap B : Nat) : Prop := 0 < cap → ∀ a, ao = some a → a.block < B
theorem lowB.cut {ao : Option Addr} {cap B : Nat} (h : lowB ao cap B) : lowB (cutA ao cap) (cap - 1) B := fun h0 a ha => by
  unfold cutA at ha
  rw [if_neg (by omega)] at ha
  cases ao with
  | none => cases ha
  | some b =>
    have e : b.add 2 = a := Option.some.inj ha
    rw [← e]
    have : (b.add 2).block = b.block := by unfold Addr.add; split <;> rfl
    rw [this]
    exact h (by omega) b rfl
theorem QN.low {B : Nat} {l : List Kd} {ao : Option Addr} {cap : Nat} {w : World} (h : QN B l ao cap w) : lowB ao cap w.heap.size := fun h0 a ha => by
  obtain ⟨g, off, h1, _, h3, _⟩ := h.at_ h0
  rw [h1] at ha
  cases ha
  exact h3
theorem QN.apart {B : Nat} {l : List Kd} {ao : Option Addr} {cap q : Nat} {w : World} (h : QN B l ao cap w) (hq : q < B) : noB ao cap q := fun h0 a ha => by
  obtain ⟨g, off, h1, h2, _⟩ := h.at_ h0
  rw [h1] at ha
  cases ha
  show g ≠ q
  omega
/-- The two queues of a forest. -/
structure FQ (q B : Nat) (S J : List Kd) (aS : Option Addr) (cS : Nat) (aJ : Option Addr) (cJ : Nat) (w : World) : Prop where
  f : Blk w q 73 #[.slice aS S.length cS, .slice aJ J.length cJ]
  s : QN 0 S aS cS w
  sq : noB aS cS q
  sl : lowB aS cS B
  j : QN B J aJ cJ w
  qB : q < B
theorem take_any (q B : Nat) (S J : List Kd) (aS : Option Addr) (cS : Nat) (aJ : Option Addr) (cJ : Nat) (w : World) (h : FQ q B S J aS cS aJ cJ w) (hne : S ++ J ≠ []) (a : Kd) (S1 J1 : List Kd) (ht : tkK S J = (a, S1, J1)) :
    Calls Try.prog 44 #[.pointer (some ⟨q, 0, none⟩)] w fun e w' => e = .returned (.agg #[.int .i64 (a.1 : Int), .int .i64 (a.2 : Int)]) ∧ w.grownBy w' (some q) ∧
      ∃ aS' cS' aJ' cJ', FQ q B S1 J1 aS' cS' aJ' cJ' w' ∧ ∀ g, noB aJ cJ g → noB aJ' cJ' g := by
  have hjq := h.j.apart h.qB
  match S, J, h, hne, ht with
  | [], [], _, hne, _ => exact absurd rfl hne
  | [], b :: J, h, _, ht =>
    have ht : (b, ([] : List Kd), J) = (a, S1, J1) := ht
    obtain ⟨e1, e2⟩ := Prod.mk.inj ht
    obtain ⟨e2, e3⟩ := Prod.mk.inj e2
    subst e1; subst e2; subst e3
    obtain ⟨g, off, rfl, h0, h1⟩ := h.j.head
    have hle := h.j.le
    simp only [List.length_cons] at hle
    refine (take_j0 q g off J.length cJ b.1 b.2 aS cS w h.f hle h0 h1).mono fun e w' ⟨h2, h3, h4⟩ => ⟨h2, h4, aS, cS, cutA (some ⟨g, off, none⟩) cJ, cJ - 1, ⟨h3, h.s.grown h4 h.sq, h.sq, h.sl, (h.j.tail).grown h4 hjq.cut, h.qB⟩, fun g2 h5 => h5.cut⟩
  | x :: S, [], h, _, ht =>
    have ht : (x, S, ([] : List Kd)) = (a, S1, J1) := ht
    obtain ⟨e1, e2⟩ := Prod.mk.inj ht
    obtain ⟨e2, e3⟩ := Prod.mk.inj e2
    subst e1; subst e2; subst e3
    obtain ⟨g, off, rfl, h0, h1⟩ := h.s.head
    have hle := h.s.le
    simp only [List.length_cons] at hle
    refine (take_s0 q g off S.length cS x.1 x.2 aJ cJ w h.f hle h0 h1).mono fun e w' ⟨h2, h3, h4⟩ => ⟨h2, h4, cutA (some ⟨g, off, none⟩) cS, cS - 1, aJ, cJ, ⟨h3, (h.s.tail).grown h4 h.sq.cut, h.sq.cut, h.sl.cut, h.j.grown h4 hjq, h.qB⟩, fun g2 h5 => h5⟩
  | x :: S, b :: J, h, _, ht =>
    obtain ⟨g, off, rfl, h0, h1⟩ := h.s.head
    obtain ⟨g2, off2, rfl, h2, h3⟩ := h.j.head
    have hle := h.s.le
    have hle2 := h.j.le
    simp only [List.length_cons] at hle hle2
    by_cases hc : b.1 < x.1
    · have e : tkK (x :: S) (b :: J) = (b, x :: S, J) := if_pos hc
      rw [e] at ht
      obtain ⟨e1, e2⟩ := Prod.mk.inj ht
      obtain ⟨e2, e3⟩ := Prod.mk.inj e2
      subst e1; subst e2; subst e3
      refine (take_j q g2 off2 J.length cJ b.1 b.2 g off S.length cS x.1 w h.f hle2 h2 h3 h0 (by omega)).mono fun e w' ⟨h4, h5, h6⟩ => ⟨h4, h6, some ⟨g, off, none⟩, cS, cutA (some ⟨g2, off2, none⟩) cJ, cJ - 1, ⟨h5, h.s.grown h6 h.sq, h.sq, h.sl, (h.j.tail).grown h6 hjq.cut, h.qB⟩, fun g2 h5 => h5.cut⟩
    · have e : tkK (x :: S) (b :: J) = (x, S, b :: J) := if_neg hc
      rw [e] at ht
      obtain ⟨e1, e2⟩ := Prod.mk.inj ht
      obtain ⟨e2, e3⟩ := Prod.mk.inj e2
      subst e1; subst e2; subst e3
      refine (take_s q g off S.length cS x.1 x.2 g2 off2 J.length cJ b.1 w h.f hle h0 h1 h2 (by omega)).mono fun e w' ⟨h4, h5, h6⟩ => ⟨h4, h6, cutA (some ⟨g, off, none⟩) cS, cS - 1, some ⟨g2, off2, none⟩, cJ, ⟨h5, (h.s.tail).grown h6 h.sq.cut, h.sq.cut, h.sl.cut, h.j.grown h6 hjq, h.qB⟩, fun g2 h5 => h5⟩
def intsN (g : Nat → Nat) (k : Nat) : List Value := (List.range k).map fun i => .int .i64 (g i : Int)
theorem intsN_len (g : Nat → Nat) (k : Nat) : (intsN g k).length = k := by simp [intsN]
theorem intsN_get (g : Nat → Nat) {k i : Nat} (h : i < k) : (intsN g k)[i]? = some (.int .i64 (g i : Int)) := by simp [intsN, h]
theorem intsN_set (g : Nat → Nat) (k p x : Nat) : (intsN g k).set p (.int .i64 (x : Int)) = intsN (updN g p x) k := by
  apply List.ext_getElem?
  intro i
  rw [List.getElem?_set]
  by_cases h : p = i
  · subst h
    rw [if_pos rfl, intsN_len]
    by_cases h2 : p < k
    · rw [if_pos h2, intsN_get _ h2]; unfold updN; rw [if_pos rfl]
    · rw [if_neg h2, List.getElem?_eq_none (by rw [intsN_len]; omega)]
  · rw [if_neg h]
    by_cases h2 : i < k
    · rw [intsN_get _ h2, intsN_get _ h2]; unfold updN; rw [if_neg (fun e => h e.symm)]
    · rw [List.getElem?_eq_none (by rw [intsN_len]; omega), List.getElem?_eq_none (by rw [intsN_len]; omega)]
theorem intsN_succ (g : Nat → Nat) (k : Nat) (h : g k = 0) : intsN g k ++ [.int .i64 0] = intsN g (k + 1) := by
  unfold intsN
  rw [List.range_succ, List.map_append]
  show _ = _ ++ [Value.int .i64 ((g k : Nat) : Int)]
  rw [h]; rfl
/-- What holds of the world while nodes are joined. -/
structure JW (w : World) (q : Nat) (S J : List Kd) (ab : Nat → Nat) (k : Nat) (aS : Option Addr) (cS : Nat) (aJ : Option Addr) (cJ gA cA : Nat) (wr : World) : Prop where
  g : w.grownBy wr (some q)
  fq : FQ q w.heap.size S J aS cS aJ cJ wr
  jA : noB aJ cJ gA
  a : wr.ownsRow w.heap.size 3 1 (.slice (some ⟨gA, 0, none⟩) k cA) k (intsN ab k)
  gB : w.heap.size ≤ gA
theorem FQ.keep {q B : Nat} {S J : List Kd} {aS : Option Addr} {cS : Nat} {aJ : Option Addr} {cJ : Nat} {w w' : World} (h : FQ q B S J aS cS aJ cJ w) (hz : w.heap.size ≤ w'.heap.size)
    (hq : w'.heap[q]? = w.heap[q]?) (hs : ∀ g, g < B → g ≠ q → w'.heap[g]? = w.heap[g]?) (hj : ∀ a, 0 < cJ → aJ = some a → a.block < w.heap.size → w'.heap[a.block]? = w.heap[a.block]?) : FQ q B S J aS cS aJ cJ w' :=
  ⟨hq.trans h.f, h.s.keep hz (fun a h0 ha _ => hs a.block (h.sl h0 a ha) (h.sq h0 a ha)), h.sq, h.sl, h.j.keep hz hj, h.qB⟩
theorem JW.alloc {w wr : World} {q : Nat} {S J : List Kd} {ab : Nat → Nat} {k : Nat} {aS : Option Addr} {cS : Nat} {aJ : Option Addr} {cJ gA cA : Nat} (h : JW w q S J ab k aS cS aJ cJ gA cA wr) (o : Obj) : JW w q S J ab k aS cS aJ cJ gA cA (wr.alloc o) := by
  have hq := h.fq.f.lt
  have hz := h.g.size
  exact ⟨grown_alloc h.g o, h.fq.keep (by simp) (Below.heap_alloc wr o q hq) (fun g hg _ => Below.heap_alloc wr o g (by omega)) (fun a _ _ hl => Below.heap_alloc wr o a.block hl), h.jA, h.a.alloc o, h.gB⟩
theorem JW.drew {w wr : World} {q : Nat} {S J : List Kd} {ab : Nat → Nat} {k : Nat} {aS : Option Addr} {cS : Nat} {aJ : Option Addr} {cJ gA cA : Nat} (h : JW w q S J ab k aS cS aJ cJ gA cA wr) : JW w q S J ab k aS cS aJ cJ gA cA wr.drew :=
  ⟨grown_drew h.g, h.fq.keep (Nat.le_refl _) rfl (fun _ _ _ => rfl) (fun _ _ _ _ => rfl), h.jA, h.a.drew, h.gB⟩
/-- A node's number written above another one. -/
theorem JW.put {w wr : World} {q : Nat} {S J : List Kd} {ab : Nat → Nat} {k : Nat} {aS : Option Addr} {cS : Nat} {aJ : Option Addr} {cJ gA cA : Nat} (h : JW w q S J ab k aS cS aJ cJ gA cA wr) (p x : Nat) : JW w q S J (updN ab p x) k aS cS aJ cJ gA cA (wr.setCell ⟨gA, p, none⟩ (.int .i64 (x : Int))) := by
  obtain ⟨h1, h2⟩ := h.a.stored p (.int .i64 (x : Int))
  have hqB := h.fq.qB
  have hgB := h.gB
  refine ⟨grown_set h.g _ (.inl h.gB) _, h.fq.keep h2.size (h2.block q h.fq.f.lt (fun e => by cases e; omega)) (fun g hg _ => h2.block g (Nat.lt_of_lt_of_le hg h.g.size) (fun e => by cases e; omega)) (fun a h0 ha hl => h2.block a.block hl (fun e => h.jA h0 a ha (Option.some.inj e))), h.jA, ?_, h.gB⟩
  rw [← intsN_set]; exact h1
theorem JW.at_ {w wr : World} {q : Nat} {S J : List Kd} {ab : Nat → Nat} {k : Nat} {aS : Option Addr} {cS : Nat} {aJ : Option Addr} {cJ gA cA : Nat} (h : JW w q S J ab k aS cS aJ cJ gA cA wr) {p : Nat} (hp : p < k) : wr.cell? ⟨gA, p, none⟩ = some (.int .i64 (ab p : Int)) := by
  rw [h.a.cellAt p (by omega), intsN_get _ hp]
end Go.Proofs.Ytmmkmbinmmfblaa
