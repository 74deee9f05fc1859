/- Known: blocks as a list: made, stored into. -/
import Derived.Test.YtmmkmbinmmfblaaReg
namespace Go.Proofs.Ytmmkmbinmmfblaa
open Go.RowKit
variable {B : Nat} {w0 w w' : World} {l : List (Nat × TypeId × Array Value)}
theorem Known.lt (h : Known B w0 l w) : ∀ x ∈ l, x.1 < w.heap.size := fun x hx => (h.blk x hx).lt
/-- A new variable. -/
theorem Known.add (h : Known B w0 l w) (cs : Array Value) (T : TypeId) : Known B w0 ((w.heap.size, T, cs) :: l) (w.alloc (.cells cs T)) :=
  ⟨h.b.alloc h.lo _, by simp; have := h.lo; omega, fun x hx => by
    rcases List.mem_cons.1 hx with rfl | hx
    · exact Blk.new w _ _
    · exact (h.blk x hx).alloc _⟩
/-- A new variable, and its first value. -/
theorem Known.new (h : Known B w0 l w) (cs cs' : Array Value) (T : TypeId) : Known B w0 ((w.heap.size, T, cs') :: l) ((w.alloc (.cells cs T)).setRow w.heap.size cs') :=
  ⟨below_setRow' (h.b.alloc h.lo _) h.lo _, by simp; have := h.lo; omega, fun x hx => by
    rcases List.mem_cons.1 hx with rfl | hx
    · exact (Blk.new w _ _).row_ _
    · exact ((h.blk x hx).alloc _).row_far (Nat.ne_of_lt (h.lt x hx)) _⟩
theorem Known.begin (w : World) : Known w.heap.size w [] w := ⟨Below.refl _ _, Nat.le_refl _, fun x hx => by cases hx⟩
/-- A row stored anew. -/
theorem Known.put (h : Known B w0 l w) {g : Nat} {T : TypeId} {cs0 : Array Value} (hg : Blk w g T cs0) (hB : B ≤ g) (cs : Array Value) (l' : List (Nat × TypeId × Array Value)) (hl : ∀ x ∈ l', (x = (g, T, cs)) ∨ (x ∈ l ∧ x.1 ≠ g)) : Known B w0 l' (w.setRow g cs) :=
  ⟨below_setRow' h.b hB _, by simp; exact h.lo, fun x hx => by
    rcases hl x hx with rfl | ⟨hx, hne⟩
    · exact hg.row_ _
    · exact (h.blk x hx).row_far hne _⟩
theorem Known.sub (h : Known B w0 l w) {l' : List (Nat × TypeId × Array Value)} (hl : ∀ x ∈ l', x ∈ l) : Known B w0 l' w := ⟨h.b, h.lo, fun x hx => h.blk x (hl x hx)⟩
theorem Known.cast (h : Known B w0 l w) {l' : List (Nat × TypeId × Array Value)} (hl : l = l') : Known B w0 l' w := hl ▸ h
/-- One cell stored. -/
theorem Known.cell (h : Known B w0 l w) {g i n : Nat} {T : TypeId} {f : Nat → Value} (hg : Blk w g T (row n f)) (hi : i < n) (hB : B ≤ g) (u : Value) (l' : List (Nat × TypeId × Array Value)) (hl : ∀ x ∈ l', (x = (g, T, row n fun j => if j = i then u else f j)) ∨ (x ∈ l ∧ x.1 ≠ g)) : Known B w0 l' (w.setCell ⟨g, i, none⟩ u) :=
  ⟨h.b.setCell hB _, by simp; exact h.lo, fun x hx => by
    rcases hl x hx with rfl | ⟨hx, hne⟩
    · exact hg.put hi u
    · exact (h.blk x hx).far (by simpa using hne) _⟩
theorem m0 {α : Type _} {a : α} {l : List α} : a ∈ a :: l := .head _
theorem m1 {α : Type _} {a b : α} {l : List α} : a ∈ b :: a :: l := .tail _ m0
theorem m2 {α : Type _} {a b c : α} {l : List α} : a ∈ b :: c :: a :: l := .tail _ m1
theorem m3 {α : Type _} {a b c d : α} {l : List α} : a ∈ b :: c :: d :: a :: l := .tail _ m2
theorem m4 {α : Type _} {a b c d e : α} {l : List α} : a ∈ b :: c :: d :: e :: a :: l := .tail _ m3
theorem m5 {α : Type _} {a b c d e f : α} {l : List α} : a ∈ b :: c :: d :: e :: f :: a :: l := .tail _ m4
theorem m6 {α : Type _} {a b c d e f g : α} {l : List α} : a ∈ b :: c :: d :: e :: f :: g :: a :: l := .tail _ m5
end Go.Proofs.Ytmmkmbinmmfblaa
