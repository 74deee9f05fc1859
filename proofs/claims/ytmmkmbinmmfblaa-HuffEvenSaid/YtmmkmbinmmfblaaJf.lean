/- Layer 9: a map of words that the call made: what it holds, as a function; looked up, written, counted. -/
import Derived.Test.YtmmkmbinmmfblaaJe
import Derived.Maps.OwnOps
import Derived.Maps.OwnSet
import Derived.Maps.Views
namespace Go.Proofs.Ytmmkmbinmmfblaa
open Go.RowKit
open Go.Maps (Keyed)
theorem wordKeyed : Keyed Try.prog 66 := Maps.int_keyed Try.underlying66
theorem zeroInt (w : World) : (zeroValue 3).run Try.prog w = .ok (.int .i64 0) w := by kernel_rfl
theorem wordKey (x : Nat) (hx : x < 4294967296) : keyOf Try.prog 66 (.int .u32 (x : Int)) = some (.int .u32 (x : Int)) :=
  Maps.keyOf_int_mk Try.underlying66 (by simp [Lit.wf, IntKind.min, IntKind.max, IntKind.bits, IntKind.signed]; omega)
/-- The block b is a map of words: g tells what it holds. -/
def MW (b n : Nat) (g : Nat → Option Nat) (sz : Nat) (w : World) : Prop :=
  ∃ D : DataW Unit, w.ownsMap Try.prog 66 (plainElem Try.prog 3) b n D ∧ (∀ x : Nat, x < 4294967296 → Maps.has D (.int .u32 (x : Int)) = (g x).isSome ∧ D.atKey (.int .u32 (x : Int)) (.lit (.int .i64 0)) = .lit (.int .i64 (((g x).getD 0 : Nat) : Int))) ∧ Maps.size D = sz
variable {b n sz : Nat} {g : Nat → Option Nat} {w : World}
theorem MW.made (w : World) : MW w.heap.size 0 (fun _ => none) 0 (w.alloc (.map #[] 0)) :=
  ⟨.map [], World.ownsMap_made _ _ _ _, fun _ _ => ⟨rfl, rfl⟩, rfl⟩
theorem MW.lt (h : MW b n g sz w) : b < w.heap.size := by obtain ⟨D, h1, _⟩ := h; exact h1.lt
theorem MW.below {w' : World} (h : MW b n g sz w) (hb : Below w.heap.size w w') : MW b n g sz w' := by
  obtain ⟨D, ⟨es, clock, h1, h2⟩, h3⟩ := h
  have hlt : b < w.heap.size := World.ownsMap.lt (H := Unit) ⟨es, clock, h1, h2⟩
  exact ⟨D, ⟨es, clock, (hb.block b hlt).trans h1, h2⟩, h3⟩
theorem MW.drew (h : MW b n g sz w) : MW b n g sz w.drew := h
theorem MW.alloc (h : MW b n g sz w) (o : Obj) : MW b n g sz (w.alloc o) := by
  obtain ⟨D, h1, h2⟩ := h; exact ⟨D, h1.alloc o, h2⟩
theorem MW.cast {g' : Nat → Option Nat} {sz' : Nat} (h : MW b n g sz w) (hg : ∀ x, g x = g' x) (hs : sz = sz') : MW b n g' sz' w := by
  obtain rfl : g = g' := funext hg
  subst hs; exact h
theorem MW.look (h : MW b n g sz w) {x : Nat} (hx : x < 4294967296) :
    (Instr.lookup 62 (.map (some b)) (.int .u32 (x : Int)) true).run Try.prog w = .ok (.tuple #[.int .i64 (((g x).getD 0 : Nat) : Int), .bool (g x).isSome]) w := by
  obtain ⟨D, h1, h2, _⟩ := h
  obtain ⟨v, ps, h3, h4⟩ := h1.look_ok wordKeyed Try.underlying62 (zeroInt w) (plainElem_int Try.underlying3 (by decide)) (wordKey x hx)
  rw [(h2 x hx).2] at h4
  obtain ⟨a, rfl, ha, _⟩ := plainElem_int_inv Try.underlying3 h4
  simp only [Prod.mk.injEq, DataW.lit.injEq, Lit.int.injEq] at ha
  rw [h3, (h2 x hx).1, ← ha.1.2]
theorem MW.len (h : MW b n g sz w) (ty : TypeId) : (Builtin.len_ #[62] ty #[.map (some b)]).run Try.prog w = .ok (.int .i64 (sz : Int)) w := by
  obtain ⟨D, h1, _, h3⟩ := h
  rw [← h3]; exact h1.len Try.underlying62 ty
theorem MW.put (h : MW b n g sz w) (hn : n < 1000000) {x i : Nat} (hx : x < 4294967296) (hi : i < 9223372036854775808) (hnew : g x = none) :
    ∃ w', (Instr.mapUpdate 62 (.map (some b)) (.int .u32 (x : Int)) (.int .i64 (i : Int))).run Try.prog w = .ok () w' ∧ MW b (n + 1) (fun y => if x = y then some i else g y) (sz + 1) w' ∧ w.grownBy w' (some b) := by
  obtain ⟨D, h1, h2, h3⟩ := h
  obtain ⟨w', h4, h5, h6⟩ := h1.update wordKeyed Try.underlying62 (by unfold maxLen; omega) (wordKey x hx) (plainElem_int Try.underlying3 (a := (i : Int)) (by simp [Lit.wf, IntKind.min, IntKind.max, IntKind.bits, IntKind.signed]; omega))
  refine ⟨w', h4, ⟨_, h5, fun y hy => ?_, ?_⟩, h6⟩
  · simp only
    by_cases e : x = y
    · subst e
      rw [if_pos rfl, Maps.has_put_same h1.isMap (by trivial), Maps.atKey_put_same h1.isMap (by trivial)]
      exact ⟨rfl, rfl⟩
    · have hne : Lit.int .u32 (y : Int) ≠ .int .u32 (x : Int) := fun hh => by
        have := (Lit.int.inj hh).2
        omega
      rw [if_neg e, Maps.has_put_other hne, Maps.atKey_put_other hne]
      exact h2 y hy
  · rw [Maps.size_put (h1.tidy wordKeyed), (h2 x hx).1, hnew, h3]; rfl
end Go.Proofs.Ytmmkmbinmmfblaa
