/- Layer 11: a slice of integers among a law's arguments, where they hold together at most 1048576 values. -/
import Derived.Test.YtjdfdiejlmeeoaaMC
import Derived.ChangeSlices
import Derived.SizedLaws
import Derived.Test.YtjdfdiejlmeeoaaRows
namespace Go.Proofs.Ytjdfdiejlmeeoaa
open Go.RowKit
theorem okWide_lt {P : Program} {W : World} {base : Nat} {t e : TypeId} {a : Addr} {len cap : Nat} (hu : P.underlying t = some (.slice e)) (h : Value.okWide P W .any base t (.slice (some a) len cap)) : a.block < W.heap.size := by
  simp only [Value.okWide, hu, Cell.okWide, Cell.ok] at h
  obtain ⟨_, _, _, _, row, cells, hs, _⟩ := h
  rcases Nat.lt_or_ge a.block W.heap.size with h1 | h1
  · exact h1
  · simp [World.shape?, Array.getElem?_eq_none h1] at hs
set_option maxRecDepth 100000 in
theorem bulk_lits {H : Type} (k : IntKind) : ∀ l : List Int, Rows.uptoBulkAll (ChangeShapes.lits (H := H) k l) = l.length
  | [] => by simp [ChangeShapes.lits, Rows.uptoBulkAll]
  | x :: l => by
    have := bulk_lits (H := H) k l
    simp only [ChangeShapes.lits, List.map_cons, Rows.uptoBulkAll, Rows.uptoBulk, List.length_cons] at this ⊢
    omega
set_option maxRecDepth 100000 in
theorem ints_small {H : Type} {enc : TypeId × Value → H} {W : World} {base : Nat} {v : Value} {d : DataW H} {ps : List MemPlace} {ds : List (DataW H)}
    (h1 : Value.okWide Try.prog W .any base 31 v) (h : DataW.Trod enc Try.prog W 0 (fun _ => true) true 31 v d ps) (hk : Rows.uptoBulkAll (d :: ds) ≤ 1048576) :
    ∃ p n cap f, v = .slice p n cap ∧ IS p n cap f W ∧ n ≤ cap ∧ n ≤ 1048576 ∧ cap ≤ 9223372036854775807 := by
  obtain ⟨a0, len, cap, rfl⟩ := WideShapes.okWide_slice Try.underlying31 h1
  obtain ⟨fuel, hf⟩ := h
  rcases ChangeShapes.open_ints Try.underlying31 Try.underlying3 (by kernel_rfl) hf with ⟨hcs, hx⟩ | ⟨a, len', cap', zs, hcs, _, hl, hm, hz, hx, hcell, hws⟩
  · injection hcs with e1 e2
    injection e1 with e1 e3 e4
    subst e1 e3 e4
    exact ⟨none, 0, 0, fun _ => 0, rfl, ⟨fun _ => ⟨rfl, rfl⟩, (fun a e => by cases e), (fun a e => by cases e), fun i hi => by omega, fun i hi => by omega⟩, Nat.le_refl _, by decide, by decide⟩
  · injection hcs with e1 e2
    injection e1 with e1 e3 e4
    subst e1 e3 e4
    have hlt := okWide_lt Try.underlying31 h1
    simp only [if_true] at hz
    injection hx with hx1 hx2
    subst hx1
    simp only [Rows.uptoBulkAll, Rows.uptoBulk, bulk_lits, List.length_take, List.length_drop] at hk
    have hmem : ∀ i, i < len → -9223372036854775808 ≤ zs.getD i 0 ∧ zs.getD i 0 < 9223372036854775808 := fun i hi => by
      have hm : zs.getD i 0 ∈ zs := by
        rw [List.getD_eq_getElem?_getD, List.getElem?_eq_getElem (by omega)]
        exact List.getElem_mem _
      have := hws _ hm
      generalize zs.getD i 0 = x at this ⊢
      simp [Lit.wf, IntKind.min, IntKind.max, IntKind.bits, IntKind.signed] at this
      omega
    have hmx : maxLen = 9223372036854775807 := rfl
    exact ⟨some a, len, cap, fun i => zs.getD i 0, rfl, ⟨(fun e => by cases e), (fun b e i hi => by cases e; exact hcell i (by omega)), (fun b e => by cases e; exact hlt), fun i hi => (hmem i hi).1, fun i hi => (hmem i hi).2⟩, hl, by omega, by omega⟩
end Go.Proofs.Ytjdfdiejlmeeoaa
