/- A slice of bytes among a law's arguments. -/
import Derived.Test.YtjdfdiejlmeeoaaDeflateTells
import Derived.ChangeSlices
namespace Go.Proofs.Ytjdfdiejlmeeoaa
open Go.RowKit
theorem okWide_lt8 {P : Program} {W : World} {base : Nat} {t e : TypeId} {a : Addr} {len cap : Nat} (hu : P.underlying t = some (.slice e)) (h : Value.okWide P W .any base t (.slice (some a) len cap)) : a.block < W.heap.size := by
  simp only [Value.okWide, hu, Cell.okWide, Cell.ok] at h
  obtain ⟨_, _, _, _, row, cells, hs, _⟩ := h
  rcases Nat.lt_or_ge a.block W.heap.size with h1 | h1
  · exact h1
  · simp [World.shape?, Array.getElem?_eq_none h1] at hs
set_option maxRecDepth 100000 in
theorem u8s_of {H : Type} {enc : TypeId × Value → H} {W : World} {base : Nat} {v : Value} {d : DataW H} {ps : List MemPlace} 
    (h1 : Value.okWide Try.prog W .any base 37 v) (h : DataW.Trod enc Try.prog W 0 (fun _ => true) true 37 v d ps)
    :
    ∃ p n cap f, v = .slice p n cap ∧ U8 p n cap f W := by
  obtain ⟨a0, len, cap, rfl⟩ := WideShapes.okWide_slice Try.underlying37 h1
  obtain ⟨fuel, hf⟩ := h
  rcases ChangeShapes.open_ints Try.underlying37 Try.underlying5 (by kernel_rfl) hf with ⟨hcs, hx⟩ | ⟨a, len', cap', zs, hcs, _, hl, hm, hz, hx, hcell, hws⟩
  · injection hcs with e1 e2
    injection e1 with e1 e3 e4
    subst e1 e3 e4
    exact ⟨none, 0, 0, fun _ => 0, rfl, ⟨fun _ => ⟨rfl, rfl⟩, (fun a e => by cases e), (fun a e => by cases e), fun i hi => by omega⟩⟩
  · injection hcs with e1 e2
    injection e1 with e1 e3 e4
    subst e1 e3 e4
    have hlt := okWide_lt8 Try.underlying37 h1
    simp only [if_true] at hz
    injection hx with hx1 hx2
    subst hx1
    have hmem : ∀ i, i < len → 0 ≤ zs.getD i 0 ∧ zs.getD i 0 < 256 := fun i hi => by
      have hm : zs.getD i 0 ∈ zs := by
        rw [List.getD_eq_getElem?_getD, List.getElem?_eq_getElem (by omega)]
        exact List.getElem_mem _
      have := hws _ hm
      generalize zs.getD i 0 = x at this ⊢
      simp [Lit.wf, IntKind.min, IntKind.max, IntKind.bits, IntKind.signed] at this
      omega
    refine ⟨some a, len, cap, fun i => (zs.getD i 0).toNat, rfl, ⟨(fun e => by cases e), (fun b e i hi => by cases e; rw [hcell i (by omega)]; have := hmem i hi; congr 2; omega), (fun b e => by cases e; exact hlt), fun i hi => by have := hmem i hi; omega⟩⟩
end Go.Proofs.Ytjdfdiejlmeeoaa
