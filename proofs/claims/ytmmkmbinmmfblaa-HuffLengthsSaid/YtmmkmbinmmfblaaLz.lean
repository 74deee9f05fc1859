/- Slices of integers among a law's arguments. -/
import Derived.Test.YtmmkmbinmmfblaaVc9
import Derived.ChangeSlices
import Derived.SizedLaws
namespace Go.Proofs.Ytmmkmbinmmfblaa
open Go.RowKit
theorem okWide_lt {P : Program} {W : World} {base : Nat} {t e : TypeId} {a : Addr} {len cap : Nat} (hu : P.underlying t = some (.slice e)) (h : Value.okWide P W .any base t (.slice (some a) len cap)) : a.block < W.heap.size := by
  simp only [Value.okWide, hu, Cell.okWide, Cell.ok] at h
  obtain ⟨_, _, _, _, row, cells, hs, _⟩ := h
  rcases Nat.lt_or_ge a.block W.heap.size with h1 | h1
  · exact h1
  · simp [World.shape?, Array.getElem?_eq_none h1] at hs
set_option maxRecDepth 100000 in
theorem ints_of {H : Type} {enc : TypeId × Value → H} {W : World} {base : Nat} {v : Value} {d : DataW H} {ps : List MemPlace} {ts : List TypeId} {ds : List (DataW H)} {j : Nat}
    (h1 : Value.okWide Try.prog W .any base 22 v) (h : DataW.Trod enc Try.prog W 0 (fun _ => true) true 22 v d ps)
    (hsz : (DataW.weightsEach Try.prog ts ds).all (· ≤ reachBytes) = true) (ht : ts[j]? = some 22) (hd : ds[j]? = some d) :
    ∃ p n cap f, v = .slice p n cap ∧ IS p n cap f W ∧ n ≤ cap ∧ n ≤ 17592186044416 := by
  obtain ⟨a0, len, cap, rfl⟩ := WideShapes.okWide_slice Try.underlying22 h1
  obtain ⟨fuel, hf⟩ := h
  rcases ChangeShapes.open_ints Try.underlying22 Try.underlying3 (by kernel_rfl) hf with ⟨hcs, hx⟩ | ⟨a, len', cap', zs, hcs, _, hl, hm, hz, hx, hcell, hws⟩
  · injection hcs with e1 e2
    injection e1 with e1 e3 e4
    subst e1 e3 e4
    exact ⟨none, 0, 0, fun _ => 0, rfl, ⟨fun _ => ⟨rfl, rfl⟩, (fun a e => by cases e), (fun a e => by cases e), fun i hi => by omega, fun i hi => by omega⟩, Nat.le_refl _, by decide⟩
  · injection hcs with e1 e2
    injection e1 with e1 e3 e4
    subst e1 e3 e4
    have hlt := okWide_lt Try.underlying22 h1
    simp only [if_true] at hz
    injection hx with hx1 hx2
    subst hx1
    have hw := sized_slice hsz ht hd Try.underlying22
    rw [show Try.prog.bytesOf 3 = 8 by kernel_rfl] at hw
    simp only [ChangeShapes.lits, List.length_map, List.length_take, List.length_drop] at hw
    have hw2 : reachBytes = 140737488351232 := rfl
    have hmem : ∀ i, i < len → -9223372036854775808 ≤ zs.getD i 0 ∧ zs.getD i 0 < 9223372036854775808 := fun i hi => by
      have hm : zs.getD i 0 ∈ zs := by
        rw [List.getD_eq_getElem?_getD, List.getElem?_eq_getElem (by omega)]
        exact List.getElem_mem _
      have := hws _ hm
      generalize zs.getD i 0 = x at this ⊢
      simp [Lit.wf, IntKind.min, IntKind.max, IntKind.bits, IntKind.signed] at this
      omega
    exact ⟨some a, len, cap, fun i => zs.getD i 0, rfl, ⟨(fun e => by cases e), (fun b e i hi => by cases e; exact hcell i (by omega)), (fun b e => by cases e; exact hlt), fun i hi => (hmem i hi).1, fun i hi => (hmem i hi).2⟩, hl, by omega⟩
set_option maxRecDepth 100000 in
theorem u16s_of {H : Type} {enc : TypeId × Value → H} {W : World} {base : Nat} {v : Value} {d : DataW H} {ps : List MemPlace} {ts : List TypeId} {ds : List (DataW H)} {j : Nat}
    (h1 : Value.okWide Try.prog W .any base 46 v) (h : DataW.Trod enc Try.prog W 0 (fun _ => true) true 46 v d ps)
    (hsz : (DataW.weightsEach Try.prog ts ds).all (· ≤ reachBytes) = true) (ht : ts[j]? = some 46) (hd : ds[j]? = some d) :
    ∃ p n cap f, v = .slice p n cap ∧ US p n cap f W ∧ n ≤ 70368744177664 := by
  obtain ⟨a0, len, cap, rfl⟩ := WideShapes.okWide_slice Try.underlying46 h1
  obtain ⟨fuel, hf⟩ := h
  rcases ChangeShapes.open_ints Try.underlying46 Try.underlying52 (by kernel_rfl) hf with ⟨hcs, hx⟩ | ⟨a, len', cap', zs, hcs, _, hl, hm, hz, hx, hcell, hws⟩
  · injection hcs with e1 e2
    injection e1 with e1 e3 e4
    subst e1 e3 e4
    exact ⟨none, 0, 0, fun _ => 0, rfl, ⟨fun _ => ⟨rfl, rfl⟩, (fun a e => by cases e), (fun a e => by cases e), fun i hi => by omega⟩, by decide⟩
  · injection hcs with e1 e2
    injection e1 with e1 e3 e4
    subst e1 e3 e4
    have hlt := okWide_lt Try.underlying46 h1
    simp only [if_true] at hz
    injection hx with hx1 hx2
    subst hx1
    have hw := sized_slice hsz ht hd Try.underlying46
    rw [show Try.prog.bytesOf 52 = 2 by kernel_rfl] at hw
    simp only [ChangeShapes.lits, List.length_map, List.length_take, List.length_drop] at hw
    have hw2 : reachBytes = 140737488351232 := rfl
    have hmem : ∀ i, i < len → 0 ≤ zs.getD i 0 ∧ zs.getD i 0 < 65536 := fun i hi => by
      have hm : zs.getD i 0 ∈ zs := by
        rw [List.getD_eq_getElem?_getD, List.getElem?_eq_getElem (by omega)]
        exact List.getElem_mem _
      have := hws _ hm
      generalize zs.getD i 0 = x at this ⊢
      simp [Lit.wf, IntKind.min, IntKind.max, IntKind.bits, IntKind.signed] at this
      omega
    refine ⟨some a, len, cap, fun i => (zs.getD i 0).toNat, rfl, ⟨(fun e => by cases e), (fun b e i hi => by cases e; rw [hcell i (by omega)]; have := hmem i hi; congr 2; omega), (fun b e => by cases e; exact hlt), fun i hi => by have := hmem i hi; omega⟩, by omega⟩
end Go.Proofs.Ytmmkmbinmmfblaa
