/- Slices of parts among a law's arguments. -/
import Derived.Test.YtfheedpoaomfeaaIj
import Derived.ChangeSlices
import Derived.Deep.Strs
namespace Go.Proofs.Ytfheedpoaomfeaa
open Go.RowKit
theorem okWide_ltP {P : Program} {W : World} {base : Nat} {t e : TypeId} {a : Addr} {len cap : Nat} (hu : P.underlying t = some (.slice e)) (h : Value.okWide P W .any base t (.slice (some a) len cap)) : a.block < W.heap.size := by
  simp only [Value.okWide, hu, Cell.okWide, Cell.ok] at h
  obtain ⟨_, _, _, _, row, cells, hs, _⟩ := h
  rcases Nat.lt_or_ge a.block W.heap.size with h1 | h1
  · exact h1
  · simp [World.shape?, Array.getElem?_eq_none h1] at hs
/-- A part as data. -/
def dPt {H : Type} (x : Pt) : DataW H := .agg [.lit (.int .i64 x.k), .lit (.int .i64 x.n), .lit (.int .i64 x.z), .lit (.string x.s.data.toList)]
theorem wf64P {x : Int} (h : (Lit.int .i64 x).wf = true) : -9223372036854775808 ≤ x ∧ x < 9223372036854775808 := by
  simp [Lit.wf, IntKind.min, IntKind.max, IntKind.bits, IntKind.signed] at h
  omega
set_option maxRecDepth 100000 in
theorem part_of {H : Type} {enc : TypeId × Value → H} {W : World} {base : Nat} {spare : Nat → Bool} {held : Bool} {fuel : Nat} {cs : List Value} {y : DataW H × List MemPlace}
    (h : DataW.trod enc Try.prog W base spare held fuel 30 cs = some y) : ∃ x : Pt, x.ok ∧ cs = encPt x ∧ y.1 = dPt x := by
  obtain ⟨xs, n, _, rfl, hl, hlen, hf⟩ := DataW.trod_struct Try.underlying30 h
  rw [show Try.prog.cellsOf 30 = 4 by kernel_rfl] at hl
  match xs, cs, hlen, hl with
  | [y0, y1, y2, y3], [c0, c1, c2, c3], _, _ =>
    have i1 : Try.prog.cellsOf 3 = 1 := by kernel_rfl
    have s1 : Try.prog.cellsOf 9 = 1 := by kernel_rfl
    have h0 : DataW.trod enc Try.prog W base spare held n 3 (([c0, c1, c2, c3].drop 0).take (Try.prog.cellsOf 3)) = some y0 := hf 0 _ rfl
    have h1 : DataW.trod enc Try.prog W base spare held n 3 (([c0, c1, c2, c3].drop 1).take (Try.prog.cellsOf 3)) = some y1 := hf 1 _ rfl
    have h2 : DataW.trod enc Try.prog W base spare held n 3 (([c0, c1, c2, c3].drop 2).take (Try.prog.cellsOf 3)) = some y2 := hf 2 _ rfl
    have h3 : DataW.trod enc Try.prog W base spare held n 9 (([c0, c1, c2, c3].drop 3).take (Try.prog.cellsOf 9)) = some y3 := hf 3 _ rfl
    rw [i1] at h0 h1 h2
    rw [s1] at h3
    obtain ⟨k, e0, rfl, w0⟩ := DataW.trod_int Try.underlying3 h0
    obtain ⟨m, e1, rfl, w1⟩ := DataW.trod_int Try.underlying3 h1
    obtain ⟨z, e2, rfl, w2⟩ := DataW.trod_int Try.underlying3 h2
    obtain ⟨s, e3, rfl, w3⟩ := DataW.trod_string Try.underlying9 h3
    simp at e0 e1 e2 e3
    subst e0 e1 e2 e3
    exact ⟨⟨k, m, z, s⟩, ⟨wf64P w0, wf64P w1, wf64P w2, by unfold maxLen at w3; exact w3⟩, rfl, rfl⟩
set_option maxRecDepth 100000 in
theorem parts_of {H : Type} {enc : TypeId × Value → H} {W : World} {base : Nat} {v : Value} {d : DataW H} {ps : List MemPlace}
    (h1 : Value.okWide Try.prog W .any base 22 v) (h : DataW.Trod enc Try.prog W 0 (fun _ => true) true 22 v d ps) :
    ∃ p n cap l, v = .slice p n cap ∧ RS 4 p n cap (l.map encPt) W ∧ (∀ x ∈ l, x.ok) ∧ (d = .nil ∧ l = [] ∨ ∃ r, d = .slice (l.map dPt) r) := by
  obtain ⟨a0, len, cap, rfl⟩ := WideShapes.okWide_slice Try.underlying22 h1
  obtain ⟨fuel, hf⟩ := h
  have hc : Try.prog.cellsOf 30 = 4 := by kernel_rfl
  rcases DataW.trod_slice Try.underlying22 hf with ⟨hcs, hx⟩ | ⟨a, len', cap', elems, rest, n, _, hcs, hx, hb, hl, hm, hlen, hel, hsp, hns⟩
  · injection hcs with e1 e2
    injection e1 with e1 e3 e4
    subst e1 e3 e4
    injection hx with hx1 hx2
    exact ⟨none, 0, 0, [], rfl, ⟨rfl, (fun x hx => by cases hx), fun _ => ⟨rfl, rfl⟩, Nat.le_refl _, by decide, (fun a e => by cases e), (fun a e => by cases e)⟩, (fun x hx => by cases hx), .inl ⟨hx1, rfl⟩⟩
  · injection hcs with e1 e2
    injection e1 with e1 e3 e4
    subst e1 e3 e4
    injection hx with hx1 hx2
    have hlt := okWide_ltP Try.underlying22 h1
    have each : ∀ i (hi : i < elems.length), ∃ x : Pt, x.ok ∧ (elems[i]).1 = dPt x ∧ ∀ j u, (encPt x)[j]? = some u → W.cell? (a.add (i * 4 + j)) = some u := fun i hi => by
      have h2 := hel i (by omega)
      rw [List.getElem?_eq_getElem hi, hc, Option.bind_eq_some_iff] at h2
      obtain ⟨cs', h3, h4⟩ := h2
      obtain ⟨x, ok, rfl, hd⟩ := part_of h4
      obtain ⟨_, _, hcell⟩ := World.cells?_some h3
      refine ⟨x, ok, hd, fun j u hu => ?_⟩
      have hj : j < 4 := by
        rcases Nat.lt_or_ge j 4 with h | h
        · exact h
        · rw [List.getElem?_eq_none (by simpa [encPt] using h)] at hu; cases hu
      rw [← addr_add2, hcell j hj, hu]
    obtain ⟨l, hll⟩ : ∃ l : List Pt, l = List.ofFn fun i : Fin elems.length => Classical.choose (each i i.2) := ⟨_, rfl⟩
    have hlz : l.length = elems.length := by rw [hll, List.length_ofFn]
    have hat : ∀ i (h : i < l.length), (l[i]).ok ∧ (elems[i]'(by omega)).1 = dPt l[i] ∧ ∀ j u, (encPt l[i])[j]? = some u → W.cell? (a.add (i * 4 + j)) = some u := fun i h => by
      have e : l[i] = Classical.choose (each i (by omega)) := by subst hll; rw [List.getElem_ofFn]
      rw [e]
      exact Classical.choose_spec (each i (by omega))
    refine ⟨some a, len, cap, l, rfl, ⟨by rw [List.length_map]; omega, fun x hx => ?_, (fun e => by cases e), hl, by unfold maxLen at hm; exact hm, fun b hb2 i hi j u hu => ?_, fun b e => by cases e; exact hlt⟩, fun x hx => ?_, .inr ⟨rest.map (·.1), ?_⟩⟩
    · obtain ⟨y, _, rfl⟩ := List.mem_map.1 hx
      refine ⟨rfl, fun u hu => ?_⟩
      unfold encPt at hu
      simp only [List.mem_cons, List.not_mem_nil, or_false] at hu
      rcases hu with rfl | rfl | rfl | rfl <;> rfl
    · cases hb2
      rw [List.length_map] at hi
      rw [List.getElem_map] at hu
      exact (hat i hi).2.2 j u hu
    · obtain ⟨i, hi, rfl⟩ := List.getElem_of_mem hx
      exact (hat i hi).1
    · rw [hx1]
      congr 1
      apply List.ext_getElem (by rw [List.length_map, List.length_map, hlz])
      intro i h1 h2
      rw [List.length_map] at h1 h2
      rw [List.getElem_map, List.getElem_map]
      exact (hat i h2).2.1
/-- The texts of parts of little bulk are short. -/
theorem parts_small {H : Type} {d : DataW H} {ds : List (DataW H)} {l : List Pt} (h : d = .nil ∧ l = [] ∨ ∃ r, d = .slice (l.map dPt) r) (hk : Rows.uptoBulkAll (d :: ds) ≤ 1048576) : ∀ x ∈ l, x.s.size ≤ 1048576 := by
  rcases h with ⟨_, rfl⟩ | ⟨r, rfl⟩
  · exact fun x hx => by cases hx
  · simp only [Rows.uptoBulkAll, Rows.uptoBulk] at hk
    have h1 : Rows.uptoBulkAll (l.map (dPt (H := H))) ≤ 1048576 := by omega
    clear hk
    induction l with
    | nil => exact fun x hx => by cases hx
    | cons y l ih =>
      simp only [List.map_cons, Rows.uptoBulkAll] at h1
      have e : y.s.data.toList.length = y.s.size := rfl
      have e2 : y.s.size ≤ Rows.uptoBulk (dPt (H := H) y) := by simp only [dPt, Rows.uptoBulk, Rows.uptoBulkAll]; omega
      intro x hx
      rcases List.mem_cons.1 hx with rfl | hx
      · omega
      · exact ih (by omega) x hx
end Go.Proofs.Ytfheedpoaomfeaa
