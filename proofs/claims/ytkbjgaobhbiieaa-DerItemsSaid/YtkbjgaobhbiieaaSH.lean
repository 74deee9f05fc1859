/- A law's arguments of chapter 14: texts, bytes, a certificate. -/
import Derived.Test.YtkbjgaobhbiieaaMC
import Derived.ChangeSlices
import Derived.SliceStrings
import Derived.Deep.Strs
namespace Go.Proofs.Ytkbjgaobhbiieaa
open Go.RowKit
theorem okCell_lt {P : Program} {W : World} {base : Nat} {t e : TypeId} {a : Addr} {len cap : Nat} (hu : P.underlying t = some (.slice e)) (h : Cell.okWide P W .any base t (.slice (some a) len cap)) : a.block < W.heap.size := by
  simp only [Cell.okWide, hu, Cell.ok] at h
  obtain ⟨_, _, _, _, row, cells, hs, _⟩ := h
  rcases Nat.lt_or_ge a.block W.heap.size with h1 | h1
  · exact h1
  · simp [World.shape?, Array.getElem?_eq_none h1] at hs
theorem rs_nil {α : Type} (f : α → List Value) (z : Nat) (W : World) : RS z none 0 0 (([] : List α).map f) W := ⟨rfl, (fun x hx => by cases hx), fun _ => ⟨rfl, rfl⟩, Nat.le_refl _, by decide, (fun a e => by cases e), (fun a e => by cases e)⟩
theorem texts_cells {H : Type} {enc : TypeId × Value → H} {W : World} {fuel : Nat} {cs : List Value} {x : DataW H × List MemPlace} {len cap : Nat} {a : Option Addr} (hcs : cs = [.slice a len cap]) (hlt : ∀ b, a = some b → b.block < W.heap.size)
    (hf : DataW.trod enc Try.prog W 0 (fun _ => true) true fuel 42 cs = some x) : ∃ l : List ByteArray, RS 1 a len cap (l.map encS) W := by
  rcases ChangeShapes.open_strings Try.underlying42 Try.underlying9 (by kernel_rfl) hf with ⟨hc, _⟩ | ⟨a', len', cap', ss, hc, _, hl, hm, hz, _, hcell, _⟩
  · rw [hcs] at hc
    injection hc with e1 _
    injection e1 with e1 e3 e4
    subst e1 e3 e4
    exact ⟨[], rs_nil encS _ _⟩
  · rw [hcs] at hc
    injection hc with e1 _
    injection e1 with e1 e3 e4
    subst e1 e3 e4
    simp only [if_true] at hz
    refine ⟨ss.take len, by simp; omega, fun x hx => ?_, (fun e => by cases e), hl, by unfold maxLen at hm; omega, fun b hb i hi j u hu => ?_, fun b e => hlt b e⟩
    · obtain ⟨y, _, rfl⟩ := List.mem_map.1 hx
      exact ⟨rfl, fun u hu => by unfold encS at hu; rw [List.mem_singleton.1 hu]; rfl⟩
    · cases hb
      have hi2 : i < (ss.take len).length := by rwa [List.length_map] at hi
      have hi3 : i < len := by rw [List.length_take] at hi2; omega
      rw [List.getElem_map] at hu
      have hj : j = 0 := by
        rcases Nat.lt_or_ge j 1 with h | h
        · omega
        · rw [List.getElem?_eq_none (by simpa [encS] using h)] at hu; cases hu
      subst hj
      have := hcell i (by omega)
      rw [Nat.mul_one, Nat.add_zero, this, ← hu]
      show some (Value.string _) = some (Value.string _)
      rw [List.getElem_take, List.getD_eq_getElem?_getD, List.getElem?_eq_getElem (by omega)]
      rfl
theorem texts_of {H : Type} {enc : TypeId × Value → H} {W : World} {base : Nat} {v : Value} {d : DataW H} {ps : List MemPlace}
    (h1 : Value.okWide Try.prog W .any base 42 v) (h : DataW.Trod enc Try.prog W 0 (fun _ => true) true 42 v d ps) : ∃ (p : Option Addr) (n cap : Nat) (l : List ByteArray), v = .slice p n cap ∧ RS 1 p n cap (l.map encS) W := by
  obtain ⟨a0, len, cap, rfl⟩ := WideShapes.okWide_slice Try.underlying42 h1
  obtain ⟨fuel, hf⟩ := h
  obtain ⟨l, hl⟩ := texts_cells (a := a0) (len := len) (cap := cap) rfl (fun b e => by subst e; exact okCell_lt Try.underlying42 (by simpa only [Value.okWide, Try.underlying42] using h1)) hf
  exact ⟨a0, len, cap, l, rfl, hl⟩
theorem bytes_of {H : Type} {enc : TypeId × Value → H} {W : World} {base : Nat} {v : Value} {d : DataW H} {ps : List MemPlace}
    (h1 : Value.okWide Try.prog W .any base 43 v) (h : DataW.Trod enc Try.prog W 0 (fun _ => true) true 43 v d ps) : ∃ (p : Option Addr) (n cap : Nat) (tags : List Nat), v = .slice p n cap ∧ RS 1 p n cap (tags.map encU) W ∧ ∀ g ∈ tags, g < 256 := by
  obtain ⟨a0, len, cap, rfl⟩ := WideShapes.okWide_slice Try.underlying43 h1
  obtain ⟨fuel, hf⟩ := h
  rcases ChangeShapes.open_ints Try.underlying43 Try.underlying5 (by kernel_rfl) hf with ⟨hcs, hx⟩ | ⟨a, len', cap', zs, hcs, _, hl, hm, hz, hx, hcell, hws⟩
  · injection hcs with e1 e2
    injection e1 with e1 e3 e4
    subst e1 e3 e4
    exact ⟨none, 0, 0, [], rfl, rs_nil encU _ _, fun g hg => by cases hg⟩
  · injection hcs with e1 e2
    injection e1 with e1 e3 e4
    subst e1 e3 e4
    have hlt : a.block < W.heap.size := okCell_lt Try.underlying43 (by simpa only [Value.okWide, Try.underlying43] using h1)
    simp only [if_true] at hz
    have hmem : ∀ x ∈ zs, 0 ≤ x ∧ x < 256 := fun x hx => by
      have := hws _ hx
      simp [Lit.wf, IntKind.min, IntKind.max, IntKind.bits, IntKind.signed] at this
      omega
    refine ⟨some a, len, cap, (zs.take len).map Int.toNat, rfl, ⟨by simp; omega, fun x hx => ?_, (fun e => by cases e), hl, by unfold maxLen at hm; omega, fun b hb i hi j u hu => ?_, fun b e => by cases e; exact hlt⟩, fun g hg => ?_⟩
    · obtain ⟨y, _, rfl⟩ := List.mem_map.1 hx
      exact ⟨rfl, fun u hu => by unfold encU at hu; rw [List.mem_singleton.1 hu]; rfl⟩
    · cases hb
      have hi3 : i < len := by simp only [List.length_map, List.length_take] at hi; omega
      rw [List.getElem_map, List.getElem_map, List.getElem_take] at hu
      have hj : j = 0 := by
        rcases Nat.lt_or_ge j 1 with h | h
        · omega
        · rw [List.getElem?_eq_none (by simpa [encU] using h)] at hu; cases hu
      subst hj
      have := hcell i (by omega)
      rw [Nat.mul_one, Nat.add_zero, this, ← hu]
      have hg := hmem zs[i] (List.getElem_mem _)
      show some (Value.int .u8 _) = some (Value.int .u8 _)
      rw [List.getD_eq_getElem?_getD, List.getElem?_eq_getElem (by omega)]
      show some (Value.int .u8 zs[i]) = some (Value.int .u8 ((zs[i].toNat : Nat) : Int))
      rw [Int.toNat_of_nonneg hg.1]
    · obtain ⟨x, hx, rfl⟩ := List.mem_map.1 hg
      have := hmem x (List.mem_of_mem_take hx)
      omega
set_option maxRecDepth 100000 in
theorem cert_of {H : Type} {enc : TypeId × Value → H} {W : World} {base : Nat} {v : Value} {d : DataW H} {ps : List MemPlace}
    (h1 : Value.okWide Try.prog W .any base 47 v) (h : DataW.Trod enc Try.prog W 0 (fun _ => true) true 47 v d ps) :
    ∃ (name key : ByteArray) (b : Bool) (p : Option Addr) (n cap : Nat) (l : List ByteArray) (po : Int), v = .agg #[.string name, .string key, .bool b, .slice p n cap, .int .i64 po] ∧ RS 1 p n cap (l.map fun s => [Value.string s]) W := by
  obtain ⟨fuel, hf⟩ := h
  unfold Value.okWide at h1
  rw [Try.underlying47] at h1
  obtain ⟨cs, rfl, hsz, hrow⟩ := h1
  obtain ⟨xs, n, _, _, hl, hlen, hf2⟩ := DataW.trod_struct Try.underlying47 hf
  rw [show Try.prog.cellsOf 47 = 5 by kernel_rfl] at hl
  obtain ⟨ts, hts, _, hcell⟩ := hrow
  have hts2 : Try.prog.cellTypes Try.prog.depth 47 = some [9, 9, 4, 42, 3] := by kernel_rfl
  rw [hts2] at hts
  injection hts with hts
  subst hts
  match xs, cs, hlen, hl, hcell, hf2 with
  | [y0, y1, y2, y3, y4], ⟨[c0, c1, c2, c3, c4]⟩, _, _, hcell, hf2 =>
    have i1 : Try.prog.cellsOf 3 = 1 := by kernel_rfl
    have s1 : Try.prog.cellsOf 9 = 1 := by kernel_rfl
    have b1 : Try.prog.cellsOf 4 = 1 := by kernel_rfl
    have l1 : Try.prog.cellsOf 42 = 1 := by kernel_rfl
    have h0 : DataW.trod enc Try.prog W 0 (fun _ => true) true n 9 (([c0, c1, c2, c3, c4].drop 0).take (Try.prog.cellsOf 9)) = some y0 := hf2 0 _ rfl
    have h1 : DataW.trod enc Try.prog W 0 (fun _ => true) true n 9 (([c0, c1, c2, c3, c4].drop 1).take (Try.prog.cellsOf 9)) = some y1 := hf2 1 _ rfl
    have h2 : DataW.trod enc Try.prog W 0 (fun _ => true) true n 4 (([c0, c1, c2, c3, c4].drop 2).take (Try.prog.cellsOf 4)) = some y2 := hf2 2 _ rfl
    have h3 : DataW.trod enc Try.prog W 0 (fun _ => true) true n 42 (([c0, c1, c2, c3, c4].drop 3).take (Try.prog.cellsOf 42)) = some y3 := hf2 3 _ rfl
    have h4 : DataW.trod enc Try.prog W 0 (fun _ => true) true n 3 (([c0, c1, c2, c3, c4].drop 4).take (Try.prog.cellsOf 3)) = some y4 := hf2 4 _ rfl
    rw [i1] at h4
    rw [s1] at h0 h1
    rw [b1] at h2
    rw [l1] at h3
    obtain ⟨s0, e0, rfl, w0⟩ := DataW.trod_string Try.underlying9 h0
    obtain ⟨s1, e1, rfl, w1⟩ := DataW.trod_string Try.underlying9 h1
    obtain ⟨b, e2, rfl⟩ := DataW.trod_bool Try.underlying4 h2
    obtain ⟨po, e4, rfl, w4⟩ := DataW.trod_int Try.underlying3 h4
    have h3 : DataW.trod enc Try.prog W 0 (fun _ => true) true n 42 [c3] = some y3 := h3
    obtain ⟨u, hu, hok⟩ := hcell 3 c3 rfl
    have hu : some 42 = some u := hu
    injection hu with hu
    subst hu
    simp at e0 e1 e2 e4
    subst e0 e1 e2 e4
    have hsl : ∃ a len cap, c3 = .slice a len cap := by
      rcases ChangeShapes.open_strings Try.underlying42 Try.underlying9 (by kernel_rfl) h3 with ⟨hc, _⟩ | ⟨a', len', cap', ss, hc, _⟩
      · injection hc with hc _; exact ⟨_, _, _, hc⟩
      · injection hc with hc _; exact ⟨_, _, _, hc⟩
    obtain ⟨a, len, cap, rfl⟩ := hsl
    obtain ⟨l, hl⟩ := texts_cells (a := a) (len := len) (cap := cap) rfl (fun b e => by subst e; exact okCell_lt Try.underlying42 hok) h3
    exact ⟨s0, s1, b, a, len, cap, l, po, rfl, hl⟩
end Go.Proofs.Ytkbjgaobhbiieaa
