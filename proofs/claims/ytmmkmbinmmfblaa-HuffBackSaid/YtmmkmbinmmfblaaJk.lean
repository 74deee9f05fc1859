/- Nodes in slices: cut in front, added behind. -/
import Derived.Test.YtmmkmbinmmfblaaJi
import Derived.Test.YtmmkmbinmmfblaaMC
import Derived.Test.YtmmkmbinmmfblaaMA
import Derived.Laws.OwnMore
namespace Go.Proofs.Ytmmkmbinmmfblaa
open Go.RowKit
def cellsK (l : List Kd) : List Value := l.flatMap encK
theorem cellsK_len (l : List Kd) : (cellsK l).length = l.length * 2 := by
  induction l with
  | nil => rfl
  | cons x l ih => show (_ ++ cellsK l).length = _; rw [List.length_append, ih]; simp [encK]; omega
theorem cellsK_app (l m : List Kd) : cellsK (l ++ m) = cellsK l ++ cellsK m := by simp [cellsK]
theorem cellsK_cons (x : Kd) (l : List Kd) : cellsK (x :: l) = .int .i64 (x.1 : Int) :: .int .i64 (x.2 : Int) :: cellsK l := rfl
theorem cellsK_one (l : List Kd) : ∀ u ∈ cellsK l, u.oneCell' = true := fun u hu => by
  obtain ⟨y, _, h2⟩ := List.mem_flatMap.1 hu
  simp only [encK, List.mem_cons, List.not_mem_nil, or_false] at h2
  rcases h2 with rfl | rfl <;> rfl
/-- A slice of nodes that may be written behind. -/
structure QN (B : Nat) (l : List Kd) (ao : Option Addr) (cap : Nat) (w : World) : Prop where
  le : l.length ≤ cap
  mx : cap ≤ 9223372036854775807
  nil_ : ao = none → cap = 0
  at_ : 0 < cap → ∃ g off, ao = some ⟨g, off, none⟩ ∧ B ≤ g ∧ g < w.heap.size ∧ (∀ j, j < cap * 2 → (w.cell? ⟨g, off + j, none⟩).isSome = true ∧ w.frozen? ⟨g, off + j, none⟩ = false) ∧ ∀ j u, (cellsK l)[j]? = some u → w.cell? ⟨g, off + j, none⟩ = some u
/-- It does not lie in the block g. -/
def noB (ao : Option Addr) (cap g : Nat) : Prop := 0 < cap → ∀ a, ao = some a → a.block ≠ g
theorem QN.none_ (B : Nat) (w : World) : QN B [] none 0 w := ⟨Nat.le_refl _, by omega, fun _ => rfl, fun h => by omega⟩
theorem QN.keep {B : Nat} {l : List Kd} {ao : Option Addr} {cap : Nat} {w w' : World} (h : QN B l ao cap w) (hz : w.heap.size ≤ w'.heap.size) (hk : ∀ a, 0 < cap → ao = some a → a.block < w.heap.size → w'.heap[a.block]? = w.heap[a.block]?) : QN B l ao cap w' :=
  ⟨h.le, h.mx, h.nil_, fun h0 => by
    obtain ⟨g, off, h1, h2, h3, h4, h5⟩ := h.at_ h0
    have hb := hk _ h0 h1 h3
    refine ⟨g, off, h1, h2, Nat.lt_of_lt_of_le h3 hz, fun j hj => ?_, fun j u hu => ?_⟩
    · rw [World.cell?_of_block (a := ⟨g, off + j, none⟩) hb, World.frozen?_of_block (a := ⟨g, off + j, none⟩) hb]; exact h4 j hj
    · rw [World.cell?_of_block (a := ⟨g, off + j, none⟩) hb]; exact h5 j u hu⟩
theorem QN.below {B : Nat} {l : List Kd} {ao : Option Addr} {cap : Nat} {w w' : World} (h : QN B l ao cap w) (hb : Below w.heap.size w w') : QN B l ao cap w' :=
  h.keep hb.size fun a _ _ hl => hb.block a.block hl
theorem QN.grown {B : Nat} {l : List Kd} {ao : Option Addr} {cap : Nat} {w w' : World} {g : Nat} (h : QN B l ao cap w) (hg : w.grownBy w' (some g)) (hn : noB ao cap g) : QN B l ao cap w' :=
  h.keep hg.size fun a h0 ha hl => hg.block a.block hl fun e => hn h0 a ha (Option.some.inj e)
theorem QN.mono {B B' : Nat} {l : List Kd} {ao : Option Addr} {cap : Nat} {w : World} (h : QN B l ao cap w) (hb : B' ≤ B) : QN B' l ao cap w :=
  ⟨h.le, h.mx, h.nil_, fun h0 => by
    obtain ⟨g, off, h1, h2, h3⟩ := h.at_ h0
    exact ⟨g, off, h1, Nat.le_trans hb h2, h3⟩⟩
/-- The first node. -/
theorem QN.head {B : Nat} {x : Kd} {l : List Kd} {ao : Option Addr} {cap : Nat} {w : World} (h : QN B (x :: l) ao cap w) : ∃ g off, ao = some ⟨g, off, none⟩ ∧ w.cell? ⟨g, off, none⟩ = some (.int .i64 (x.1 : Int)) ∧ w.cell? ⟨g, off + 1, none⟩ = some (.int .i64 (x.2 : Int)) := by
  have := h.le
  obtain ⟨g, off, h1, _, _, _, h5⟩ := h.at_ (by simp at this; omega)
  exact ⟨g, off, h1, h5 0 _ rfl, h5 1 _ rfl⟩
/-- Where the slice without the first node begins. -/
def cutA (ao : Option Addr) (cap : Nat) : Option Addr := if cap = 1 then ao else ao.map fun a => a.add 2
theorem QN.tail {B : Nat} {x : Kd} {l : List Kd} {ao : Option Addr} {cap : Nat} {w : World} (h : QN B (x :: l) ao cap w) : QN B l (cutA ao cap) (cap - 1) w := by
  have hle := h.le
  have hmx := h.mx
  simp only [List.length_cons] at hle
  obtain ⟨g, off, h1, h2, h3, h4, h5⟩ := h.at_ (by omega)
  refine ⟨by omega, by omega, fun e => ?_, fun h0 => ⟨g, off + 2, ?_, h2, h3, fun j hj => ?_, fun j u hu => ?_⟩⟩
  · unfold cutA at e
    split at e
    · omega
    · rw [h1] at e; cases e
  · unfold cutA
    rw [if_neg (by omega), h1]
    show some (Addr.add _ 2) = _
    rw [addr_add]
  · rw [Nat.add_assoc]; exact h4 (2 + j) (by omega)
  · rw [Nat.add_assoc]
    refine h5 (2 + j) u ?_
    rw [cellsK_cons, Nat.add_comm 2 j]
    exact hu
theorem noB.cut {ao : Option Addr} {cap g : Nat} (h : noB ao cap g) : noB (cutA ao cap) (cap - 1) g := fun h0 a ha => by
  unfold cutA at ha
  rw [if_neg (by omega)] at ha
  cases ao with
  | none => cases ha
  | some b =>
    have e : b.add 2 = a := Option.some.inj ha
    rw [← e]
    have : (b.add 2).block = b.block := by unfold Addr.add; split <;> rfl
    rw [this]
    exact h (by omega) b rfl
theorem node_infoK : (Try.prog.info? 75).map (fun i => (i.zero, i.size, i.bytes)) = some (some (.agg #[.int .i64 0, .int .i64 0]), 2, 16) := by kernel_rfl
/-- One node more: the room that is left, or new memory. -/
theorem run_oneK {B : Nat} {l : List Kd} {ao : Option Addr} {cap : Nat} {w : World} (h : QN B l ao cap w) (hB : B ≤ w.heap.size) (hn : l.length ≤ 100000) (ty : TypeId) (x : Kd) (ad : Addr) (c : Nat) (hc : ∀ j u, (encK x)[j]? = some u → w.cell? (ad.add j) = some u) :
    ∃ ao' cap' w', (Builtin.append_ #[70, 70] ty #[.slice ao l.length cap, .slice (some ad) 1 c]).run Try.prog w = .ok (.slice ao' (l.length + 1) cap') w' ∧ QN B (l ++ [x]) ao' cap' w' ∧
      ((∃ g off, ao = some ⟨g, off, none⟩ ∧ 0 < cap ∧ ao' = ao ∧ cap' = cap ∧ w.grownBy w' (some g)) ∨ (w.grownBy w' none ∧ ∃ g off, ao' = some ⟨g, off, none⟩ ∧ w.heap.size ≤ g)) := by
  obtain ⟨i0, hi, hz0, hz1, hz2⟩ := info_parts node_infoK
  have hle := h.le
  have hmx := h.mx
  have h1c : ∀ u ∈ encK x, u.oneCell' = true := fun u hu => by
    simp only [encK, List.mem_cons, List.not_mem_nil, or_false] at hu
    rcases hu with rfl | rfl <;> rfl
  have ex1 : cellsK [x] = encK x := by simp [cellsK]
  have hnew : ∀ j u, (cellsK (l ++ [x]))[j]? = some u → (j < l.length * 2 ∧ (cellsK l)[j]? = some u) ∨ (l.length * 2 ≤ j ∧ (encK x)[j - l.length * 2]? = some u) := fun j u hu => by
    rw [cellsK_app, ex1] at hu
    rcases Nat.lt_or_ge j (l.length * 2) with hj | hj
    · rw [List.getElem?_append_left (by rw [cellsK_len]; exact hj)] at hu; exact .inl ⟨hj, hu⟩
    · rw [List.getElem?_append_right (by rw [cellsK_len]; exact hj), cellsK_len] at hu; exact .inr ⟨hj, hu⟩
  have grow : ∀ v' w', (Builtin.append_ #[70, 70] ty #[.slice ao l.length cap, .slice (some ad) 1 c]).run Try.prog w = .ok v' w' → w'.ownsRow w.heap.size 75 2 v' (l.length + 1) (cellsK l ++ encK x) → w.grownBy w' none →
      ∃ ao' cap' w', (Builtin.append_ #[70, 70] ty #[.slice ao l.length cap, .slice (some ad) 1 c]).run Try.prog w = .ok (.slice ao' (l.length + 1) cap') w' ∧ QN B (l ++ [x]) ao' cap' w' ∧
      ((∃ g off, ao = some ⟨g, off, none⟩ ∧ 0 < cap ∧ ao' = ao ∧ cap' = cap ∧ w.grownBy w' (some g)) ∨ (w.grownBy w' none ∧ ∃ g off, ao' = some ⟨g, off, none⟩ ∧ w.heap.size ≤ g)) := fun v' w' hr ho hg => by
    rcases ho.2 with ⟨_, h0⟩ | ⟨g, cap', cur, hv, hb, hblk, hlc, hcm, hsz, htk⟩
    · omega
    · subst hv
      have hgl : g < w'.heap.size := by
        rcases Nat.lt_or_ge g w'.heap.size with h2 | h2
        · exact h2
        · rw [Array.getElem?_eq_none h2] at hblk; cases hblk
      have hcell : ∀ j, w'.cell? ⟨g, 0 + j, none⟩ = cur[j]? := fun j => by rw [Nat.zero_add]; exact cell_of_row w' g j cur _ (0, 0) hblk
      refine ⟨_, cap', w', hr, ⟨by simpa using hlc, by unfold maxLen at hcm; omega, (fun e => by cases e), fun _ => ⟨g, 0, rfl, Nat.le_trans hB hb, hgl, fun j hj => ⟨?_, ?_⟩, fun j u hu => ?_⟩⟩, .inr ⟨hg, g, 0, rfl, hb⟩⟩
      · rw [hcell, Array.getElem?_eq_getElem (by omega)]; rfl
      · exact frozen_of_row w' g (0 + j) cur _ hblk
      · rw [hcell]
        have h3 : (cur.toList.take ((l.length + 1) * 2))[j]? = some u := by rw [htk, ← ex1, ← cellsK_app]; exact hu
        have h4 := (List.getElem?_eq_some_iff.1 h3).1
        rw [List.length_take] at h4
        rw [List.getElem?_take, if_pos (by omega)] at h3
        simpa using h3
  rcases Nat.lt_or_ge l.length cap with hroom | hfull
  · obtain ⟨g, off, rfl, hBg, hgl, hsp, hcl⟩ := h.at_ (by omega)
    have hrun := run_append_room_cells (P := Try.prog) w 70 ty 75 i0 Try.underlying70 hi g off l.length cap ad 1 c (encK x) (by rw [hz1]; rfl) hc h1c (by omega)
      (fun j hj => by
        have hj2 : j < 2 := hj
        rw [hz1, Nat.add_assoc]; exact (hsp (l.length * 2 + j) (by omega)).1)
      (fun j hj => by
        have hj2 : j < 2 := hj
        rw [hz1, Nat.add_assoc]; exact (hsp (l.length * 2 + j) (by omega)).2)
    rw [hz1] at hrun
    refine ⟨_, _, _, hrun, ⟨by simp; omega, hmx, (fun e => by cases e), fun _ => ⟨g, off, rfl, hBg, ?_, fun j hj => ⟨?_, ?_⟩, fun j u hu => ?_⟩⟩, .inl ⟨g, off, rfl, by omega, rfl, rfl, ?_⟩⟩
    · simp [World.setCells, encK, World.setCell]; exact hgl
    · by_cases h3 : j < l.length * 2
      · rw [World.cell?_setCells_out _ _ _ _ _ (fun _ _ => .inl (by show off + j < _; omega))]; exact (hsp j hj).1
      · by_cases h4 : j < l.length * 2 + 2
        · have := World.cell?_setCells_in g (encK x) (off + l.length * 2) w (fun k hk => by
            have hk2 : k < 2 := hk
            rw [Nat.add_assoc]; exact (hsp (l.length * 2 + k) (by omega)).1) (j - l.length * 2) (by show _ < 2; omega)
          rw [show off + l.length * 2 + (j - l.length * 2) = off + j by omega] at this
          rw [this]; rfl
        · rw [World.cell?_setCells_out _ _ _ _ _ (fun _ _ => .inr (by show _ + 2 ≤ off + j; omega))]; exact (hsp j hj).1
    · rw [World.frozen?_setCells]; exact (hsp j hj).2
    · rcases hnew j u hu with ⟨h3, h4⟩ | ⟨h3, h4⟩
      · rw [World.cell?_setCells_out _ _ _ _ _ (fun _ _ => .inl (by show off + j < _; omega))]; exact hcl j u h4
      · have h5 := (List.getElem?_eq_some_iff.1 h4)
        obtain ⟨h6, h7⟩ := h5
        have := World.cell?_setCells_in g (encK x) (off + l.length * 2) w (fun k hk => by
            have hk2 : k < 2 := hk
            rw [Nat.add_assoc]; exact (hsp (l.length * 2 + k) (by omega)).1) (j - l.length * 2) h6
        rw [show off + l.length * 2 + (j - l.length * 2) = off + j by omega, h7] at this
        exact this
    · show w.grownBy ((w.setCell ⟨g, off + l.length * 2, none⟩ _).setCell ⟨g, off + l.length * 2 + 1, none⟩ _) (some g)
      refine ⟨rfl, rfl, rfl, by simp [World.setCell], fun k hk hne => ?_⟩
      rw [Below.heap_setCell _ _ _ _ (fun e => hne (congrArg some e)), Below.heap_setCell _ _ _ _ (fun e => hne (congrArg some e))]
  · have hcl : cap = l.length := by omega
    rcases Nat.eq_zero_or_pos cap with h0 | h0
    · have hl0 : l = [] := List.eq_nil_of_length_eq_zero (by omega)
      cases ao with
      | none =>
        obtain ⟨v', w', hrun, r1, r2, _⟩ := run_append_own (P := Try.prog) w w.heap.size 70 ty 75 i0 (.agg #[.int .i64 0, .int .i64 0]) 2 16 Try.underlying70 hi hz0 hz1 hz2 rfl (by decide) (.slice none 0 0) 0 [] (World.ownsRow_nil w _ _ 2) ad 1 c (encK x) rfl hc h1c (by unfold maxLen; omega) (by omega) (Nat.le_refl _)
        subst hl0
        obtain rfl := h0
        exact grow v' w' hrun r1 r2
      | some b =>
        subst hl0
        obtain ⟨v', w', hrun, r1, r2⟩ := run_append_arg_grows (P := Try.prog) w 70 ty 75 i0 (.agg #[.int .i64 0, .int .i64 0]) 2 16 Try.underlying70 hi hz0 hz1 hz2 rfl (by decide) b 0 cap [] rfl (by intro _ _ hh; simp at hh) ad 1 c (encK x) rfl hc (by omega) (by unfold maxLen; omega) (by omega)
        exact grow v' w' hrun r1 r2
    · obtain ⟨g, off, rfl, hBg, hgl, hsp, hcl2⟩ := h.at_ h0
      obtain ⟨v', w', hrun, r1, r2⟩ := run_append_arg_grows (P := Try.prog) w 70 ty 75 i0 (.agg #[.int .i64 0, .int .i64 0]) 2 16 Try.underlying70 hi hz0 hz1 hz2 rfl (by decide) ⟨g, off, none⟩ l.length cap (cellsK l) (cellsK_len l) (fun j u hu => by rw [addr_add]; exact hcl2 j u hu) ad 1 c (encK x) rfl hc (by omega) (by unfold maxLen; omega) (by omega)
      exact grow v' w' hrun r1 r2
end Go.Proofs.Ytmmkmbinmmfblaa
