/- The bytes of a text as cells of a slice ([]byte of it), and back. -/
import Derived.Test.YtdekapkdgbmjbaaTxt
import Derived.Lib.ConvBytes
namespace Go.Proofs.Ytdekapkdgbmjbaa
open Go.RowKit
theorem asBytes_len (l : List (BitVec 8)) : (asBytes l).length = l.length := by simp [asBytes]
/-- The first N cells. -/
structure ClY (N : Nat) (f : Nat → Nat) (g : Nat) (wr : World) : Prop where
  c : ∀ j, j < N → wr.cell? ⟨g, j, none⟩ = some (.int .u8 (f j : Int))
  fz : ∀ j, j < N → wr.frozen? ⟨g, j, none⟩ = false
  lt : g < wr.heap.size
theorem ClY.drew {N : Nat} {f : Nat → Nat} {g : Nat} {wr : World} (h : ClY N f g wr) : ClY N f g wr.drew := ⟨h.c, h.fz, h.lt⟩
theorem ClY.below {N : Nat} {f : Nat → Nat} {g : Nat} {wr w' : World} (h : ClY N f g wr) (hb : Below wr.heap.size wr w') : ClY N f g w' :=
  ⟨fun j hj => (hb.cell (p := ⟨g, j, none⟩) h.lt).trans (h.c j hj), fun j hj => (hb.frozen (p := ⟨g, j, none⟩) h.lt).trans (h.fz j hj), Nat.lt_of_lt_of_le h.lt hb.size⟩
theorem ClY.put {N : Nat} {f : Nat → Nat} {g : Nat} {wr : World} (h : ClY N f g wr) (k : Nat) (v : Nat) : ClY N (fun j => if j = k then v else f j) g (wr.setCell ⟨g, k, none⟩ (.int .u8 (v : Int))) :=
  ⟨fun j hj => by
    by_cases h1 : j = k
    · subst h1; simp only [if_true]; exact World.cell?_setCell_same _ _ _ (h.c j hj)
    · have hne : (⟨g, k, none⟩ : Addr) ≠ ⟨g, j, none⟩ := by intro hh; injection hh with _ h2; exact h1 h2.symm
      rw [if_neg h1, World.cell?_setCell_other _ _ _ _ hne]; exact h.c j hj,
   fun j hj => (World.frozen?_setCell _ _ _ _).trans (h.fz j hj), by simp [World.setCell]; exact h.lt⟩
theorem ClY.cast {N : Nat} {f f' : Nat → Nat} {g : Nat} {wr : World} (h : ClY N f g wr) (e : f = f') : ClY N f' g wr := e ▸ h
theorem bytesN_start {N : Nat} (s : ByteArray) (w : World) (h : s.size = N) : ∃ cap W1, (convert 9 29 (.string s)).run Try.prog w = .ok (.slice (some ⟨w.heap.size, 0, none⟩) N cap) W1 ∧ ClY N (byteS s) w.heap.size W1 ∧ Below w.heap.size w W1 := by
  refine ⟨_, _, (Lib.run_convert_string_bytes w _ _ 5 s Try.underlying9 Try.underlying29 Try.underlying5).trans (by rw [h]), ?_⟩
  have hsz : ∀ j, j < N → j < (Lib.bytesCells w 5 s).size := fun j hj => by
    unfold Lib.bytesCells; rw [Array.size_append, Array.size_map]
    have : s.data.size = N := h
    omega
  refine ⟨⟨fun j hj => ?_, fun j hj => ?_, by rw [Lib.bytesWorld_size]; omega⟩, ⟨rfl, rfl, rfl, by rw [Lib.bytesWorld_size]; omega, fun k hk => Lib.bytesWorld_at_old _ _ _ _ hk⟩⟩
  · rw [Lib.bytesWorld_cell _ _ _ _ (by omega)]
    rw [← byteS_at s j (by omega)]
    congr 3
    rw [List.getD_eq_getElem?_getD, List.getElem?_eq_getElem (by simpa using (show j < s.size by omega))]
    rfl
  · have := hsz j hj
    simp [World.frozen?, Lib.bytesWorld_at_new]
    omega
theorem bytesN_end {N : Nat} {f : Nat → Nat} {g : Nat} {wr : World} (h : ClY N f g wr) (hf : ∀ j, f j < 256) (cap : Nat) : (convert 29 9 (.slice (some ⟨g, 0, none⟩) N cap)).run Try.prog wr = .ok (.string (textN N f)) wr := by
  have hl : (asBytes ((List.range N).map fun i => BitVec.ofNat 8 (f i))).length = N := by rw [asBytes_len]; simp
  have := run_convert_bytes_back (P := Try.prog) wr 29 9 5 ⟨g, 0, none⟩ cap (asBytes ((List.range N).map fun i => BitVec.ofNat 8 (f i))) Try.underlying29 Try.underlying5 Try.underlying9 (fun j hj => by
    rw [hl] at hj
    rw [addr_add, Nat.zero_add, h.c j hj]
    congr 2
    have hb := hf j
    simp only [asBytes, List.getElem_map, List.getElem_range]
    show (f j : Int) = ((BitVec.ofNat 8 (f j)).toNat : Int)
    rw [BitVec.toNat_ofNat, Nat.mod_eq_of_lt (show f j < 2 ^ 8 by omega)])
  rwa [hl] at this
end Go.Proofs.Ytdekapkdgbmjbaa
