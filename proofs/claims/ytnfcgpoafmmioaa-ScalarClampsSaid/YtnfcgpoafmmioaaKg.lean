/- Clamp of the document's answer; Bit of any number. -/
import Derived.Test.YtnfcgpoafmmioaaKf
import Derived.Lib.ConvBytes
import Derived.Laws.IdiomStrings
namespace Go.Proofs.Ytnfcgpoafmmioaa
open Go.RowKit
/-- The bytes that Clamp answers. -/
def clampB (s : ByteArray) (j : Nat) : Nat := if j = 31 then byteS s 31 % 64 + 64 else if j = 0 then byteS s 0 / 8 * 8 else byteS s j
def clampL (s : ByteArray) : List UInt8 := (List.range 32).map fun j => UInt8.ofNat (clampB s j)
def clampV (s : ByteArray) : ByteArray × Bool := if s.size = 32 then (⟨(clampL s).toArray⟩, true) else (⟨#[]⟩, false)
theorem clampB_lt (s : ByteArray) (j : Nat) : clampB s j < 256 := by
  unfold clampB
  have h0 := byteS_lt s 0
  have h1 := byteS_lt s j
  split
  · omega
  · split <;> omega
/-- Bytes in a block whose row is a conversion's. -/
structure ClW (f : Nat → Int) (g : Nat) (w wr : World) : Prop where
  c : ∀ j, j < 32 → wr.cell? ⟨g, j, none⟩ = some (.int .u8 (f j))
  fz : ∀ j, j < 32 → wr.frozen? ⟨g, j, none⟩ = false
  b : Below w.heap.size w wr
  ge : w.heap.size ≤ g
theorem ClW.put {f : Nat → Int} {g : Nat} {w wr : World} (h : ClW f g w wr) {k : Nat} (hk : k < 32) (v : Int) : ClW (fun j => if j = k then v else f j) g w (wr.setCell ⟨g, k, none⟩ (.int .u8 v)) :=
  ⟨fun j hj => by
    by_cases h1 : j = k
    · subst h1; simp only [if_true]; exact World.cell?_setCell_same _ _ _ (h.c j hj)
    · have hne : (⟨g, k, none⟩ : Addr) ≠ ⟨g, j, none⟩ := by intro hh; injection hh with _ h2; exact h1 h2.symm
      rw [if_neg h1, World.cell?_setCell_other _ _ _ _ hne]; exact h.c j hj,
   fun j hj => (World.frozen?_setCell _ _ _ _).trans (h.fz j hj), h.b.setCell h.ge _, h.ge⟩
theorem conv_start (s : ByteArray) (w : World) (h : s.size = 32) : ∃ cap W1, (convert 9 34 (.string s)).run Try.prog w = .ok (.slice (some ⟨w.heap.size, 0, none⟩) 32 cap) W1 ∧ ClW (fun j => (byteS s j : Int)) w.heap.size w W1 := by
  refine ⟨_, _, (Lib.run_convert_string_bytes w _ _ 5 s Try.underlying9 Try.underlying34 Try.underlying5).trans (by rw [h]), ?_⟩
  have hsz : ∀ j, j < 32 → j < (Lib.bytesCells w 5 s).size := fun j hj => by
    unfold Lib.bytesCells; rw [Array.size_append, Array.size_map]
    have : s.data.size = 32 := h
    omega
  refine ⟨fun j hj => ?_, fun j hj => ?_, ⟨rfl, rfl, rfl, by rw [Lib.bytesWorld_size]; omega, fun k hk => Lib.bytesWorld_at_old _ _ _ _ hk⟩, Nat.le_refl _⟩
  · rw [Lib.bytesWorld_cell _ _ _ _ (by omega)]
    rw [← byteS_at s j (by omega)]
    congr 3
    rw [List.getD_eq_getElem?_getD, List.getElem?_eq_getElem (by simpa using (show j < s.size by omega))]
    rfl
  · have := hsz j hj
    simp [World.frozen?, Lib.bytesWorld_at_new]
    omega
theorem conv_end {f : Nat → Int} {g : Nat} {w wr : World} (h : ClW f g w wr) (s : ByteArray) (hf : ∀ j, j < 32 → f j = (clampB s j : Int)) (cap : Nat) : (convert 34 9 (.slice (some ⟨g, 0, none⟩) 32 cap)).run Try.prog wr = .ok (.string ⟨(clampL s).toArray⟩) wr := by
  have hl : (clampL s).length = 32 := by unfold clampL; simp
  have := run_convert_bytes_back (P := Try.prog) wr 34 9 5 ⟨g, 0, none⟩ cap (clampL s) Try.underlying34 Try.underlying5 Try.underlying9 (fun j hj => by
    rw [addr_add, Nat.zero_add, h.c j (by omega), hf j (by omega)]
    have hb := clampB_lt s j
    simp [clampL]
    omega)
  rwa [hl] at this
set_option maxRecDepth 100000 in
set_option maxHeartbeats 1000000 in
theorem rclamp_any (s : ByteArray) (w : World) :
    Calls Try.prog 17 #[.string s] w fun e w' => e = .returned (.tuple #[.string (clampV s).1, .bool (clampV s).2]) ∧ Below w.heap.size w w' := by
  by_cases h : s.size = 32
  · have HV : Hid (clampV s = (⟨(clampL s).toArray⟩, true)) := Lib.hid (by unfold clampV; rw [if_pos h])
    have hc : ((s.size : Int) != 32) = false := by rw [h]; rfl
    obtain ⟨cap, W1, hcv, hW⟩ := conv_start s w h
    have c0 := hW.c 0 (by omega)
    have f0 := hW.fz 0 (by omega)
    have hq := byteS_lt s 0
    obtain ⟨q, hqd⟩ : ∃ q, q = byteS s 0 / 8 := ⟨_, rfl⟩
    obtain ⟨r, hrd⟩ : ∃ r, r = byteS s 31 % 64 := ⟨_, rfl⟩
    have hq32 : q < 32 := by omega
    have hr64 : r < 64 := by omega
    have eq1 : (byteS s 0 : Int).tdiv 8 = (q : Int) := by rw [Int.tdiv_eq_ediv_of_nonneg (by omega)]; omega
    have eq2 : (byteS s 31 : Int).tmod 64 = (r : Int) := by rw [Int.tmod_eq_emod_of_nonneg (by omega)]; omega
    have hW2 := hW.put (k := 0) (by omega) ((q : Int) * 8)
    have c31 := hW2.c 31 (by omega)
    have f31 := hW2.fz 31 (by omega)
    have hW3 := hW2.put (k := 31) (by omega) ((r : Int) + 64)
    have hend := conv_end hW3 s (fun j hj => by
      unfold clampB
      by_cases h1 : j = 31
      · rw [if_pos h1, if_pos h1, hrd]; omega
      · rw [if_neg h1, if_neg h1]
        by_cases h2 : j = 0
        · rw [if_pos h2, if_pos h2, hqd]; omega
        · rw [if_neg h2, if_neg h2]) cap
    have hb := hW3.b
    simp only [show ¬ (31 : Nat) = 0 by omega, if_false] at c31
    clear hW hW2 hW3 h hqd hrd hq
    go_enter Try.func17, Try.ntmps17
    go_wp2_with fail
    refine bodyPost_ret (results_tmp2 rfl _ _ _) rfl ⟨?_, hb⟩
    rw [HV.out]; rfl
  · have HV : Hid (clampV s = (⟨#[]⟩, false)) := Lib.hid (by unfold clampV; rw [if_neg h])
    have hc : ((s.size : Int) != 32) = true := by rw [bne_iff_ne]; omega
    clear h
    go_enter Try.func17, Try.ntmps17
    go_wp2_with fail
    refine bodyPost_ret (results_tmp2 rfl _ _ _) rfl ⟨?_, Below.refl _ _⟩
    rw [HV.out]; rfl
end Go.Proofs.Ytnfcgpoafmmioaa
