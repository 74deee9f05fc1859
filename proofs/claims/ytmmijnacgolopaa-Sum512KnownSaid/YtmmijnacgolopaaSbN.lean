/- New, One. -/
import Derived.Test.YtmmijnacgolopaaSbC
namespace Go.Proofs.Ytmmijnacgolopaa
open Go.RowKit
def H0 : Hs := ⟨keysC, firstC, fun _ => litw 8 0, 0⟩
abbrev w64 (f : Nat → BitVec 64) (i : Nat) : Value := .int .u64 (iw (f i))
def nF1 : Nat → Value := over zeroF 80 8 (w64 firstC)
def nF2 : Nat → Value := over nF1 0 80 (w64 keysC)
def NW (w : World) (F : Nat → Value) (w' : World) : Prop := Blk w' w.heap.size 46 (row 217 F) ∧ Below w.heap.size w w'
theorem nF2_eq (i : Nat) (hi : i < 217) : nF2 i = H0.f i := by
  by_cases h1 : i < 80
  · simp [nF2, over, H0, Hs.f, h1]
  · by_cases h2 : i < 88
    · simp [nF2, nF1, over, H0, Hs.f, h1, h2, show 80 ≤ i by omega]
    · by_cases h4 : i < 216
      · simp [nF2, nF1, over, zeroF, H0, Hs.f, h1, h2, h4, iw_zero]
      · simp [nF2, nF1, over, zeroF, H0, Hs.f, h1, h2, h4]
set_option maxRecDepth 100000 in
set_option maxHeartbeats 400000 in
theorem new_any (w : World) :
    Calls Try.prog 11 #[] w fun e w' => e = .returned (.pointer (some ⟨w.heap.size, 0, none⟩)) ∧ HB w' w.heap.size H0 ∧ Below w.heap.size w w' := by
  have hz := zeroHash
  go_enter Try.func11, Try.ntmps11
  go_wp2_with (first
    | (go_at_call 18; refine (constants_any _).mono ?_; rintro e w1 ⟨rfl, hb1⟩; have hZ : Blk w1 w.heap.size 46 (row 217 zeroF) := (Blk.new w _ _).below hb1 (by simp); have hB : Below w.heap.size w w1 := ((Below.refl _ _).alloc (by omega) _).trans (hb1.mono (by simp)); clear hb1)
    | (refine wpList_store_part rfl 43 _ _ rfl w.heap.size 80 8 217 zeroF (w64 firstC) rfl rfl 46 hZ (by omega) (by kernel_rfl) (fun _ => rfl) ?_; refine wpList_gen (NW w nF1) ⟨hZ.row_ _, below_setRow' hB (by omega) _⟩ (fun w2 h2 => ?_))
    | (refine wpList_store_part rfl 42 _ _ rfl w.heap.size 0 80 217 nF1 (w64 keysC) rfl rfl 46 h2.1 (by omega) (by kernel_rfl) (fun _ => rfl) ?_; refine wpList_gen (NW w nF2) ⟨h2.1.row_ _, below_setRow' h2.2 (by omega) _⟩ (fun w3 h3 => ?_)))
  go_ret
  exact ⟨rfl, h3.1.cast_ (row_ext nF2_eq), h3.2⟩
set_option maxRecDepth 100000 in
set_option maxHeartbeats 400000 in
theorem one_any (s : ByteArray) (w : World) (hs : s.size < 576460752303423488) :
    Calls Try.prog 9 #[.string s] w fun e w' => e = .returned (.string ⟨(H0.write s.data.toList).out.toArray⟩) ∧ Below w.heap.size w w' := by
  have hsz : (H0.write s.data.toList).size < 576460752303423488 := by rw [Hs.size_write]; show 0 + _ < _; simpa using hs
  go_enter Try.func9, Try.ntmps9
  go_wp2_with (first
    | (go_at_call 11; refine (new_any _).mono ?_; rintro e w1 ⟨rfl, h1, b1⟩)
    | (go_at_call 12; refine (write_any _ H0 s _ h1.lt h1 (by show 0 + _ < _; omega)).mono ?_; rintro e w2 ⟨rfl, h2, c2⟩)
    | (go_at_call 13; refine (sum_any _ _ _ h2 hsz).mono ?_; rintro e w3 ⟨rfl, b3⟩))
  go_ret
  exact ⟨rfl, (c2.below b1 (by omega) b1.size).trans (b3.mono (Nat.le_trans b1.size c2.size))⟩
end Go.Proofs.Ytmmijnacgolopaa
