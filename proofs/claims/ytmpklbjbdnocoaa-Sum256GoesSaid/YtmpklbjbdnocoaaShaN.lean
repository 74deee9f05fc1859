/- New, Reset, One. -/
import Derived.Test.YtmpklbjbdnocoaaShaC
import Derived.Test.YtmpklbjbdnocoaaSha9
namespace Go.Proofs.Ytmpklbjbdnocoaa
open Go.RowKit
def H0 : Hs := ⟨firstC, keysC, firstC, fun _ => litw 8 0, 0⟩
abbrev w32 (f : Nat → BitVec 32) (i : Nat) : Value := .int .u32 (iw (f i))
def nF1 : Nat → Value := over zeroF 0 8 (w32 firstC)
def nF2 : Nat → Value := over nF1 8 64 (w32 keysC)
def nF3 : Nat → Value := over nF2 72 8 (fun i => nF2 (0 + i))
def NW (w : World) (F : Nat → Value) (w' : World) : Prop := Blk w' w.heap.size 46 (row 145 F) ∧ Below w.heap.size w w'
theorem nF2_one (i : Nat) : (nF2 (0 + i)).oneCell' = true := by
  unfold nF2 nF1 over zeroF; (repeat' split) <;> rfl
theorem nF3_eq (i : Nat) (hi : i < 145) : nF3 i = H0.f i := by
  have z32 : (0 : Int) = iw (litw 32 0) := (iw_zero 32).symm
  by_cases h1 : i < 8
  · simp [nF3, nF2, nF1, over, H0, Hs.f, h1, show ¬ 72 ≤ i by omega, show ¬ 8 ≤ i by omega]
  · by_cases h2 : i < 72
    · simp [nF3, nF2, over, H0, Hs.f, h1, h2, show ¬ 72 ≤ i by omega, show 8 ≤ i by omega]
    · by_cases h3 : i < 80
      · simp [nF3, nF2, nF1, over, H0, Hs.f, h1, h2, h3, show 72 ≤ i by omega, show ¬ 8 ≤ i - 72 by omega, show i - 72 < 8 by omega]
      · by_cases h4 : i < 144
        · simp [nF3, nF2, nF1, over, zeroF, H0, Hs.f, h1, h2, h3, h4, iw_zero]
        · simp [nF3, nF2, nF1, over, zeroF, H0, Hs.f, h1, h2, h3, h4]
set_option maxRecDepth 100000 in
set_option maxHeartbeats 400000 in
theorem new_any (w : World) :
    Calls Try.prog 11 #[] w fun e w' => e = .returned (.pointer (some ⟨w.heap.size, 0, none⟩)) ∧ HB w' w.heap.size H0 ∧ Below w.heap.size w w' := by
  have hz := zeroHash
  go_enter Try.func11, Try.ntmps11
  go_wp2_with (first
    | (go_at_call 19; refine (constants_any _).mono ?_; rintro e w1 ⟨rfl, hb1⟩; have hZ : Blk w1 w.heap.size 46 (row 145 zeroF) := (Blk.new w _ _).below hb1 (by simp); have hB : Below w.heap.size w w1 := ((Below.refl _ _).alloc (by omega) _).trans (hb1.mono (by simp)))
    | (refine wpList_store_part rfl 42 _ _ rfl w.heap.size 0 8 145 zeroF (w32 firstC) rfl rfl 46 hZ (by omega) (by kernel_rfl) (fun _ => rfl) ?_; refine wpList_gen (NW w nF1) ⟨hZ.row_ _, below_setRow' hB (by omega) _⟩ (fun w2 h2 => ?_))
    | (refine wpList_store_part rfl 43 _ _ rfl w.heap.size 8 64 145 nF1 (w32 keysC) rfl rfl 46 h2.1 (by omega) (by kernel_rfl) (fun _ => rfl) ?_; refine wpList_gen (NW w nF2) ⟨h2.1.row_ _, below_setRow' h2.2 (by omega) _⟩ (fun w3 h3 => ?_))
    | (refine wpList_load_part rfl 42 _ rfl w.heap.size 0 8 145 nF2 rfl 46 h3.1 (by omega) _ Try.underlying42 rfl (by kernel_rfl) ?_)
    | (refine wpList_store_part rfl 42 _ _ rfl w.heap.size 72 8 145 nF2 (fun i => nF2 (0 + i)) rfl rfl 46 h3.1 (by omega) (by kernel_rfl) nF2_one ?_; refine wpList_gen (NW w nF3) ⟨h3.1.row_ _, below_setRow' h3.2 (by omega) _⟩ (fun w4 h4 => ?_)))
  go_ret
  exact ⟨rfl, h4.1.cast_ (row_ext nF3_eq), h4.2⟩
end Go.Proofs.Ytmpklbjbdnocoaa
