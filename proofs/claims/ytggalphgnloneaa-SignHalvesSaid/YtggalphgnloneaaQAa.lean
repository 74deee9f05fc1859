/- The calls of layer 5 by names of points: Add, Neg, Encode; sixes of the law. -/
import Derived.Test.YtggalphgnloneaaQw
import Derived.Test.YtggalphgnloneaaQt
namespace Go.Proofs.Ytggalphgnloneaa
open Go.RowKit
theorem add_is (P Q R : Pt) (hP : P.ok) (hQ : Q.ok) (h : padd (cnt P) (cnt Q) = R) (w : World) :
    Calls Try.prog 19 #[.agg (nums 2 (two P.x P.y)), .agg (nums 2 (two Q.x Q.y))] w fun e w' => e = .returned (.agg (nums 2 (two R.x R.y))) ∧ Below w.heap.size w w' := by
  have := qadd_any P hP.x hP.y Q hQ.x hQ.y w
  rwa [addV_is, h] at this
theorem neg_is (P R : Pt) (hP : P.ok) (h : pneg (cnt P) = R) (w : World) :
    Calls Try.prog 22 #[.agg (nums 2 (two P.x P.y))] w fun e w' => e = .returned (.agg (nums 2 (two R.x R.y))) ∧ Below w.heap.size w w' := by
  have := qneg_any P hP.x hP.y w
  rwa [h] at this
theorem enc_is (P : Pt) (b : ByteArray) (c : Bool) (hP : P.ok) (h : encV P = (b, c)) (w : World) :
    Calls Try.prog 18 #[.agg (nums 2 (two P.x P.y))] w fun e w' => e = .returned (.tuple #[.string b, .bool c]) ∧ Below w.heap.size w w' := by
  have := qenc_any P hP w
  rwa [h] at this
/-! The law's own functions. -/
def sixT : ByteArray := ⟨(asBytes ((List.range 31).map fun _ => (102 : BitVec 8))).toArray⟩
def sixF (k i : Nat) : BitVec 8 := if i < k then 102 else 0
theorem six_none : (Array.replicate 31 (Value.int .u8 0)) = r8 31 (sixF 0) := by kernel_rfl
theorem six_put (k : Nat) : (row 31 fun j => if j = k then Value.int .u8 102 else Value.int .u8 (iw (sixF k j))) = r8 31 (sixF (k + 1)) := row_ext fun j _ => by
  unfold sixF
  by_cases h1 : j = k
  · subst h1; rw [if_pos rfl, if_pos (by omega)]; unfold iw; rfl
  · rw [if_neg h1]
    by_cases h2 : j < k
    · rw [if_pos h2, if_pos (by omega)]
    · rw [if_neg h2, if_neg (by omega)]
theorem six_all : (⟨(asBytes ((List.range 31).map (sixF 31))).toArray⟩ : ByteArray) = sixT := by
  unfold sixT
  rw [show (List.range 31).map (sixF 31) = (List.range 31).map fun _ => (102 : BitVec 8) from List.map_congr_left fun i hi => by
    unfold sixF; rw [if_pos (List.mem_range.1 hi)]]
end Go.Proofs.Ytggalphgnloneaa
