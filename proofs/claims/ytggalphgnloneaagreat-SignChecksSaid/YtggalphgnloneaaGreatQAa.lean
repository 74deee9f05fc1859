/- The calls of layer 5 by names of points: Add, Neg, Encode; sixes of the law. -/
import Derived.Test.YtggalphgnloneaaGreatQw
import Derived.Test.YtggalphgnloneaaGreatQt
namespace Go.Proofs.YtggalphgnloneaaGreat
open Go.RowKit
theorem add_is (P Q R : Pt) (hP : P.ok) (hQ : Q.ok) (h : padd (cnt P) (cnt Q) = R) (w : World) :
    Calls Tryz.prog 26 #[.agg (nums 2 (two P.x P.y)), .agg (nums 2 (two Q.x Q.y))] w fun e w' => e = .returned (.agg (nums 2 (two R.x R.y))) ∧ Below w.heap.size w w' := by
  have := qadd_any P hP.x hP.y Q hQ.x hQ.y w
  rwa [addV_is, h] at this
theorem neg_is (P R : Pt) (hP : P.ok) (h : pneg (cnt P) = R) (w : World) :
    Calls Tryz.prog 29 #[.agg (nums 2 (two P.x P.y))] w fun e w' => e = .returned (.agg (nums 2 (two R.x R.y))) ∧ Below w.heap.size w w' := by
  have := qneg_any P hP.x hP.y w
  rwa [h] at this
theorem enc_is (P : Pt) (b : ByteArray) (c : Bool) (hP : P.ok) (h : encV P = (b, c)) (w : World) :
    Calls Tryz.prog 25 #[.agg (nums 2 (two P.x P.y))] w fun e w' => e = .returned (.tuple #[.string b, .bool c]) ∧ Below w.heap.size w w' := by
  have := qenc_any P hP w
  rwa [h] at this
/-! The law's own functions. -/
end Go.Proofs.YtggalphgnloneaaGreat
