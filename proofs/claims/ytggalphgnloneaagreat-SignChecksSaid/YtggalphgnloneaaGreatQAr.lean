/- The reference's Add, Neg, Encode by names of points. -/
import Derived.Test.YtggalphgnloneaaGreatQw
import Derived.Test.YtggalphgnloneaaGreatQt
import Derived.Test.YtggalphgnloneaaGreatQr
namespace Go.Proofs.YtggalphgnloneaaGreat
open Go.RowKit
theorem radd_is (P Q R : Pt) (hP : P.ok) (hQ : Q.ok) (h : padd (cnt P) (cnt Q) = R) (w : World) :
    Calls Tryz.prog 36 #[.agg (nums 2 (two P.x P.y)), .agg (nums 2 (two Q.x Q.y))] w fun e w' => e = .returned (.agg (nums 2 (two R.x R.y))) ∧ Below w.heap.size w w' := by
  have := radd_any P hP.x hP.y Q hQ.x hQ.y w
  rwa [raddV_is, h] at this
theorem rneg5_is (P R : Pt) (hP : P.ok) (h : pneg (cnt P) = R) (w : World) :
    Calls Tryz.prog 34 #[.agg (nums 2 (two P.x P.y))] w fun e w' => e = .returned (.agg (nums 2 (two R.x R.y))) ∧ Below w.heap.size w w' := by
  have := rneg_any P hP.x hP.y w
  rwa [h] at this
theorem renc_is (P : Pt) (b : ByteArray) (c : Bool) (hP : P.ok) (h : encV P = (b, c)) (w : World) :
    Calls Tryz.prog 35 #[.agg (nums 2 (two P.x P.y))] w fun e w' => e = .returned (.tuple #[.string b, .bool c]) ∧ Below w.heap.size w w' := by
  have := renc_any P hP w
  rwa [h] at this
end Go.Proofs.YtggalphgnloneaaGreat
