/- The reference's Mul by names of points. -/
import Derived.Test.YtggalphgnloneaaGreatQp
import Derived.Test.YtggalphgnloneaaGreatQt
namespace Go.Proofs.YtggalphgnloneaaGreat
open Go.RowKit
theorem rmul5_is (s : ByteArray) (P R : Pt) (hP : P.ok) (h : pmul (cnt P) (numV s 32) = R) (w : World) :
    Calls Tryz.prog 32 #[.string s, .agg (nums 2 (two P.x P.y))] w fun e w' => e = .returned (.agg (nums 2 (two R.x R.y))) ∧ Below w.heap.size w w' := by
  have := rmul5_any s P hP.x hP.y w
  rwa [rmulV_is, h] at this
end Go.Proofs.YtggalphgnloneaaGreat
