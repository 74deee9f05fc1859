/- The reference's Decode by names of points. -/
import Derived.Test.YtggalphgnloneaaGreatQz
namespace Go.Proofs.YtggalphgnloneaaGreat
open Go.RowKit
theorem rdec_is (s : ByteArray) (P : Pt) (c : Bool) (h : decV s = (P, c)) (w : World) :
    Calls Tryz.prog 31 #[.string s] w fun e w' => e = .returned (.tuple #[.agg (nums 2 (two P.x P.y)), .bool c]) ∧ Below w.heap.size w w' := by
  have := rdec_any s w
  rwa [h] at this
end Go.Proofs.YtggalphgnloneaaGreat
