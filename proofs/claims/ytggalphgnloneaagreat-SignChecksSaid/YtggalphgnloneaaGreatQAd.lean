/- Decode of layer 5 by names of points. -/
import Derived.Test.YtggalphgnloneaaGreatQy
namespace Go.Proofs.YtggalphgnloneaaGreat
open Go.RowKit
theorem dec_is (s : ByteArray) (P : Pt) (c : Bool) (h : decV s = (P, c)) (w : World) :
    Calls Tryz.prog 23 #[.string s] w fun e w' => e = .returned (.tuple #[.agg (nums 2 (two P.x P.y)), .bool c]) ∧ Below w.heap.size w w' := by
  have := qdec_any s w
  rwa [h] at this
end Go.Proofs.YtggalphgnloneaaGreat
