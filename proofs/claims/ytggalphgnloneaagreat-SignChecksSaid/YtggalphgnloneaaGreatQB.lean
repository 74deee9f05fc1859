/- The chapter's example in numbers; points of law 5. -/
import Derived.Test.YtggalphgnloneaaGreatQAa
namespace Go.Proofs.YtggalphgnloneaaGreat
open Go.RowKit
theorem cnt_C' {P : Pt} (h : onC P) : cnt P = P := cnt_on (onB_C.2 h)
theorem cnt_base : cnt bP = bP := cnt_C' base_on
theorem negP_twice {x : Nat} (h : x < pP) : negP (negP x) = x := by
  refine D0.nat (negP_p _) h ?_
  exact D0.lin2 1 (-1) (negP_D (negP x)) (negP_D x) (by omega)
end Go.Proofs.YtggalphgnloneaaGreat
