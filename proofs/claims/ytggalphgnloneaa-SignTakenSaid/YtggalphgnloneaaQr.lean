/- The reference of layer 5: D, Zero, On, made; points of fractions; Add, Neg, root, Base. (written by mkQ.py) -/
import Derived.Test.YtggalphgnloneaaQa
namespace Go.Proofs.Ytggalphgnloneaa
open Go.RowKit
end Go.Proofs.Ytggalphgnloneaa
