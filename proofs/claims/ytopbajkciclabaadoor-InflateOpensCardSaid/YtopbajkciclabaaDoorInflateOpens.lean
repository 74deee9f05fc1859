/- InflateOpens: the law's walk. -/
import Derived.Test.YtopbajkciclabaaDoorMV
import Derived.Test.YtopbajkciclabaaDoorMZ
namespace Go.Proofs.YtopbajkciclabaaDoor
open Go.RowKit
end Go.Proofs.YtopbajkciclabaaDoor
