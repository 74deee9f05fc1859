/- Layer 9: the contracts of the developers' functions, Lengths among them. -/
import Derived.Test.YtmmkmbinmmfblaaJt
import Derived.Test.YtmmkmbinmmfblaaVa9
namespace Go.Proofs.Ytmmkmbinmmfblaa
end Go.Proofs.Ytmmkmbinmmfblaa
