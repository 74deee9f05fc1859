/- A world that holds what the rows list. -/
import Derived.Test.YtbipbkancghkfaaDoorCards
import Derived.Test.YtbipbkancghkfaaDoorTie
import Derived.ProofKit
import Derived.OpenShut
import Derived.Deep.DeepHandedRow
import Derived.Lib.LaidTab
namespace Go.Proofs.YtbipbkancghkfaaDoor
open Go.RowKit
theorem ownL : ownKnob Tryd.prog.godebug = none := by kernel_rfl
def u8s (l : List Nat) : Array Value := (l.map fun n : Nat => Value.int .u8 (Int.ofNat n)).toArray
def putCells (cs : Array Value) : Obj → Obj
  | .cells _ t frozen => .cells cs t frozen
  | o => o
noncomputable def laidWorld (os : Os) : World :=
  { World.holding Tryd.prog os ⟨#[], #[], []⟩ with heap := ((World.holding Tryd.prog os ⟨#[], #[], []⟩).heap.modify 0 (putCells (u8s Go.Pinned.utf8FirstZ))).modify 1 (putCells (u8s ([128, 191, 160, 191, 128, 159, 144, 191, 128, 143] ++ List.replicate 22 0))) }
theorem laid_met (os : Os) (args : Array Value) : laidMet Tryd.prog Rows.b64TextsRow.laid ((laidWorld os).forCall (fun _ _ => 0) ⟨#[], args, []⟩).memory :=
  laidMet_of_run' 8 (by kernel_rfl) (by kernel_rfl)
end Go.Proofs.YtbipbkancghkfaaDoor
