/-
  The number of nodes and the depth of a value, in both packages.
-/
import Derived.Test.YtjblchdfkcbodaaDoorLies
import Derived.Test.YtjblchdfkcbodaaDoorChecked
import Derived.Lib.Hide
import Derived.LoopTactic
import Derived.Deep.LoopGhost
namespace Go.Proofs.YtjblchdfkcbodaaDoor
open Go.RowKit

/-- what a function that only lays blocks of its own hands back -/
def Gives (x : Value) (w : World) (e : Ending) (w' : World) : Prop := e = .returned x ∧ Below w.heap.size w w'

end Go.Proofs.YtjblchdfkcbodaaDoor
