/-
  Order: cmp.Compare, compare and compareItems of the code.
-/
import Derived.Test.YtjblchdfkcbodaaGreatDoorVsm
import Derived.Test.YtjblchdfkcbodaaGreatDoorVcm
namespace Go.Proofs.YtjblchdfkcbodaaGreatDoor
open Go.RowKit

end Go.Proofs.YtjblchdfkcbodaaGreatDoor
