/-
  Order: cmp.Compare, compare and compareItems of the code.
-/
import Derived.Test.YtlgmhhimbabkjaaGreatDoorVsm
import Derived.Test.YtlgmhhimbabkjaaGreatDoorVcm
namespace Go.Proofs.YtlgmhhimbabkjaaGreatDoor
open Go.RowKit

end Go.Proofs.YtlgmhhimbabkjaaGreatDoor
