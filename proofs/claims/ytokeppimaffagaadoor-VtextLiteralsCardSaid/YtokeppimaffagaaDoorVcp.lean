/-
  Order: cmp.Compare, compare and compareItems of the code.
-/
import Derived.Test.YtokeppimaffagaaDoorVsm
import Derived.Test.YtokeppimaffagaaDoorVcm
namespace Go.Proofs.YtokeppimaffagaaDoor
open Go.RowKit

end Go.Proofs.YtokeppimaffagaaDoor
