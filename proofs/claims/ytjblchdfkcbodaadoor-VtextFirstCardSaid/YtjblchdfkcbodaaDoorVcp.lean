/-
  Order: cmp.Compare, compare and compareItems of the code.
-/
import Derived.Test.YtjblchdfkcbodaaDoorVsm
import Derived.Test.YtjblchdfkcbodaaDoorVcm
namespace Go.Proofs.YtjblchdfkcbodaaDoor
open Go.RowKit

end Go.Proofs.YtjblchdfkcbodaaDoor
