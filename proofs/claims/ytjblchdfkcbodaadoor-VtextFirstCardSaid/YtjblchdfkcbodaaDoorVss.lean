/-
  Short, Future, Within and Right of the reference; Right of the code.
-/
import Derived.Test.YtjblchdfkcbodaaDoorVwf
import Derived.Test.YtjblchdfkcbodaaDoorVfit
import Derived.Test.YtjblchdfkcbodaaDoorVdp
namespace Go.Proofs.YtjblchdfkcbodaaDoor
open Go.RowKit

end Go.Proofs.YtjblchdfkcbodaaDoor
