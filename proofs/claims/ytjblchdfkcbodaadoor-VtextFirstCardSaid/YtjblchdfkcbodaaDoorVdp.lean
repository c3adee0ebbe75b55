/-
  The depth of a value, by the reference.
-/
import Derived.Test.YtjblchdfkcbodaaDoorVsz
namespace Go.Proofs.YtjblchdfkcbodaaDoor
open Go.RowKit

end Go.Proofs.YtjblchdfkcbodaaDoor
