/-
  Short, Future, Within and Right of the reference; Right of the code.
-/
import Derived.Test.YtokeppimaffagaaDoorVwf
import Derived.Test.YtokeppimaffagaaDoorVfit
import Derived.Test.YtokeppimaffagaaDoorVdp
namespace Go.Proofs.YtokeppimaffagaaDoor
open Go.RowKit

end Go.Proofs.YtokeppimaffagaaDoor
