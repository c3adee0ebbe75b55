/-
  The depth of a value, by the reference.
-/
import Derived.Test.YtokeppimaffagaaDoorVsz
namespace Go.Proofs.YtokeppimaffagaaDoor
open Go.RowKit

end Go.Proofs.YtokeppimaffagaaDoor
