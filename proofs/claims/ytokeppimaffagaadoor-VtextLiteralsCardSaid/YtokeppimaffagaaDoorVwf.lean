/-
  Well formed, by the reference. (Written by gen_wf.py.)
-/
import Derived.Test.YtokeppimaffagaaDoorVrf
namespace Go.Proofs.YtokeppimaffagaaDoor
open Go.RowKit

end Go.Proofs.YtokeppimaffagaaDoor
