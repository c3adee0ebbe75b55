/-
  Well formed, by the reference. (Written by gen_wf.py.)
-/
import Derived.Test.YtjblchdfkcbodaaDoorVrf
namespace Go.Proofs.YtjblchdfkcbodaaDoor
open Go.RowKit

end Go.Proofs.YtjblchdfkcbodaaDoor
