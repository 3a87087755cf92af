
/- The walks of the two Unfold. -/
import Derived.Test.YtclfhoabpcnboaaDoorBlank
namespace Go.Proofs.YtclfhoabpcnboaaDoor
open Go.RowKit Go.Lib
end Go.Proofs.YtclfhoabpcnboaaDoor
