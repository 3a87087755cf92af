
/- The kinds: none of a line end's bytes; a blank. -/
import Derived.Test.YtclfhoabpcnboaaDoorBlank
namespace Go.Proofs.YtclfhoabpcnboaaDoor
open Go.RowKit Go.Lib
end Go.Proofs.YtclfhoabpcnboaaDoor
