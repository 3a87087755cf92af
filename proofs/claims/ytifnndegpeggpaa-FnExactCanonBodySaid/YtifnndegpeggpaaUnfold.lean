
/- The walks of the two Unfold. -/
import Derived.Test.YtifnndegpeggpaaBlank
namespace Go.Proofs.Ytifnndegpeggpaa
open Go.RowKit Go.Lib
end Go.Proofs.Ytifnndegpeggpaa
