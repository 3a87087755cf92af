
/- The walks of the two Unfold. -/
import Derived.Test.YtmpeflmfglbnnaaDoorBlank
namespace Go.Proofs.YtmpeflmfglbnnaaDoor
open Go.RowKit Go.Lib
end Go.Proofs.YtmpeflmfglbnnaaDoor
