
/- The kinds: none of a line end's bytes; a blank. -/
import Derived.Test.YtmpeflmfglbnnaaDoorBlank
namespace Go.Proofs.YtmpeflmfglbnnaaDoor
open Go.RowKit Go.Lib
end Go.Proofs.YtmpeflmfglbnnaaDoor
