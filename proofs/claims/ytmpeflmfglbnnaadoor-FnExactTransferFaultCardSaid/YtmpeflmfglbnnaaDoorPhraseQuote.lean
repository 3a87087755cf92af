
/- The walks of quoting, and of the program's Phrase. -/
import Derived.Test.YtmpeflmfglbnnaaDoorPhraseSpec
import Derived.Laws.OwnMore
namespace Go.Proofs.YtmpeflmfglbnnaaDoor
open Go.RowKit Go.Lib
end Go.Proofs.YtmpeflmfglbnnaaDoor
