
/- The walks of quoting, and of the program's Phrase. -/
import Derived.Test.YteiokojdbblcdaaDoorPhraseSpec
import Derived.Laws.OwnMore
namespace Go.Proofs.YteiokojdbblcdaaDoor
open Go.RowKit Go.Lib
end Go.Proofs.YteiokojdbblcdaaDoor
