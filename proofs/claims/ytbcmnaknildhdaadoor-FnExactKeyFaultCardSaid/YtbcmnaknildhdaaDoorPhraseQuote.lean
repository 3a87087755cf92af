
/- The walks of quoting, and of the program's Phrase. -/
import Derived.Test.YtbcmnaknildhdaaDoorPhraseSpec
import Derived.Laws.OwnMore
namespace Go.Proofs.YtbcmnaknildhdaaDoor
open Go.RowKit Go.Lib
end Go.Proofs.YtbcmnaknildhdaaDoor
