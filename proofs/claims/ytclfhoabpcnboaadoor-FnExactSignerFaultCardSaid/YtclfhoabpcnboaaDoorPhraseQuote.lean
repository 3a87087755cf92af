
/- The walks of quoting, and of the program's Phrase. -/
import Derived.Test.YtclfhoabpcnboaaDoorPhraseSpec
import Derived.Laws.OwnMore
namespace Go.Proofs.YtclfhoabpcnboaaDoor
open Go.RowKit Go.Lib
end Go.Proofs.YtclfhoabpcnboaaDoor
