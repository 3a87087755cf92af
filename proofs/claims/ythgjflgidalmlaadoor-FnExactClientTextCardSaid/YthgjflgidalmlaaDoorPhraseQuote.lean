
/- The walks of quoting, and of the program's Phrase. -/
import Derived.Test.YthgjflgidalmlaaDoorPhraseSpec
import Derived.Laws.OwnMore
namespace Go.Proofs.YthgjflgidalmlaaDoor
open Go.RowKit Go.Lib
end Go.Proofs.YthgjflgidalmlaaDoor
