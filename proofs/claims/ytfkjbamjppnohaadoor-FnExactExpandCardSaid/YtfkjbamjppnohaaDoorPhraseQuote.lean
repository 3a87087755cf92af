
/- The walks of quoting, and of the program's Phrase. -/
import Derived.Test.YtfkjbamjppnohaaDoorPhraseSpec
import Derived.Laws.OwnMore
namespace Go.Proofs.YtfkjbamjppnohaaDoor
open Go.RowKit Go.Lib
end Go.Proofs.YtfkjbamjppnohaaDoor
