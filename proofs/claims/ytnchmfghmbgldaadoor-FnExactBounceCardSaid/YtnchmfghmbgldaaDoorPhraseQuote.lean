
/- The walks of quoting, and of the program's Phrase. -/
import Derived.Test.YtnchmfghmbgldaaDoorPhraseSpec
import Derived.Laws.OwnMore
namespace Go.Proofs.YtnchmfghmbgldaaDoor
open Go.RowKit Go.Lib
end Go.Proofs.YtnchmfghmbgldaaDoor
