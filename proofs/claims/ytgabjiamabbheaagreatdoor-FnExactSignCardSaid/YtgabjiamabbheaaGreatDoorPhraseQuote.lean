
/- The walks of quoting, and of the program's Phrase. -/
import Derived.Test.YtgabjiamabbheaaGreatDoorPhraseSpec
import Derived.Laws.OwnMore
namespace Go.Proofs.YtgabjiamabbheaaGreatDoor
open Go.RowKit Go.Lib
end Go.Proofs.YtgabjiamabbheaaGreatDoor
