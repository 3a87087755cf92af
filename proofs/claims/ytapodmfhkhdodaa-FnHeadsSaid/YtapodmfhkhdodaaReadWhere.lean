
/- The model's place of an ill line. -/
import Derived.Test.YtapodmfhkhdodaaReadLine
namespace Go.Proofs.Ytapodmfhkhdodaa
open Go.RowKit Go.Lib
end Go.Proofs.Ytapodmfhkhdodaa
