
/- The walks of the two Unfold. -/
import Derived.Test.YtnfolnngnmiieaaBlank
namespace Go.Proofs.Ytnfolnngnmiieaa
open Go.RowKit Go.Lib
end Go.Proofs.Ytnfolnngnmiieaa
