
/- The kinds: none of a line end's bytes; a blank. -/
import Derived.Test.YtnfolnngnmiieaaBlank
namespace Go.Proofs.Ytnfolnngnmiieaa
open Go.RowKit Go.Lib
end Go.Proofs.Ytnfolnngnmiieaa
