
/- The kinds: none of a line end's bytes; a blank. -/
import Derived.Test.YtifnndegpeggpaaBlank
namespace Go.Proofs.Ytifnndegpeggpaa
open Go.RowKit Go.Lib
theorem kindBlank : Kind 22 Pl.blank := ⟨Go.Proofs.enters_of Try.func22 (by kernel_rfl) rfl, implBlank⟩
end Go.Proofs.Ytifnndegpeggpaa
