
/- The model's lines of a head. -/
import Derived.Test.YtffjgcpiamgejaaHeadTests
import Derived.Test.YtffjgcpiamgejaaReadSame
namespace Go.Proofs.Ytffjgcpiamgejaa
open Go.RowKit Go.Lib
theorem b_at (s : ByteArray) (k : Nat) (h : k < s.size) : Pl.b s.data.toList k = s[k] := Pl.b_lt _ k (by simpa using h)
end Go.Proofs.Ytffjgcpiamgejaa
