
/- The model's place of an ill line. -/
import Derived.Test.YtffjgcpiamgejaaReadLine
namespace Go.Proofs.Ytffjgcpiamgejaa
open Go.RowKit Go.Lib
end Go.Proofs.Ytffjgcpiamgejaa
