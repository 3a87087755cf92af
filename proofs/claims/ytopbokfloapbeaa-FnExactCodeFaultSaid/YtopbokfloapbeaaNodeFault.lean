
/- The specification's FilterFault. -/
import Derived.Test.YtopbokfloapbeaaNodeSpan
namespace Go.Proofs.Ytopbokfloapbeaa
open Go.RowKit Go.Lib Go.Maps
namespace Fn
/-- Whether nodes are a filter. -/
def good (F : List Nd) : Bool := decide (1 ≤ F.length) && (decide (F.length ≤ 2000) && ((kindAt F ((F.length : Int) - 1) == 1) && (Tr.spV (Tr.span (ok F) (kids F) 20 (F.length - 1)) == 0)))
def code (b : Bool) : Int := if b then 0 else 1
end Fn
end Go.Proofs.Ytopbokfloapbeaa
