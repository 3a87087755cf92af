
/- Scores: handed in, made anew, held against one another; the specification's IsBad. -/
import Derived.Test.YtgmjbgnjmpllmaaCounts2
namespace Go.Proofs.Ytgmjbgnjmpllmaa
open Go.RowKit Go.Lib Go.Maps
namespace Sc
def isBad (n d p : Int) : Bool := decide (1 ≤ d) && (decide (d ≤ 20000000000000000) && (decide (0 ≤ n) && (decide (n ≤ d) && (decide (0 ≤ p) && (decide (p ≤ 100) && decide (p * d ≤ 100 * n))))))
end Sc
theorem wrap_inW (n : Int) (h0 : -9223372036854775808 ≤ n) (h1 : n ≤ 9223372036854775807) : IntKind.i64.wrap n = n := by
  simp only [IntKind.wrap, IntKind.bits, IntKind.signed, Bool.true_and]
  split <;> rename_i h <;> simp at h <;> omega
end Go.Proofs.Ytgmjbgnjmpllmaa
