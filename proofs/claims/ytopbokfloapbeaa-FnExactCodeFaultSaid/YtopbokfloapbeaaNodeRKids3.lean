
/- The program's test of a node's kids: an if; all kinds. -/
import Derived.Test.YtopbokfloapbeaaNodeRKids2
namespace Go.Proofs.Ytopbokfloapbeaa
open Go.RowKit Go.Lib Go.Maps
theorem add_add (a : Addr) (i j : Nat) : (a.add i).add j = a.add (i + j) := by
  unfold Addr.add
  by_cases hi : i = 0
  · subst hi; simp
  · by_cases hj : j = 0
    · subst hj; simp
    · simp [hi, hj]
      try omega
end Go.Proofs.Ytopbokfloapbeaa
