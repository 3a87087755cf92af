
/- slices.Equal at numbers. -/
import Derived.Test.YtopbokfloapbeaaNodeImpl
namespace Go.Proofs.Ytopbokfloapbeaa
open Go.RowKit Go.Lib Go.Maps
theorem eq_drop (F G : List Int) (k : Nat) (h1 : k < F.length) (h2 : k < G.length) : decide (F.drop k = G.drop k) = (decide (F[k] = G[k]) && decide (F.drop (k + 1) = G.drop (k + 1))) := by
  have h : (F.drop k = G.drop k) = (F[k] = G[k] ∧ F.drop (k + 1) = G.drop (k + 1)) := by rw [List.drop_eq_getElem_cons h1, List.drop_eq_getElem_cons h2, List.cons.injEq]
  simp only [h, Bool.decide_and]
end Go.Proofs.Ytopbokfloapbeaa
