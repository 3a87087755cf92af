
/- What a node's kids may be, on the specification's side. -/
import Derived.Test.YtopbokfloapbeaaNodeFields2
namespace Go.Proofs.Ytopbokfloapbeaa
open Go.RowKit Go.Lib Go.Maps
namespace Fn
/-- Whether a kid of a kind may stand at a place. -/
def kidOk (kind : Int) (i : Nat) (k : Int) : Bool :=
  if kind = 1 then isCmd k else
  if kind = 2 then (((i : Int) == 0) && isTest k) || ((((i : Int) == 1) && (k == 1)) || (((i : Int) == 2) && ((k == 1) || (k == 2)))) else
  if kind = 3 then ((i : Int) == 0) && (k == 1) else
  if kind = 22 then ((i : Int) == 0) && isTest k else
  if kind = 23 ∨ kind = 24 then isTest k else false
def kidsFrom (kind : Int) : Nat → List Int → Bool
  | _, [] => true
  | i, k :: r => kidOk kind i k && kidsFrom kind (i + 1) r
def least (kind : Int) (n : Nat) : Bool :=
  if kind = 2 then decide (2 ≤ (n : Int)) else if kind = 3 ∨ kind = 22 ∨ kind = 23 ∨ kind = 24 then decide (1 ≤ (n : Int)) else true
def kidsOk (kind : Int) (ks : List Int) : Bool := kidsFrom kind 0 ks && least kind ks.length
theorem from_step (kind : Int) (ks : List Int) (i : Nat) (h : i < ks.length) : kidsFrom kind i (ks.drop i) = (kidOk kind i ks[i] && kidsFrom kind (i + 1) (ks.drop (i + 1))) := by
  rw [List.drop_eq_getElem_cons h, kidsFrom]
end Fn
end Go.Proofs.Ytopbokfloapbeaa
