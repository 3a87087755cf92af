
/- The program's test of a node's kids: the kinds with so many of them. -/
import Derived.Test.YtopbokfloapbeaaNodeRKids
namespace Go.Proofs.Ytopbokfloapbeaa
open Go.RowKit Go.Lib Go.Maps
namespace Fn
def elseOk : List Int → Bool
  | [] => true
  | [z] => (z == 1) || (z == 2)
  | _ => false
theorem kids22a (x : Int) : kidsOk 22 [x] = isTest x := by
  simp [kidsOk, kidsFrom, kidOk, least]
theorem kids22b (x y : Int) (r : List Int) : kidsOk 22 (x :: y :: r) = false := by
  simp [kidsOk, kidsFrom, kidOk]
theorem kids22c : kidsOk 22 [] = false := rfl
theorem kids3 (ks : List Int) : kidsOk 3 ks = decide (ks = [1]) := by
  match ks with
  | [] => rfl
  | [x] => simp [kidsOk, kidsFrom, kidOk, least]; by_cases h : x = 1 <;> simp [h]
  | x :: y :: r => simp [kidsOk, kidsFrom, kidOk]
theorem kids2a (x y : Int) (r : List Int) : kidsOk 2 (x :: y :: r) = (isTest x && ((y == 1) && elseOk r)) := by
  match r with
  | [] => simp [kidsOk, kidsFrom, kidOk, least, elseOk]
  | [z] => simp [kidsOk, kidsFrom, kidOk, least, elseOk]
  | z :: u :: s => simp [kidsOk, kidsFrom, kidOk, elseOk]
theorem kids2b (x : Int) : kidsOk 2 [x] = false := by simp [kidsOk, least]
theorem kids2c : kidsOk 2 [] = false := rfl
end Fn
theorem ints_at0 {B : Nat} {w : World} {o : Option Addr} {x : Int} {r : List Int} (h : Ints B w o (x :: r)) : ∃ a, o = some a ∧ w.cell? a = some (.int .i64 x) := by
  obtain ⟨a, rfl, ha, hc⟩ := h 0 (by simp)
  refine ⟨a, rfl, ?_⟩
  have e0 : a.add 0 = a := by simp [Addr.add]
  rwa [e0] at hc
end Go.Proofs.Ytopbokfloapbeaa
