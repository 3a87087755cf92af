
/- The program's test of a node's kids. -/
import Derived.Test.YtopbokfloapbeaaNodeKinds
namespace Go.Proofs.Ytopbokfloapbeaa
open Go.RowKit Go.Lib Go.Maps
namespace Fn
theorem from_all (kd : Int) (f : Int → Bool) (h : ∀ i x, kidOk kd i x = f x) (ks : List Int) : ∀ i, kidsFrom kd i ks = ks.all f := by
  induction ks with
  | nil => intro i; rfl
  | cons x r ih => intro i; rw [kidsFrom, h, ih, List.all_cons]
theorem not_any (f : Int → Bool) (ks : List Int) : (!(ks.any fun k => !f k)) = ks.all f := by
  induction ks with
  | nil => rfl
  | cons x r ih => rw [List.any_cons, List.all_cons, ← ih]; cases f x <;> simp
theorem kids1 (ks : List Int) : kidsOk 1 ks = !(ks.any fun k => !isCmd k) := by
  rw [not_any, kidsOk, from_all 1 isCmd (fun _ _ => rfl)]
  exact Bool.and_true _
theorem kids23 (ks : List Int) : kidsOk 23 ks = (decide (1 ≤ (ks.length : Int)) && !(ks.any fun k => !isTest k)) := by
  rw [not_any, kidsOk, from_all 23 isTest (fun _ _ => rfl), Bool.and_comm]
  rfl
theorem kids24 (ks : List Int) : kidsOk 24 ks = (decide (1 ≤ (ks.length : Int)) && !(ks.any fun k => !isTest k)) := by
  rw [not_any, kidsOk, from_all 24 isTest (fun _ _ => rfl), Bool.and_comm]
  rfl
theorem kidsNo (kd : Int) (h1 : kd ≠ 1) (h2 : kd ≠ 2) (h3 : kd ≠ 3) (h4 : kd ≠ 22) (h5 : kd ≠ 23) (h6 : kd ≠ 24) (ks : List Int) : kidsOk kd ks = ((ks.length : Int) == 0) := by
  have hl : least kd ks.length = true := by unfold least; simp [h2, h3, h4, h5, h6]
  rw [kidsOk, hl, Bool.and_true]
  cases ks with
  | nil => rfl
  | cons x r =>
    rw [kidsFrom]
    have : kidOk kd 0 x = false := by unfold kidOk; simp [h1, h2, h3, h4, h5, h6]
    rw [this, Bool.false_and]
    symm
    simp
    omega
end Fn
end Go.Proofs.Ytopbokfloapbeaa
