
/- The program's test of a node's kids. -/
import Derived.Test.YtonnmbkfjiddnaaNodeKinds
namespace Go.Proofs.Ytonnmbkfjiddnaa
open Go.RowKit Go.Lib Go.Maps
namespace Fn
theorem from_all (kd : Int) (f : Int → Bool) (h : ∀ i x, kidOk kd i x = f x) (ks : List Int) : ∀ i, kidsFrom kd i ks = ks.all f := by
  induction ks with
  | nil => intro i; rfl
  | cons x r ih => intro i; rw [kidsFrom, h, ih, List.all_cons]
theorem not_any (f : Int → Bool) (ks : List Int) : (!(ks.any fun k => !f k)) = ks.all f := by
  induction ks with
  | nil => rfl
  | cons x r ih => rw [List.any_cons, List.all_cons, ← ih]; cases f x <;> simp
theorem kids1 (ks : List Int) : kidsOk 1 ks = !(ks.any fun k => !isCmd k) := by
  rw [not_any, kidsOk, from_all 1 isCmd (fun _ _ => rfl)]
  exact Bool.and_true _
theorem kids23 (ks : List Int) : kidsOk 23 ks = (decide (1 ≤ (ks.length : Int)) && !(ks.any fun k => !isTest k)) := by
  rw [not_any, kidsOk, from_all 23 isTest (fun _ _ => rfl), Bool.and_comm]
  rfl
theorem kids24 (ks : List Int) : kidsOk 24 ks = (decide (1 ≤ (ks.length : Int)) && !(ks.any fun k => !isTest k)) := by
  rw [not_any, kidsOk, from_all 24 isTest (fun _ _ => rfl), Bool.and_comm]
  rfl
theorem kidsNo (kd : Int) (h1 : kd ≠ 1) (h2 : kd ≠ 2) (h3 : kd ≠ 3) (h4 : kd ≠ 22) (h5 : kd ≠ 23) (h6 : kd ≠ 24) (ks : List Int) : kidsOk kd ks = ((ks.length : Int) == 0) := by
  have hl : least kd ks.length = true := by unfold least; simp [h2, h3, h4, h5, h6]
  rw [kidsOk, hl, Bool.and_true]
  cases ks with
  | nil => rfl
  | cons x r =>
    rw [kidsFrom]
    have : kidOk kd 0 x = false := by unfold kidOk; simp [h1, h2, h3, h4, h5, h6]
    rw [this, Bool.false_and]
    symm
    simp
    omega
end Fn
set_option maxHeartbeats 1000000 in
theorem implRK1 (o : Option Addr) (ks : List Int) (cap : Nat) (w : World) (hk : Ints w.heap.size w o ks) (hl : ks.length ≤ 1048576) :
    Calls Try.prog 53 #[.int .i64 1, .slice o ks.length cap] w fun e w' => e = .returned (.bool (Fn.kidsOk 1 ks)) ∧ Below w.heap.size w w' := by
  have hC := mkH (implContainsI kindNoCmd o ks cap w hk hl)
  clear hk
  rw [Fn.kids1]
  generalize (ks.any fun k => !Fn.isCmd k) = b at *
  go_enter Try.func53, Try.ntmps53
  go_wp2_with fail
  refine hC.out.mono ?_
  rintro e w2 ⟨rfl, rfl⟩
  go_wp2
  go_ret
  exact ⟨rfl, Below.refl _ _⟩
set_option maxHeartbeats 1000000 in
theorem implRK23 (o : Option Addr) (ks : List Int) (cap : Nat) (w : World) (hk : Ints w.heap.size w o ks) (hl : ks.length ≤ 1048576) :
    Calls Try.prog 53 #[.int .i64 23, .slice o ks.length cap] w fun e w' => e = .returned (.bool (Fn.kidsOk 23 ks)) ∧ Below w.heap.size w w' := by
  have hC := mkH (implContainsI kindNoTest o ks cap w hk hl)
  clear hk
  rw [Fn.kids23]
  generalize (ks.any fun k => !Fn.isTest k) = b at *
  by_cases h1 : 1 ≤ (ks.length : Int)
  · have d1 : decide (1 ≤ (ks.length : Int)) = true := decide_eq_true h1
    rw [d1, Bool.true_and]
    go_enter Try.func53, Try.ntmps53
    go_wp2_with fail
    refine hC.out.mono ?_
    rintro e w2 ⟨rfl, rfl⟩
    go_wp2
    go_ret
    exact ⟨rfl, Below.refl _ _⟩
  · have d1 : decide (1 ≤ (ks.length : Int)) = false := decide_eq_false h1
    rw [d1, Bool.false_and]
    clear hC
    go_enter Try.func53, Try.ntmps53
    go_wp2
    go_ret
    exact ⟨rfl, Below.refl _ _⟩
set_option maxHeartbeats 1000000 in
theorem implRK24 (o : Option Addr) (ks : List Int) (cap : Nat) (w : World) (hk : Ints w.heap.size w o ks) (hl : ks.length ≤ 1048576) :
    Calls Try.prog 53 #[.int .i64 24, .slice o ks.length cap] w fun e w' => e = .returned (.bool (Fn.kidsOk 24 ks)) ∧ Below w.heap.size w w' := by
  have hC := mkH (implContainsI kindNoTest o ks cap w hk hl)
  clear hk
  rw [Fn.kids24]
  generalize (ks.any fun k => !Fn.isTest k) = b at *
  by_cases h1 : 1 ≤ (ks.length : Int)
  · have d1 : decide (1 ≤ (ks.length : Int)) = true := decide_eq_true h1
    rw [d1, Bool.true_and]
    go_enter Try.func53, Try.ntmps53
    go_wp2_with fail
    refine hC.out.mono ?_
    rintro e w2 ⟨rfl, rfl⟩
    go_wp2
    go_ret
    exact ⟨rfl, Below.refl _ _⟩
  · have d1 : decide (1 ≤ (ks.length : Int)) = false := decide_eq_false h1
    rw [d1, Bool.false_and]
    clear hC
    go_enter Try.func53, Try.ntmps53
    go_wp2
    go_ret
    exact ⟨rfl, Below.refl _ _⟩
set_option maxHeartbeats 1000000 in
theorem implRKno (kd : Int) (o : Option Addr) (ks : List Int) (cap : Nat) (w : World) (x1 : (kd == 1) = false) (x2 : (kd == 2) = false) (x3 : (kd == 3) = false) (x22 : (kd == 22) = false) (x23 : (kd == 23) = false) (x24 : (kd == 24) = false) :
    Calls Try.prog 53 #[.int .i64 kd, .slice o ks.length cap] w fun e w' => e = .returned (.bool (Fn.kidsOk kd ks)) ∧ Below w.heap.size w w' := by
  rw [Fn.kidsNo kd (by simpa using x1) (by simpa using x2) (by simpa using x3) (by simpa using x22) (by simpa using x23) (by simpa using x24)]
  go_enter Try.func53, Try.ntmps53
  go_wp2
  go_ret
  exact ⟨rfl, Below.refl _ _⟩
end Go.Proofs.Ytonnmbkfjiddnaa
