
/- The specification's CodeFault. -/
import Derived.Test.YtopbokfloapbeaaCodePlain
namespace Go.Proofs.Ytopbokfloapbeaa
open Go.RowKit Go.Lib Go.Maps
set_option maxHeartbeats 2000000 in
set_option maxRecDepth 20000 in
theorem specZero (n : Nd) (a1 a2 a3 : Option Addr) (c1 c2 c3 : Nat) (w : World) :
    Calls Try.prog 17 #[.agg #[.int .i64 n.kind, .int .i64 n.num, .int .i64 n.mat, .string n.text, .slice a1 n.names.length c1, .slice a2 n.keys.length c2, .slice a3 n.kids.length c3]] w fun e w' => e = .returned (.bool (Co.zero n)) ∧ Below w.heap.size w w' := by
  unfold Co.zero
  by_cases A1 : (n.kind == 0) = true
  · rw [A1, Bool.true_and]
    by_cases A2 : (n.mat == 0) = true
    · rw [A2, Bool.true_and]
      by_cases A3 : n.text.toList.isEmpty = true
      · rw [A3, Bool.true_and]
        by_cases A4 : ((n.names.length : Int) == 0) = true
        · rw [A4, Bool.true_and]
          by_cases A5 : ((n.keys.length : Int) == 0) = true
          · rw [A5, Bool.true_and]
            by_cases A6 : ((n.kids.length : Int) == 0) = true
            · rw [A6]
              go_enter Try.func17, Try.ntmps17
              go_wp2
              go_ret
              exact ⟨rfl, (Below.refl _ _).alloc (Nat.le_refl _) _⟩
            · replace A6 : ((n.kids.length : Int) == 0) = false := by simpa only [Bool.not_eq_true] using A6
              rw [A6]
              go_enter Try.func17, Try.ntmps17
              go_wp2
              go_ret
              exact ⟨rfl, (Below.refl _ _).alloc (Nat.le_refl _) _⟩
          · replace A5 : ((n.keys.length : Int) == 0) = false := by simpa only [Bool.not_eq_true] using A5
            rw [A5, Bool.false_and]
            go_enter Try.func17, Try.ntmps17
            go_wp2
            go_ret
            exact ⟨rfl, (Below.refl _ _).alloc (Nat.le_refl _) _⟩
        · replace A4 : ((n.names.length : Int) == 0) = false := by simpa only [Bool.not_eq_true] using A4
          rw [A4, Bool.false_and]
          go_enter Try.func17, Try.ntmps17
          go_wp2
          go_ret
          exact ⟨rfl, (Below.refl _ _).alloc (Nat.le_refl _) _⟩
      · replace A3 : n.text.toList.isEmpty = false := by simpa only [Bool.not_eq_true] using A3
        rw [A3, Bool.false_and]
        go_enter Try.func17, Try.ntmps17
        go_wp2
        go_ret
        exact ⟨rfl, (Below.refl _ _).alloc (Nat.le_refl _) _⟩
    · replace A2 : (n.mat == 0) = false := by simpa only [Bool.not_eq_true] using A2
      rw [A2, Bool.false_and]
      go_enter Try.func17, Try.ntmps17
      go_wp2
      go_ret
      exact ⟨rfl, (Below.refl _ _).alloc (Nat.le_refl _) _⟩
  · replace A1 : (n.kind == 0) = false := by simpa only [Bool.not_eq_true] using A1
    rw [A1, Bool.false_and]
    go_enter Try.func17, Try.ntmps17
    go_wp2
    go_ret
    exact ⟨rfl, (Below.refl _ _).alloc (Nat.le_refl _) _⟩
end Go.Proofs.Ytopbokfloapbeaa
