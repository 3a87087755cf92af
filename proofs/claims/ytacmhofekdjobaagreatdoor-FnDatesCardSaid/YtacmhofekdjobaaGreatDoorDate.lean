
/- The walks of the calendar. -/
import Derived.Test.YtacmhofekdjobaaGreatDoorChecked
import Derived.Test.YtacmhofekdjobaaGreatDoorDatePlain
import Derived.Test.YtacmhofekdjobaaGreatDoorShelf
import Derived.WalkKit
import Derived.WalkLawsBesides
import Derived.WalkSpells
namespace Go.Proofs.YtacmhofekdjobaaGreatDoor
open Go.RowKit Go.Lib
set_option maxRecDepth 20000 in
set_option maxHeartbeats 400000 in
theorem implLeap (y : Int) (w : World) (h0 : 1900 ≤ y) (h1 : y ≤ 20000) : Calls Tryz.prog 72 #[.int .i64 y] w fun e w' => e = .returned (.bool (Pl.leap y)) ∧ w = w' := by
  unfold Pl.leap
  cases h4 : (y % 4 == 0) <;> cases h100 : (y % 100 == 0)
  all_goals
    have hn : (y % 100 != 0) = !(y % 100 == 0) := rfl
    rw [h100] at hn
    rw [hn]
    simp only [Bool.not_true, Bool.not_false] at hn
    go_enter Tryz.func72, Tryz.ntmps72
    go_wp2
    go_ret
    exact ⟨rfl, rfl⟩
set_option maxRecDepth 20000 in
set_option maxHeartbeats 400000 in
theorem specLeap (y : Int) (w : World) (h0 : 1900 ≤ y) (h1 : y ≤ 20000) : Calls Tryz.prog 76 #[.int .i64 y] w fun e w' => e = .returned (.bool (Pl.leap y)) ∧ w = w' := by
  unfold Pl.leap
  cases h4 : (y % 4 == 0) <;> cases h100 : (y % 100 == 0)
  all_goals
    have hn : (y % 100 != 0) = !(y % 100 == 0) := rfl
    rw [h100] at hn
    rw [hn]
    simp only [Bool.not_true, Bool.not_false] at hn
    go_enter Tryz.func76, Tryz.ntmps76
    go_wp2
    go_ret
    exact ⟨rfl, rfl⟩
set_option maxRecDepth 20000 in
set_option maxHeartbeats 1000000 in
theorem implDays (y m : Int) (w : World) (h0 : 1900 ≤ y) (h1 : y ≤ 20000) (hm0 : 0 ≤ m) (hm1 : m ≤ 11) : Calls Tryz.prog 33 #[.int .i64 y, .int .i64 m] w fun e w' => e = .returned (.int .i64 (Pl.dm y (m + 1))) ∧ w = w' := by
  have hL := fun w => implLeap y w h0 h1
  unfold Pl.dm
  generalize Pl.leap y = b at *
  have hc : m = 0 ∨ m = 1 ∨ m = 2 ∨ m = 3 ∨ m = 4 ∨ m = 5 ∨ m = 6 ∨ m = 7 ∨ m = 8 ∨ m = 9 ∨ m = 10 ∨ m = 11 := by omega
  clear hm0 hm1
  rcases hc with rfl | rfl | rfl | rfl | rfl | rfl | rfl | rfl | rfl | rfl | rfl | rfl <;> cases b
  all_goals
    go_enter Tryz.func33, Tryz.ntmps33
    go_wp2_with (go_at_call 72; go_must (refine (hL _).mono ?_; rintro e w2 ⟨rfl, rfl⟩))
    go_ret
    exact ⟨rfl, rfl⟩
set_option maxRecDepth 20000 in
set_option maxHeartbeats 1000000 in
theorem specDays (y m : Int) (w : World) (h0 : 1900 ≤ y) (h1 : y ≤ 20000) (hm0 : 1 ≤ m) (hm1 : m ≤ 12) : Calls Tryz.prog 43 #[.int .i64 y, .int .i64 m] w fun e w' => e = .returned (.int .i64 (Pl.dm y m)) ∧ w = w' := by
  have hL := fun w => specLeap y w h0 h1
  unfold Pl.dm
  generalize Pl.leap y = b at *
  have hc := Pl.cases12 m hm0 hm1
  clear hm0 hm1
  rcases hc with rfl | rfl | rfl | rfl | rfl | rfl | rfl | rfl | rfl | rfl | rfl | rfl <;> cases b
  all_goals
    go_enter Tryz.func43, Tryz.ntmps43
    go_wp2_with (go_at_call 76; go_must (refine (hL _).mono ?_; rintro e w2 ⟨rfl, rfl⟩))
    go_ret
    exact ⟨rfl, rfl⟩
set_option maxRecDepth 20000 in
set_option maxHeartbeats 1000000 in
theorem implLeaps (y : Int) (w : World) (h0 : 1900 ≤ y) (h1 : y ≤ 20000) : Calls Tryz.prog 89 #[.int .i64 y] w fun e w' => e = .returned (.int .i64 (y / 4 - y / 100 + y / 400)) ∧ w = w' := by
  go_enter Tryz.func89, Tryz.ntmps89
  go_wp2
  go_ret
  exact ⟨rfl, rfl⟩
set_option maxRecDepth 20000 in
set_option maxHeartbeats 1000000 in
theorem implBefore (y : Int) (w : World) (h0 : 1970 ≤ y) (h1 : y ≤ 20000) : Calls Tryz.prog 73 #[.int .i64 y] w fun e w' => e = .returned (.int .i64 (Pl.beg y)) ∧ w = w' := by
  have hA := fun w => implLeaps (y - 1) w (by omega) (by omega)
  have hB := fun w => implLeaps 1969 w (by omega) (by omega)
  have he : Hid (365 * (y - 1970) + ((y - 1) / 4 - (y - 1) / 100 + (y - 1) / 400) - ((1969 : Int) / 4 - 1969 / 100 + 1969 / 400) = Pl.beg y) := show _ = _ from by unfold Pl.beg; omega
  have hq : (1969 : Int) / 4 - 1969 / 100 + 1969 / 400 = 477 := by decide
  rw [hq] at he
  simp only [hq] at hB
  have hz : Hid ((y - 1) / 4 - (y - 1) / 100 + (y - 1) / 400 = (y - 1) / 4 - (y - 1) / 100 + (y - 1) / 400) := rfl
  have hz0 : 0 ≤ (y - 1) / 4 - (y - 1) / 100 + (y - 1) / 400 := by omega
  have hz1 : (y - 1) / 4 - (y - 1) / 100 + (y - 1) / 400 ≤ 20000 := by omega
  generalize (y - 1) / 4 - (y - 1) / 100 + (y - 1) / 400 = q at hA he hz0 hz1
  clear hz hq
  go_enter Tryz.func73, Tryz.ntmps73
  go_wp2_with fail
  refine (hA _).mono ?_
  rintro e w2 ⟨rfl, rfl⟩
  go_wp2_with fail
  refine (hB _).mono ?_
  rintro e w2 ⟨rfl, rfl⟩
  go_wp2
  go_ret
  rw [← he.out]
  exact ⟨rfl, rfl⟩
set_option maxRecDepth 20000 in
set_option maxHeartbeats 1000000 in
theorem specBegin (y : Int) (w : World) (h0 : 1970 ≤ y) (h1 : y ≤ 20000) : Calls Tryz.prog 42 #[.int .i64 y] w fun e w' => e = .returned (.int .i64 (Pl.beg y)) ∧ w = w' := by
  unfold Pl.beg
  go_enter Tryz.func42, Tryz.ntmps42
  go_wp2
  go_ret
  exact ⟨rfl, rfl⟩
end Go.Proofs.YtacmhofekdjobaaGreatDoor
