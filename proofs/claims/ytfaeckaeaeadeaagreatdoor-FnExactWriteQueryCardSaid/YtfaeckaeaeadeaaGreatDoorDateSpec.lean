
/- Plain mathematics of dates: integers and bytes alone; no program. -/

/- The walks of the calendar. -/

/- The walks of the day in the calendar. -/

/- The walks of a date's digits. -/

/- The walks of the clock, the zone and the year. -/

/- The walks of the two WriteDate and of the two WriteStamp. -/

/- The walks of the model's WriteDate and WriteStamp. -/
import Derived.WalkKit
import Derived.Test.YtfaeckaeaeadeaaGreatDoorChecked
import Derived.Test.YtfaeckaeaeadeaaGreatDoorShelf
import Derived.WalkLawsBesides
import Derived.WalkSpells
import Derived.Lib.ItoaNum
import Derived.Lib.AppendIntMem
import Derived.Lib.QuietBelow
import Derived.Lib.LaidTab
namespace Go.Proofs.YtfaeckaeaeadeaaGreatDoor
namespace Pl
/-- The day on which a year begins. -/
def beg (y : Int) : Int := (y - 1) * 365 + (y - 1) / 4 - (y - 1) / 100 + (y - 1) / 400 - 719162
def leap (y : Int) : Bool := ((y % 4 == 0) && (y % 100 != 0)) || (y % 400 == 0)
set_option maxRecDepth 20000 in
theorem beg_next (y : Int) : beg (y + 1) = beg y + (if leap y then 366 else 365) := by
  unfold beg
  cases h : leap y
  · simp only [leap, Bool.or_eq_false_iff, Bool.and_eq_false_iff, beq_eq_false_iff_ne, bne_eq_false_iff_eq, ne_eq] at h
    simp only [Bool.false_eq_true, if_false]
    omega
  · simp only [leap, Bool.or_eq_true, Bool.and_eq_true, beq_iff_eq, bne_iff_ne, ne_eq] at h
    simp only [if_true]
    omega
set_option maxRecDepth 20000 in
theorem beg_low (y : Int) (h : 1970 ≤ y) : 365 * (y - 1970) ≤ beg y := by unfold beg; omega
set_option maxRecDepth 20000 in
theorem beg_high (y : Int) (h : 1970 ≤ y) : beg y ≤ 366 * (y - 1970) := by unfold beg; omega
set_option maxRecDepth 20000 in
theorem beg_end (y : Int) (h : 10000 ≤ y) : 2932897 ≤ beg y := by unfold beg; omega
/-- The year of a day: looked for from a year on. -/
def yrF (d : Int) : Nat → Int → Int
  | 0, y => y
  | k + 1, y => if beg (y + 1) ≤ d then yrF d k (y + 1) else y
def fuel (d y : Int) : Nat := (d + 719052 - 365 * y).toNat
def yr (d : Int) : Int := yrF d (fuel d (1970 + d / 366)) (1970 + d / 366)
set_option maxRecDepth 20000 in
theorem yrF_go (d y : Int) (h1 : 1970 ≤ y) (h : beg (y + 1) ≤ d) : yrF d (fuel d y) y = yrF d (fuel d (y + 1)) (y + 1) := by
  have hl := beg_low (y + 1) (by omega)
  obtain ⟨k, hk⟩ : ∃ k, fuel d y = k + 1 := ⟨fuel d y - 1, by unfold fuel; omega⟩
  rw [hk, yrF, if_pos h]
  -- more fuel than needed changes nothing
  have more : ∀ (a b : Nat) (y : Int), 1970 ≤ y → d - 365 * (y - 1970) < 365 * (a : Int) + 365 → d - 365 * (y - 1970) < 365 * (b : Int) + 365 → yrF d a y = yrF d b y := by
    intro a
    induction a with
    | zero =>
      intro b y hy ha hb
      have hn : ¬ beg (y + 1) ≤ d := by have := beg_low (y + 1) (by omega); omega
      cases b with
      | zero => rfl
      | succ b => rw [yrF, yrF, if_neg hn]
    | succ a ih =>
      intro b y hy ha hb
      cases b with
      | zero =>
        have hn : ¬ beg (y + 1) ≤ d := by have := beg_low (y + 1) (by omega); omega
        rw [yrF, yrF, if_neg hn]
      | succ b =>
        rw [yrF, yrF]
        split
        · exact ih b (y + 1) (by omega) (by omega) (by omega)
        · rfl
  refine more k (fuel d (y + 1)) (y + 1) (by omega) ?_ ?_
  · have : (fuel d y : Int) = d + 719052 - 365 * y := by unfold fuel; omega
    omega
  · unfold fuel; omega
set_option maxRecDepth 20000 in
theorem yrF_stop (d y : Int) (n : Nat) (h : ¬ beg (y + 1) ≤ d) : yrF d n y = y := by
  cases n with
  | zero => rfl
  | succ n => rw [yrF, if_neg h]
set_option maxRecDepth 20000 in
theorem beg_first (d : Int) (h0 : 0 ≤ d) : beg (1970 + d / 366) ≤ d := by
  have := beg_high (1970 + d / 366) (by omega)
  omega
/-- Days of a month, from 1 on. -/
def dm (y m : Int) : Int := if m = 4 ∨ m = 6 ∨ m = 9 ∨ m = 11 then 30 else if m = 2 then (if leap y then 29 else 28) else 31
set_option maxRecDepth 20000 in
theorem dm_pos (y m : Int) : 28 ≤ dm y m ∧ dm y m ≤ 31 := by unfold dm; split <;> (try split) <;> (try split) <;> omega
/-- Days of a month and of those behind it. -/
def tail (y m : Int) : Int := (if m ≤ 1 then 31 else 0) + (if m ≤ 2 then (if leap y then 29 else 28) else 0) + (if m ≤ 3 then 31 else 0) + (if m ≤ 4 then 30 else 0) + (if m ≤ 5 then 31 else 0) + (if m ≤ 6 then 30 else 0) + (if m ≤ 7 then 31 else 0) + (if m ≤ 8 then 31 else 0) + (if m ≤ 9 then 30 else 0) + (if m ≤ 10 then 31 else 0) + (if m ≤ 11 then 30 else 0) + (if m ≤ 12 then 31 else 0)
set_option maxRecDepth 20000 in
theorem cases12 (m : Int) (h1 : 1 ≤ m) (h2 : m ≤ 12) : m = 1 ∨ m = 2 ∨ m = 3 ∨ m = 4 ∨ m = 5 ∨ m = 6 ∨ m = 7 ∨ m = 8 ∨ m = 9 ∨ m = 10 ∨ m = 11 ∨ m = 12 := by omega
set_option maxRecDepth 20000 in
theorem tail_step (y m : Int) (h1 : 1 ≤ m) (h2 : m ≤ 12) : tail y m = dm y m + tail y (m + 1) := by
  rcases cases12 m h1 h2 with rfl | rfl | rfl | rfl | rfl | rfl | rfl | rfl | rfl | rfl | rfl | rfl <;> cases h : leap y <;> simp [tail, dm, h]
set_option maxRecDepth 20000 in
theorem tail_one (y : Int) : tail y 1 = if leap y then 366 else 365 := by
  cases h : leap y <;> simp [tail, h]
set_option maxRecDepth 20000 in
theorem tail_end (y : Int) : tail y 13 = 0 := by simp [tail]
/-- The month and what is left of the days. -/
def moF (y : Int) : Nat → Int → Int → Int × Int
  | 0, d, m => (m, d)
  | k + 1, d, m => if dm y m ≤ d then moF y k (d - dm y m) (m + 1) else (m, d)
def mo (d : Int) : Int × Int := moF (yr d) 12 (d - beg (yr d)) 1
set_option maxRecDepth 20000 in
theorem moF_go (y d m : Int) (k : Nat) (hk : (k : Int) = 13 - m) (h1 : 1 ≤ m) (h2 : m ≤ 12) (h : dm y m ≤ d) : moF y k d m = moF y (k - 1) (d - dm y m) (m + 1) := by
  obtain ⟨j, rfl⟩ : ∃ j, k = j + 1 := ⟨k - 1, by omega⟩
  rw [moF, if_pos h]
  rfl
set_option maxRecDepth 20000 in
theorem moF_stop (y d m : Int) (k : Nat) (h : ¬ dm y m ≤ d) : moF y k d m = (m, d) := by
  cases k with
  | zero => rfl
  | succ k => rw [moF, if_neg h]
end Pl
end Go.Proofs.YtfaeckaeaeadeaaGreatDoor
namespace Go.Proofs.YtfaeckaeaeadeaaGreatDoor
open Go.RowKit Go.Lib
set_option maxRecDepth 20000 in
set_option maxHeartbeats 400000 in
theorem implLeap (y : Int) (w : World) (h0 : 1900 ≤ y) (h1 : y ≤ 20000) : Calls Tryz.prog 92 #[.int .i64 y] w fun e w' => e = .returned (.bool (Pl.leap y)) ∧ w = w' := by
  unfold Pl.leap
  cases h4 : (y % 4 == 0) <;> cases h100 : (y % 100 == 0)
  all_goals
    have hn : (y % 100 != 0) = !(y % 100 == 0) := rfl
    rw [h100] at hn
    rw [hn]
    simp only [Bool.not_true, Bool.not_false] at hn
    go_enter Tryz.func92, Tryz.ntmps92
    go_wp2
    go_ret
    exact ⟨rfl, rfl⟩
set_option maxRecDepth 20000 in
set_option maxHeartbeats 400000 in
theorem specLeap (y : Int) (w : World) (h0 : 1900 ≤ y) (h1 : y ≤ 20000) : Calls Tryz.prog 88 #[.int .i64 y] w fun e w' => e = .returned (.bool (Pl.leap y)) ∧ w = w' := by
  unfold Pl.leap
  cases h4 : (y % 4 == 0) <;> cases h100 : (y % 100 == 0)
  all_goals
    have hn : (y % 100 != 0) = !(y % 100 == 0) := rfl
    rw [h100] at hn
    rw [hn]
    simp only [Bool.not_true, Bool.not_false] at hn
    go_enter Tryz.func88, Tryz.ntmps88
    go_wp2
    go_ret
    exact ⟨rfl, rfl⟩
set_option maxRecDepth 20000 in
set_option maxHeartbeats 1000000 in
theorem implDays (y m : Int) (w : World) (h0 : 1900 ≤ y) (h1 : y ≤ 20000) (hm0 : 0 ≤ m) (hm1 : m ≤ 11) : Calls Tryz.prog 76 #[.int .i64 y, .int .i64 m] w fun e w' => e = .returned (.int .i64 (Pl.dm y (m + 1))) ∧ w = w' := by
  have hL := fun w => implLeap y w h0 h1
  unfold Pl.dm
  generalize Pl.leap y = b at *
  have hc : m = 0 ∨ m = 1 ∨ m = 2 ∨ m = 3 ∨ m = 4 ∨ m = 5 ∨ m = 6 ∨ m = 7 ∨ m = 8 ∨ m = 9 ∨ m = 10 ∨ m = 11 := by omega
  clear hm0 hm1
  rcases hc with rfl | rfl | rfl | rfl | rfl | rfl | rfl | rfl | rfl | rfl | rfl | rfl <;> cases b
  all_goals
    go_enter Tryz.func76, Tryz.ntmps76
    go_wp2_with (go_at_call 92; go_must (refine (hL _).mono ?_; rintro e w2 ⟨rfl, rfl⟩))
    go_ret
    exact ⟨rfl, rfl⟩
set_option maxRecDepth 20000 in
set_option maxHeartbeats 1000000 in
theorem specDays (y m : Int) (w : World) (h0 : 1900 ≤ y) (h1 : y ≤ 20000) (hm0 : 1 ≤ m) (hm1 : m ≤ 12) : Calls Tryz.prog 65 #[.int .i64 y, .int .i64 m] w fun e w' => e = .returned (.int .i64 (Pl.dm y m)) ∧ w = w' := by
  have hL := fun w => specLeap y w h0 h1
  unfold Pl.dm
  generalize Pl.leap y = b at *
  have hc := Pl.cases12 m hm0 hm1
  clear hm0 hm1
  rcases hc with rfl | rfl | rfl | rfl | rfl | rfl | rfl | rfl | rfl | rfl | rfl | rfl <;> cases b
  all_goals
    go_enter Tryz.func65, Tryz.ntmps65
    go_wp2_with (go_at_call 88; go_must (refine (hL _).mono ?_; rintro e w2 ⟨rfl, rfl⟩))
    go_ret
    exact ⟨rfl, rfl⟩
set_option maxRecDepth 20000 in
set_option maxHeartbeats 1000000 in
theorem implLeaps (y : Int) (w : World) (h0 : 1900 ≤ y) (h1 : y ≤ 20000) : Calls Tryz.prog 91 #[.int .i64 y] w fun e w' => e = .returned (.int .i64 (y / 4 - y / 100 + y / 400)) ∧ w = w' := by
  go_enter Tryz.func91, Tryz.ntmps91
  go_wp2
  go_ret
  exact ⟨rfl, rfl⟩
set_option maxRecDepth 20000 in
set_option maxHeartbeats 1000000 in
theorem implBefore (y : Int) (w : World) (h0 : 1970 ≤ y) (h1 : y ≤ 20000) : Calls Tryz.prog 75 #[.int .i64 y] w fun e w' => e = .returned (.int .i64 (Pl.beg y)) ∧ w = w' := by
  have hA := fun w => implLeaps (y - 1) w (by omega) (by omega)
  have hB := fun w => implLeaps 1969 w (by omega) (by omega)
  have he : Hid (365 * (y - 1970) + ((y - 1) / 4 - (y - 1) / 100 + (y - 1) / 400) - ((1969 : Int) / 4 - 1969 / 100 + 1969 / 400) = Pl.beg y) := show _ = _ from by unfold Pl.beg; omega
  have hq : (1969 : Int) / 4 - 1969 / 100 + 1969 / 400 = 477 := by decide
  rw [hq] at he
  simp only [hq] at hB
  have hz : Hid ((y - 1) / 4 - (y - 1) / 100 + (y - 1) / 400 = (y - 1) / 4 - (y - 1) / 100 + (y - 1) / 400) := rfl
  have hz0 : 0 ≤ (y - 1) / 4 - (y - 1) / 100 + (y - 1) / 400 := by omega
  have hz1 : (y - 1) / 4 - (y - 1) / 100 + (y - 1) / 400 ≤ 20000 := by omega
  generalize (y - 1) / 4 - (y - 1) / 100 + (y - 1) / 400 = q at hA he hz0 hz1
  clear hz hq
  go_enter Tryz.func75, Tryz.ntmps75
  go_wp2_with fail
  refine (hA _).mono ?_
  rintro e w2 ⟨rfl, rfl⟩
  go_wp2_with fail
  refine (hB _).mono ?_
  rintro e w2 ⟨rfl, rfl⟩
  go_wp2
  go_ret
  rw [← he.out]
  exact ⟨rfl, rfl⟩
set_option maxRecDepth 20000 in
set_option maxHeartbeats 1000000 in
theorem specBegin (y : Int) (w : World) (h0 : 1970 ≤ y) (h1 : y ≤ 20000) : Calls Tryz.prog 64 #[.int .i64 y] w fun e w' => e = .returned (.int .i64 (Pl.beg y)) ∧ w = w' := by
  unfold Pl.beg
  go_enter Tryz.func64, Tryz.ntmps64
  go_wp2
  go_ret
  exact ⟨rfl, rfl⟩
end Go.Proofs.YtfaeckaeaeadeaaGreatDoor
namespace Go.Proofs.YtfaeckaeaeadeaaGreatDoor
open Go.RowKit Go.Lib
/-- A year under way. -/
structure YearAt (d y : Int) : Prop where
  low : 1970 ≤ y
  beg : Pl.beg y ≤ d
  goal : Pl.yrF d (Pl.fuel d y) y = Pl.yr d
set_option maxRecDepth 20000 in
theorem YearAt.start (d : Int) (h0 : 0 ≤ d) : YearAt d (1970 + d / 366) := ⟨by omega, Pl.beg_first d h0, rfl⟩
set_option maxRecDepth 20000 in
theorem YearAt.next {d y : Int} (h : YearAt d y) (hb : Pl.beg (y + 1) ≤ d) : YearAt d (y + 1) := ⟨by have := h.low; omega, hb, by rw [← Pl.yrF_go d y h.low hb]; exact h.goal⟩
set_option maxRecDepth 20000 in
theorem YearAt.done {d y : Int} (h : YearAt d y) (hb : ¬ Pl.beg (y + 1) ≤ d) : Pl.yr d = y := by rw [← h.goal]; exact Pl.yrF_stop d y _ hb
set_option maxRecDepth 20000 in
theorem YearAt.high {d y : Int} (h : YearAt d y) (hd : d ≤ 2932896) : y ≤ 10005 := by
  have := Pl.beg_low y h.low
  have := h.beg
  omega
/-- A month under way. -/
structure MonthAt (d r m : Int) : Prop where
  one : 1 ≤ m
  twelve : m ≤ 12
  pos : 0 ≤ r
  lt : r < Pl.tail (Pl.yr d) m
  goal : Pl.moF (Pl.yr d) (13 - m).toNat r m = Pl.mo d
set_option maxRecDepth 20000 in
theorem MonthAt.start {d y : Int} (h : YearAt d y) (hb : ¬ Pl.beg (y + 1) ≤ d) : MonthAt d (d - Pl.beg y) 1 := by
  have e := h.done hb
  have hn := Pl.beg_next y
  have := h.beg
  refine ⟨by omega, by omega, by omega, ?_, ?_⟩
  · rw [e, Pl.tail_one]; omega
  · rw [Pl.mo, e]; rfl
set_option maxRecDepth 20000 in
theorem MonthAt.next {d r m : Int} (h : MonthAt d r m) (hr : Pl.dm (Pl.yr d) m ≤ r) : MonthAt d (r - Pl.dm (Pl.yr d) m) (m + 1) := by
  have hs := Pl.tail_step (Pl.yr d) m h.one h.twelve
  have hl := h.lt
  have h1 := h.one
  have hm : m ≠ 12 := by
    intro e
    have h2 := Pl.tail_end (Pl.yr d)
    rw [e, show ((12 : Int) + 1) = 13 from rfl, h2] at hs
    rw [e] at hl hr
    omega
  have h12 := h.twelve
  refine ⟨by omega, by omega, by omega, by omega, ?_⟩
  rw [show (13 - (m + 1)).toNat = (13 - m).toNat - 1 by omega, ← Pl.moF_go _ r m _ (by omega) h.one h.twelve hr]
  exact h.goal
set_option maxRecDepth 20000 in
theorem MonthAt.done {d r m : Int} (h : MonthAt d r m) (hr : ¬ Pl.dm (Pl.yr d) m ≤ r) : Pl.mo d = (m, r) := by rw [← h.goal]; exact Pl.moF_stop _ r m _ hr
set_option maxRecDepth 20000 in
theorem MonthAt.high {d r m : Int} (h : MonthAt d r m) : r < 400 := by
  have hl := h.lt
  have h1 := h.one
  have h2 := h.twelve
  unfold Pl.tail at hl
  rcases Pl.cases12 m h1 h2 with rfl | rfl | rfl | rfl | rfl | rfl | rfl | rfl | rfl | rfl | rfl | rfl <;> cases hp : Pl.leap (Pl.yr d) <;> simp [hp] at hl <;> omega
set_option maxRecDepth 20000 in
set_option maxHeartbeats 2000000 in
theorem implDay (d : Int) (w : World) (h0 : 0 ≤ d) (h1 : d ≤ 2932896) : Calls Tryz.prog 56 #[.int .i64 d] w fun e w' => e = .returned (.tuple #[.int .i64 (Pl.yr d), .int .i64 ((Pl.mo d).1 - 1), .int .i64 ((Pl.mo d).2 + 1)]) ∧ w = w' := by
  have HY := (show Hid _ from YearAt.start d h0)
  go_enter Tryz.func56, Tryz.ntmps56
  go_wp2
  go_loopw [2] (fun v wr => ∃ y : Int, v = .int .i64 y ∧ Hid (YearAt d y) ∧ wr = w) (fun v _ => (20000 - Lib.intOf v).toNat)
  case atStart => exact ⟨_, rfl, HY, rfl⟩
  case round =>
    clear HY
    obtain ⟨y, rfl, HY, rfl⟩ := hrel
    have hy0 := HY.out.low
    have hy1 := HY.out.high h1
    have hB := fun w => implBefore (y + 1) w (by omega) (by omega)
    by_cases hb : Pl.beg (y + 1) ≤ d
    · have HN := (show Hid _ from HY.out.next hb)
      clear HY
      generalize Pl.beg (y + 1) = b at *
      go_wp2_with (go_at_call 75; go_must (refine (hB _).mono ?_; rintro e w2 ⟨rfl, rfl⟩))
      go_roundw
      case rel => exact ⟨y + 1, rfl, HN, trivial⟩
      case measure => simp [Lib.intOf]; omega
    · have HD := (show Hid (Pl.yr d = y) from HY.out.done hb)
      have HM := (show Hid _ from MonthAt.start HY.out hb)
      have hC := fun w => implBefore y w (by omega) (by omega)
      have hbl := HY.out.beg
      have hbp : 0 ≤ Pl.beg y := by have := Pl.beg_low y hy0; omega
      have hb' : d < Pl.beg (y + 1) := by omega
      clear HY hb
      generalize Pl.beg (y + 1) = b at *
      generalize Pl.beg y = c at *
      go_wp2_with fail
      refine (hB _).mono ?_
      rintro e w2 ⟨rfl, rfl⟩
      go_wp2_with fail
      refine (hC _).mono ?_
      rintro e w2 ⟨rfl, rfl⟩
      clear hB hC
      go_wp2
      go_loopw [0, 3] (fun v u w9 => ∃ r m : Int, v = .int .i64 r ∧ u = .int .i64 (m - 1) ∧ Hid (MonthAt d r m) ∧ w9 = wr) (fun _ u _ => (20 - Lib.intOf u).toNat)
      case atStart => exact ⟨_, 1, rfl, rfl, HM, rfl⟩
      case round =>
        clear HM
        obtain ⟨r, m, rfl, rfl, HM, rfl⟩ := hrel
        have hm1 := HM.out.one
        have hm2 := HM.out.twelve
        have hr0 := HM.out.pos
        have hr1 := HM.out.high
        have hD := fun w => implDays y (m - 1) w (by omega) (by omega) (by omega) (by omega)
        simp only [show m - 1 + 1 = m by omega] at hD
        obtain ⟨hd0, hd1⟩ := Pl.dm_pos y m
        by_cases hr : Pl.dm y m ≤ r
        · have HN : Hid (MonthAt d (r - Pl.dm y m) (m + 1)) := show MonthAt _ _ _ from by
            have := HM.out.next (by rw [HD.out]; exact hr)
            rw [HD.out] at this
            exact this
          clear HM
          generalize Pl.dm y m = k at *
          go_wp2_with (go_at_call 76; go_must (refine (hD _).mono ?_; rintro e w3 ⟨rfl, rfl⟩))
          go_roundw
          case rel => exact ⟨r - k, m + 1, rfl, congrArg (Value.int .i64) (by omega), HN, trivial⟩
          case measure => simp [Lib.intOf]; omega
        · have HE : Hid (Pl.mo d = (m, r)) := HM.out.done (by rw [HD.out]; exact hr)
          have hr' : r < Pl.dm y m := by omega
          clear HM hr
          generalize Pl.dm y m = k at *
          go_wp2_with (go_at_call 76; go_must (refine (hD _).mono ?_; rintro e w3 ⟨rfl, rfl⟩))
          refine bodyPost_ret (v := .tuple #[.int .i64 y, .int .i64 (m - 1), .int .i64 (r + 1)]) (by simp [results, Tryz.results56, go_sem]) rfl ?_
          rw [HD.out, HE.out]
          exact ⟨rfl, rfl⟩
set_option maxRecDepth 20000 in
set_option maxHeartbeats 2000000 in
theorem specParts (t d : Int) (w : World) (ht0 : 0 ≤ t) (ht1 : t ≤ 253402300799) (hd : t / 86400 = d) (h0 : 0 ≤ d) (h1 : d ≤ 2932896) : Calls Tryz.prog 42 #[.int .i64 t] w fun e w' => e = .returned (.tuple #[.int .i64 (Pl.yr d), .int .i64 (Pl.mo d).1, .int .i64 ((Pl.mo d).2 + 1)]) ∧ w = w' := by
  have HY := (show Hid _ from YearAt.start d h0)
  go_enter Tryz.func42, Tryz.ntmps42
  go_wp2
  simp only [hd]
  clear hd ht0 ht1
  go_loopw [6] (fun v wr => ∃ y : Int, v = .int .i64 y ∧ Hid (YearAt d y) ∧ wr = w) (fun v _ => (20000 - Lib.intOf v).toNat)
  case atStart => exact ⟨_, rfl, HY, rfl⟩
  case round =>
    clear HY
    obtain ⟨y, rfl, HY, rfl⟩ := hrel
    have hy0 := HY.out.low
    have hy1 := HY.out.high h1
    have hB := fun w => specBegin (y + 1) w (by omega) (by omega)
    by_cases hb : Pl.beg (y + 1) ≤ d
    · have HN := (show Hid _ from HY.out.next hb)
      clear HY
      generalize Pl.beg (y + 1) = b at *
      go_wp2_with (go_at_call 64; go_must (refine (hB _).mono ?_; rintro e w2 ⟨rfl, rfl⟩))
      go_roundw
      case rel => exact ⟨y + 1, rfl, HN, trivial⟩
      case measure => simp [Lib.intOf]; omega
    · have HD := (show Hid (Pl.yr d = y) from HY.out.done hb)
      have HM := (show Hid _ from MonthAt.start HY.out hb)
      have hC := fun w => specBegin y w (by omega) (by omega)
      have hbl := HY.out.beg
      have hbp : 0 ≤ Pl.beg y := by have := Pl.beg_low y hy0; omega
      have hb' : d < Pl.beg (y + 1) := by omega
      clear HY hb
      generalize Pl.beg (y + 1) = b at *
      generalize Pl.beg y = c at *
      go_wp2_with fail
      refine (hB _).mono ?_
      rintro e w2 ⟨rfl, rfl⟩
      go_wp2_with fail
      refine (hC _).mono ?_
      rintro e w2 ⟨rfl, rfl⟩
      clear hB hC
      go_wp2
      go_loopw [5, 7] (fun v u w9 => ∃ r m : Int, v = .int .i64 r ∧ u = .int .i64 m ∧ Hid (MonthAt d r m) ∧ w9 = wr) (fun _ u _ => (20 - Lib.intOf u).toNat)
      case atStart => exact ⟨_, 1, rfl, rfl, HM, rfl⟩
      case round =>
        clear HM
        obtain ⟨r, m, rfl, rfl, HM, rfl⟩ := hrel
        have hm1 := HM.out.one
        have hm2 := HM.out.twelve
        have hr0 := HM.out.pos
        have hr1 := HM.out.high
        have hD := fun w => specDays y m w (by omega) (by omega) hm1 hm2
        obtain ⟨hd0, hd1⟩ := Pl.dm_pos y m
        by_cases hr : Pl.dm y m ≤ r
        · have HN : Hid (MonthAt d (r - Pl.dm y m) (m + 1)) := show MonthAt _ _ _ from by
            have := HM.out.next (by rw [HD.out]; exact hr)
            rw [HD.out] at this
            exact this
          clear HM
          generalize Pl.dm y m = k at *
          go_wp2_with (go_at_call 65; go_must (refine (hD _).mono ?_; rintro e w3 ⟨rfl, rfl⟩))
          go_roundw
          case rel => exact ⟨r - k, m + 1, rfl, rfl, HN, trivial⟩
          case measure => simp [Lib.intOf]; omega
        · have HE : Hid (Pl.mo d = (m, r)) := HM.out.done (by rw [HD.out]; exact hr)
          have hr' : r < Pl.dm y m := by omega
          clear HM hr
          generalize Pl.dm y m = k at *
          go_wp2_with (go_at_call 65; go_must (refine (hD _).mono ?_; rintro e w3 ⟨rfl, rfl⟩))
          refine bodyPost_ret (v := .tuple #[.int .i64 y, .int .i64 m, .int .i64 (r + 1)]) (by simp [results, Tryz.results42, go_sem]) rfl ?_
          rw [HD.out, HE.out]
          exact ⟨rfl, rfl⟩
end Go.Proofs.YtfaeckaeaeadeaaGreatDoor
namespace Go.Proofs.YtfaeckaeaeadeaaGreatDoor
open Go.RowKit Go.Lib
namespace Pl
def twoN (n : Nat) : List UInt8 := [UInt8.ofNat (48 + n / 10), UInt8.ofNat (48 + n % 10)]
def two (n : Int) : ByteArray := ⟨(twoN n.toNat).toArray⟩
set_option maxRecDepth 20000 in
theorem two_size (n : Int) : (two n).size = 2 := rfl
set_option maxRecDepth 20000 in
theorem dec_one (n : Nat) (h : n < 10) : decDigits n = [UInt8.ofNat (48 + n)] := by rw [decDigits, dif_pos h]
set_option maxRecDepth 20000 in
theorem dec_two (n : Nat) (h0 : ¬ n < 10) (h : n < 100) : decDigits n = twoN n := by rw [decDigits, dif_neg h0, dec_one _ (by omega)]; rfl
set_option maxRecDepth 20000 in
theorem dec_four (n : Nat) (h0 : 1000 ≤ n) (h : n < 10000) : decDigits n = twoN (n / 100) ++ twoN (n % 100) := by
  rw [decDigits, dif_neg (by omega), decDigits, dif_neg (by omega), dec_two _ (by omega) (by omega)]
  have e1 : n / 10 / 10 = n / 100 := by omega
  have e2 : n / 10 % 10 = n % 100 / 10 := by omega
  have e3 : n % 10 = n % 100 % 10 := by omega
  rw [e1, e2, e3]
  rfl
set_option maxRecDepth 20000 in
theorem ba_append (a b : List UInt8) : (ByteArray.mk a.toArray) ++ (ByteArray.mk b.toArray) = ByteArray.mk (a ++ b).toArray := by
  apply ByteArray.ext
  simp
set_option maxRecDepth 20000 in
theorem two_small (n : Nat) (h : n < 10) : (ByteArray.mk #[48]) ++ (ByteArray.mk (decDigits n).toArray) = two (n : Int) := by
  have : (ByteArray.mk #[48]) = ByteArray.mk ([48] : List UInt8).toArray := rfl
  rw [this, ba_append, dec_one n h, two, twoN]
  have e1 : (n : Int).toNat / 10 = 0 := by omega
  have e2 : (n : Int).toNat % 10 = n := by omega
  rw [e1, e2]
  rfl
set_option maxRecDepth 20000 in
theorem two_big (n : Nat) (h0 : ¬ n < 10) (h : n < 100) : (ByteArray.mk #[]) ++ (ByteArray.mk (decDigits n).toArray) = two (n : Int) := by
  have : (ByteArray.mk #[]) = ByteArray.mk ([] : List UInt8).toArray := rfl
  rw [this, ba_append, dec_two n h0 h, two]
  rfl
set_option maxRecDepth 20000 in
theorem four (n : Nat) (h0 : 1000 ≤ n) (h : n < 10000) : (ByteArray.mk #[]) ++ (ByteArray.mk (itoa (n : Int)).toArray) = two ((n : Int) / 100) ++ two ((n : Int) % 100) := by
  have : (ByteArray.mk #[]) = ByteArray.mk ([] : List UInt8).toArray := rfl
  rw [this, ba_append, itoa, if_neg (by omega), Int.toNat_natCast, dec_four n h0 h, two, two, ba_append, List.nil_append]
  have e1 : ((n : Int) / 100).toNat = n / 100 := by omega
  have e2 : ((n : Int) % 100).toNat = n % 100 := by omega
  rw [e1, e2]
end Pl
set_option maxRecDepth 20000 in
set_option maxHeartbeats 400000 in
theorem implPad2 (n : Int) (w : World) (h0 : 0 ≤ n) (h1 : n < 100) : Calls Tryz.prog 57 #[.int .i64 n, .int .i64 2] w fun e w' => e = .returned (.string (Pl.two n)) ∧ w' = w := by
  obtain ⟨k, rfl⟩ : ∃ k : Nat, n = k := ⟨n.toNat, by omega⟩
  have hF := Tryz.strconv_FormatInt_10_small k (by omega) w
  by_cases hk : k < 10
  · have hx := Pl.two_small k hk
    have hz : (ByteArray.mk (decDigits k).toArray).size = 1 := by rw [Pl.dec_one k hk]; rfl
    have hR := Tryz.strings_Repeat_one ⟨#[48]⟩ w
    generalize ByteArray.mk (decDigits k).toArray = x at *
    have Hx := (show Hid _ from hx)
    clear hx
    go_enter Tryz.func57, Tryz.ntmps57
    go_wp2_with fail
    refine hF.mono ?_
    rintro e w2 ⟨rfl, rfl⟩
    go_wp2_with fail
    refine hR.mono ?_
    rintro e w3 ⟨rfl, rfl⟩
    go_wp2
    go_ret
    rw [← Hx.out]
    exact ⟨rfl, rfl⟩
  · have hx := Pl.two_big k hk (by omega)
    have hz : (ByteArray.mk (decDigits k).toArray).size = 2 := by rw [Pl.dec_two k hk (by omega)]; rfl
    have hR := Tryz.strings_Repeat_zero ⟨#[48]⟩ w
    generalize ByteArray.mk (decDigits k).toArray = x at *
    have Hx := (show Hid _ from hx)
    clear hx
    go_enter Tryz.func57, Tryz.ntmps57
    go_wp2_with fail
    refine hF.mono ?_
    rintro e w2 ⟨rfl, rfl⟩
    go_wp2_with fail
    refine hR.mono ?_
    rintro e w3 ⟨rfl, rfl⟩
    go_wp2
    go_ret
    rw [← Hx.out]
    exact ⟨rfl, rfl⟩
set_option maxRecDepth 20000 in
set_option maxHeartbeats 400000 in
theorem implPad4 (n : Int) (w : World) (h0 : 1000 ≤ n) (h1 : n < 10000) (htab : Lib.TabIs Tryz.prog w "internal/strconv.uint64pow10" .u64 Lib.pow10Tab) : Calls Tryz.prog 57 #[.int .i64 n, .int .i64 4] w fun e w' => e = .returned (.string (Pl.two (n / 100) ++ Pl.two (n % 100))) ∧ Below w.heap.size w w' := by
  obtain ⟨k, rfl⟩ : ∃ k : Nat, n = k := ⟨n.toNat, by omega⟩
  have hF := Tryz.strconv_FormatInt_10 (k : Int) (by omega) (by omega) w htab
  clear htab
  have hx := Pl.four k (by omega) (by omega)
  have hz : (ByteArray.mk (itoa (k : Int)).toArray).size = 4 := by
    show (itoa (k : Int)).toArray.size = 4
    rw [itoa, if_neg (by omega), Int.toNat_natCast, Pl.dec_four k (by omega) (by omega)]; rfl
  have hR := fun w => Tryz.strings_Repeat_zero ⟨#[48]⟩ w
  generalize ByteArray.mk (itoa (k : Int)).toArray = x at *
  have Hx := (show Hid _ from hx)
  clear hx
  go_enter Tryz.func57, Tryz.ntmps57
  go_wp2_with fail
  refine hF.mono ?_
  rintro e w2 ⟨rfl, j, os, hw2⟩
  have hb2 : Below w.heap.size w w2 := by rw [hw2]; exact below_grow _ w (Nat.le_refl _) j os
  clear hw2
  go_wp2_with fail
  refine (hR _).mono ?_
  rintro e w3 ⟨rfl, rfl⟩
  go_wp2
  go_ret
  rw [← Hx.out]
  exact ⟨rfl, hb2⟩
set_option maxRecDepth 20000 in
set_option maxHeartbeats 400000 in
theorem specTwo (n : Int) (w : World) (h0 : 0 ≤ n) (h1 : n < 100) : Calls Tryz.prog 43 #[.int .i64 n] w fun e w' => e = .returned (.string (Pl.two n)) ∧ Below w.heap.size w w' := by
  have ha : ((UInt8.ofNat (48 + n.toNat / 10)).toNat : Int) = 48 + n / 10 := by
    rw [UInt8.toNat_ofNat_of_lt' (by simp [UInt8.size]; omega)]; omega
  have hb : ((UInt8.ofNat (48 + n.toNat % 10)).toNat : Int) = 48 + n % 10 := by
    rw [UInt8.toNat_ofNat_of_lt' (by simp [UInt8.size]; omega)]; omega
  have hcv : (convert 56 9 (.slice (some ⟨w.heap.size, 0, none⟩) 2 2)).run Tryz.prog (w.alloc (.cells #[.int .u8 (48 + n / 10), .int .u8 (48 + n % 10)] 5)) = .ok (.string (Pl.two n)) (w.alloc (.cells #[.int .u8 (48 + n / 10), .int .u8 (48 + n % 10)] 5)) := by
    rw [← ha, ← hb]
    refine run_convert_bytes_back (P := Tryz.prog) _ 56 9 5 ⟨w.heap.size, 0, none⟩ 2 (Pl.twoN n.toNat) Tryz.underlying56 Tryz.underlying5 Tryz.underlying9 ?_
    intro j hj
    match j, hj with
    | 0, hj => simp [Addr.add, Pl.twoN]
    | 1, hj => simp [Addr.add, Pl.twoN]
  have hbA : Below w.heap.size w (w.alloc (.cells #[.int .u8 (48 + n / 10), .int .u8 (48 + n % 10)] 5)) := (Below.refl _ _).alloc (Nat.le_refl _) _
  clear ha hb
  go_enter Tryz.func43, Tryz.ntmps43
  go_wp2
  go_ret
  exact ⟨rfl, hbA⟩
end Go.Proofs.YtfaeckaeaeadeaaGreatDoor
namespace Go.Proofs.YtfaeckaeaeadeaaGreatDoor
open Go.RowKit Go.Lib
def clockT (t : Int) : ByteArray := Pl.two (t % 86400 / 3600) ++ ⟨#[58]⟩ ++ Pl.two (t % 3600 / 60) ++ ⟨#[58]⟩ ++ Pl.two (t % 60)
def signT (z : Int) : ByteArray := if z < 0 then ⟨#[45]⟩ else ⟨#[43]⟩
def absI (z : Int) : Int := if z < 0 then -z else z
def zoneT (z : Int) : ByteArray := signT z ++ Pl.two (absI z / 60) ++ Pl.two (absI z % 60)
set_option maxRecDepth 20000 in
theorem clock_size (t : Int) : (clockT t).size = 8 := by simp [clockT, ByteArray.size_append, Pl.two_size]; rfl
set_option maxRecDepth 20000 in
theorem zone_size (t : Int) : (zoneT t).size = 5 := by simp only [zoneT, ByteArray.size_append, Pl.two_size, signT]; split <;> rfl
set_option maxRecDepth 20000 in
set_option maxHeartbeats 1000000 in
theorem specYear (y : Int) (w : World) (h0 : 0 ≤ y) (h1 : y ≤ 9999) : Calls Tryz.prog 45 #[.int .i64 y] w fun e w' => e = .returned (.string (Pl.two (y / 100) ++ Pl.two (y % 100))) ∧ Below w.heap.size w w' := by
  have a1 := fun w => specTwo (y / 100) w (by omega) (by omega)
  have a2 := fun w => specTwo (y % 100) w (by omega) (by omega)
  have z1 := Pl.two_size (y / 100)
  have z2 := Pl.two_size (y % 100)
  generalize Pl.two (y / 100) = x1 at *
  generalize Pl.two (y % 100) = x2 at *
  go_enter Tryz.func45, Tryz.ntmps45
  go_wp2_with fail
  refine (a1 _).mono ?_
  rintro e w2 ⟨rfl, b1⟩
  go_wp2_with fail
  refine (a2 _).mono ?_
  rintro e w3 ⟨rfl, b2⟩
  go_wp2
  go_ret
  exact ⟨rfl, b1.trans (b2.mono b1.size)⟩
end Go.Proofs.YtfaeckaeaeadeaaGreatDoor
namespace Go.Proofs.YtfaeckaeaeadeaaGreatDoor
open Go.RowKit Go.Lib
namespace Pl
set_option maxRecDepth 20000 in
theorem year_end (d : Int) (h1 : d ≤ 2932896) : ∀ (n : Nat) (y : Int), (20000 - y).toNat ≤ n → YearAt d y → ∃ y, YearAt d y ∧ ¬ beg (y + 1) ≤ d := by
  intro n
  induction n with
  | zero =>
    intro y hn h
    have := h.high h1
    omega
  | succ n ih =>
    intro y hn h
    by_cases hb : beg (y + 1) ≤ d
    · exact ih (y + 1) (by omega) (h.next hb)
    · exact ⟨y, h, hb⟩
set_option maxRecDepth 20000 in
theorem month_end (d : Int) : ∀ (n : Nat) (r m : Int), (20 - m).toNat ≤ n → MonthAt d r m → ∃ r m, MonthAt d r m ∧ ¬ dm (yr d) m ≤ r := by
  intro n
  induction n with
  | zero =>
    intro r m hn h
    have := h.twelve
    omega
  | succ n ih =>
    intro r m hn h
    by_cases hb : dm (yr d) m ≤ r
    · exact ih _ (m + 1) (by omega) (h.next hb)
    · exact ⟨r, m, h, hb⟩
set_option maxRecDepth 20000 in
theorem bounds (d : Int) (h0 : 0 ≤ d) (h1 : d ≤ 2932896) : 1970 ≤ yr d ∧ yr d ≤ 9999 ∧ 1 ≤ (mo d).1 ∧ (mo d).1 ≤ 12 ∧ 0 ≤ (mo d).2 ∧ (mo d).2 ≤ 30 := by
  obtain ⟨y, hy, hb⟩ := year_end d h1 _ _ (Nat.le_refl _) (YearAt.start d h0)
  obtain ⟨r, m, hm, hr⟩ := month_end d _ _ _ (Nat.le_refl _) (MonthAt.start hy hb)
  rw [hm.done hr, hy.done hb]
  have := hy.low
  have h9 : y ≤ 9999 := by
    apply Int.le_of_lt_add_one
    apply Int.lt_of_not_ge
    intro h
    have := beg_end y (by omega)
    have := hy.beg
    omega
  have := hm.one
  have := hm.twelve
  have := hm.pos
  have := (dm_pos (yr d) m).2
  exact ⟨by omega, by omega, by omega, by omega, by omega, by omega⟩
def months : ByteArray := ⟨#[74, 97, 110, 70, 101, 98, 77, 97, 114, 65, 112, 114, 77, 97, 121, 74, 117, 110, 74, 117, 108, 65, 117, 103, 83, 101, 112, 79, 99, 116, 78, 111, 118, 68, 101, 99]⟩
def days : ByteArray := ⟨#[77, 111, 110, 84, 117, 101, 87, 101, 100, 84, 104, 117, 70, 114, 105, 83, 97, 116, 83, 117, 110]⟩
def monthN (j : Nat) : ByteArray := months.extract (3 * j) (3 * j + 3)
def dayN (j : Nat) : ByteArray := days.extract (3 * j) (3 * j + 3)
set_option maxRecDepth 20000 in
theorem month_size (j : Nat) (h : j < 12) : (monthN j).size = 3 := by
  rw [monthN, ByteArray.size_extract]
  show min (3 * j + 3) 36 - 3 * j = 3
  omega
set_option maxRecDepth 20000 in
theorem day_size (j : Nat) (h : j < 7) : (dayN j).size = 3 := by
  rw [dayN, ByteArray.size_extract]
  show min (3 * j + 3) 21 - 3 * j = 3
  omega
end Pl
def MTab (w : World) : Prop := ∀ j, j < 12 → w.cell? ⟨0, j, none⟩ = some (.string (Pl.monthN j))
abbrev PTab (w : World) : Prop := Lib.TabIs Tryz.prog w "internal/strconv.uint64pow10" .u64 Lib.pow10Tab
set_option maxRecDepth 20000 in
theorem cellB {w w' : World} (hb : Below w.heap.size w w') {a : Addr} {v : Value} (hc : w.cell? a = some v) : w'.cell? a = some v := by
  have : a.block < w.heap.size := by
    by_cases h : a.block < w.heap.size
    · exact h
    · have e : w.heap[a.block]? = none := Array.getElem?_eq_none (by omega)
      simp [World.cell?, e] at hc
  exact (hb.cell this).trans hc
set_option maxRecDepth 20000 in
theorem MTab.on {w w' : World} (h : MTab w) (hb : Below w.heap.size w w') : MTab w' := fun j hj => cellB hb (h j hj)
set_option maxRecDepth 20000 in
theorem pGlob : Tryz.prog.globalNamed "internal/strconv.uint64pow10" = some 3 := by kernel_rfl
set_option maxRecDepth 20000 in
theorem ptab_on {w w' : World} (h : PTab w) (hb : Below w.heap.size w w') : PTab w' := by
  unfold PTab Lib.TabIs World.var? at h ⊢
  rw [pGlob] at h ⊢
  simp only [Option.bind_some] at h ⊢
  have hlt : 3 < w.heap.size := by
    rcases Nat.lt_or_ge 3 w.heap.size with h' | h'
    · exact h'
    · rw [Array.getElem?_eq_none h'] at h; cases h
  rw [hb.block _ hlt]
  exact h
def dateT (t z : Int) (b : ByteArray) : ByteArray := Pl.two ((Pl.mo (t / 86400)).2 + 1) ++ b ++ Pl.monthN ((Pl.mo (t / 86400)).1 - 1).toNat ++ b ++ (Pl.two (Pl.yr (t / 86400) / 100) ++ Pl.two (Pl.yr (t / 86400) % 100)) ++ ⟨#[32]⟩ ++ clockT t ++ ⟨#[32]⟩ ++ zoneT z
def dayT (d : Int) (b : ByteArray) : ByteArray := Pl.two ((Pl.mo d).2 + 1) ++ b ++ Pl.monthN ((Pl.mo d).1 - 1).toNat ++ b ++ (Pl.two (Pl.yr d / 100) ++ Pl.two (Pl.yr d % 100))
set_option maxRecDepth 20000 in
set_option maxHeartbeats 4000000 in
theorem implDayText (d : Int) (b : ByteArray) (w : World) (hb : b.size = 1) (hd0 : 0 ≤ d) (hd1 : d ≤ 2932896) (hM : MTab w) (hP : PTab w) :
    Calls Tryz.prog 36 #[.int .i64 d, .string b] w fun e w' => e = .returned (.string (dayT d b)) ∧ Below w.heap.size w w' := by
  unfold dayT
  have hD := implDay d w hd0 hd1
  obtain ⟨y0, y1, m0, m1, r0, r1⟩ := Pl.bounds d hd0 hd1
  generalize Pl.yr d = y at *
  generalize (Pl.mo d).1 = m at *
  generalize (Pl.mo d).2 = r at *
  obtain ⟨j, rfl⟩ : ∃ j : Nat, m = (j : Int) + 1 := ⟨(m - 1).toNat, by omega⟩
  rw [show ((j : Int) + 1 - 1) = (j : Int) by omega, Int.toNat_natCast]
  rw [show ((j : Int) + 1 - 1) = (j : Int) by omega] at hD
  have hj : j < 12 := by omega
  have zm := Pl.month_size j hj
  have hcell := hM j hj
  have p2 := fun w => implPad2 (r + 1) w (by omega) (by omega)
  have p4 := fun w h => implPad4 y w (by omega) (by omega) h
  have z2 := Pl.two_size (r + 1)
  have z4 : (Pl.two (y / 100) ++ Pl.two (y % 100)).size = 4 := by rw [ByteArray.size_append]; rfl
  generalize Pl.monthN j = mn at *
  generalize Pl.two (r + 1) = td at *
  generalize Pl.two (y / 100) ++ Pl.two (y % 100) = ty at *
  have k0 := cell_regrown hcell
  have c2 : ∀ d os, Calls Tryz.prog 57 #[.int .i64 (r + 1), .int .i64 2] (Go.Sort.grow (redrawn w d) os) fun e w'' => e = .returned (.string td) ∧ ∃ p : Regrown, w'' = Go.Sort.grow (redrawn w p.d) p.os := fun d os => Calls.regrown_of ((p2 _).mono fun e w' ⟨he, hw⟩ => ⟨he, by rw [hw]; exact Below.refl _ _⟩)
  have c4 : ∀ d os, Calls Tryz.prog 57 #[.int .i64 y, .int .i64 4] (Go.Sort.grow (redrawn w d) os) fun e w'' => e = .returned (.string ty) ∧ ∃ p : Regrown, w'' = Go.Sort.grow (redrawn w p.d) p.os := fun d os => Calls.regrown_of (p4 _ (ptab_on hP (below_regrown w d os)))
  have q0 : 0 ≤ r + 1 := by omega
  have q1 : r + 1 ≤ 31 := by omega
  generalize r + 1 = dd at *
  have HK := (show Hid _ from k0)
  have H2 := (show Hid _ from c2)
  have H4 := (show Hid _ from c4)
  clear p2 p4 hM hP hcell k0 c2 c4
  go_enter Tryz.func36, Tryz.ntmps36
  go_wp2_with fail
  refine hD.mono ?_
  rintro e w2 ⟨rfl, rfl⟩
  go_wp2
  refine wp_region_quiet_below (by kernel_rfl) (by kernel_rfl) ?_
  have k0 := HK.out
  have hjI : (j : Int) < 12 := by omega
  have n1 : ¬ 9223372036854775807 < td.size + b.size := by omega
  have n2 : ¬ 9223372036854775807 < td.size + b.size + mn.size := by omega
  have n3 : ¬ 9223372036854775807 < td.size + b.size + mn.size + b.size := by omega
  have n4 : ¬ 9223372036854775807 < td.size + b.size + mn.size + b.size + ty.size := by omega
  iterate 11 (quiet_step (exact H2.out _ _))
  quiet_step (exact H4.out _ _)
  repeat (quiet_step (fail))
  refine wpQuiet_nil ?_
  intro _ hw'
  obtain ⟨⟨dq, osq⟩, hw''⟩ := hw'
  subst hw''
  have hbq := (show Hid _ from below_regrown w dq osq)
  clear k0 n1 n2 n3 n4 HK H2 H4 hD
  generalize Go.Sort.grow (redrawn w dq) osq = wq at *
  go_wp2
  go_ret
  exact ⟨rfl, hbq.out⟩
set_option maxRecDepth 20000 in
theorem dayT_size (d : Int) (b : ByteArray) (hb : b.size = 1) (hd0 : 0 ≤ d) (hd1 : d ≤ 2932896) : (dayT d b).size = 11 := by
  obtain ⟨y0, y1, m0, m1, r0, r1⟩ := Pl.bounds d hd0 hd1
  have zm := Pl.month_size ((Pl.mo d).1 - 1).toNat (by omega)
  have z2 := Pl.two_size ((Pl.mo d).2 + 1)
  have z4 : (Pl.two (Pl.yr d / 100) ++ Pl.two (Pl.yr d % 100)).size = 4 := by rw [ByteArray.size_append]; rfl
  unfold dayT
  rw [ByteArray.size_append, ByteArray.size_append, ByteArray.size_append, ByteArray.size_append, zm, z2, z4, hb]
def okD (x z : Int) : Bool := decide (-1439 ≤ z) && (decide (z ≤ 1439) && (decide (0 ≤ x) && (decide (x ≤ 253402300799) && (decide (0 ≤ x + 60 * z) && decide (x + 60 * z ≤ 253402300799)))))
set_option maxRecDepth 20000 in
theorem okD_yes {x z : Int} (h : okD x z = true) : -1439 ≤ z ∧ z ≤ 1439 ∧ 0 ≤ x ∧ x ≤ 253402300799 ∧ 0 ≤ x + 60 * z ∧ x + 60 * z ≤ 253402300799 := by
  simpa [okD] using h
def stampT (x z : Int) : ByteArray := if okD x z then dateT (x + 60 * z) z ⟨#[45]⟩ else ⟨#[]⟩
def fullT (x z : Int) : ByteArray := if okD x z then Pl.dayN ((3 + (x + 60 * z) / 86400) % 7).toNat ++ ⟨#[44, 32]⟩ ++ dateT (x + 60 * z) z ⟨#[32]⟩ else ⟨#[]⟩
set_option maxRecDepth 20000 in
theorem date_size (t z : Int) (b : ByteArray) (hb : b.size = 1) (h0 : 0 ≤ t) (h1 : t ≤ 253402300799) : (dateT t z b).size = 26 := by
  obtain ⟨_, _, m0, m1, _, _⟩ := Pl.bounds (t / 86400) (by omega) (by omega)
  have zm := Pl.month_size ((Pl.mo (t / 86400)).1 - 1).toNat (by omega)
  simp only [dateT, ByteArray.size_append, Pl.two_size, clock_size, zone_size, zm, hb]
  rfl
end Go.Proofs.YtfaeckaeaeadeaaGreatDoor
namespace Go.Proofs.YtfaeckaeaeadeaaGreatDoor
open Go.RowKit Go.Lib
set_option maxRecDepth 20000 in
theorem specMonths (w : World) : Calls Tryz.prog 44 #[] w fun e w' => e = .returned (.string Pl.months) ∧ w' = w := by
  go_enter Tryz.func44, Tryz.ntmps44
  go_wp2
  go_ret
  exact ⟨rfl, rfl⟩
set_option maxRecDepth 20000 in
theorem wrap_in (n : Int) (h0 : -9223372036854775808 ≤ n) (h1 : n ≤ 9223372036854775807) : IntKind.i64.wrap n = n := by
  simp only [IntKind.wrap, IntKind.bits, IntKind.signed, Bool.true_and]
  split <;> rename_i h <;> simp at h <;> omega
end Go.Proofs.YtfaeckaeaeadeaaGreatDoor
