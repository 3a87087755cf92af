
/- Plain mathematics of dates: integers and bytes alone; no program. -/
import Derived.WalkKit
namespace Go.Proofs.YtacmhofekdjobaaGreatDoor
namespace Pl
/-- The day on which a year begins. -/
def beg (y : Int) : Int := (y - 1) * 365 + (y - 1) / 4 - (y - 1) / 100 + (y - 1) / 400 - 719162
def leap (y : Int) : Bool := ((y % 4 == 0) && (y % 100 != 0)) || (y % 400 == 0)
set_option maxRecDepth 20000 in
theorem beg_next (y : Int) : beg (y + 1) = beg y + (if leap y then 366 else 365) := by
  unfold beg
  cases h : leap y
  · simp only [leap, Bool.or_eq_false_iff, Bool.and_eq_false_iff, beq_eq_false_iff_ne, bne_eq_false_iff_eq, ne_eq] at h
    simp only [Bool.false_eq_true, if_false]
    omega
  · simp only [leap, Bool.or_eq_true, Bool.and_eq_true, beq_iff_eq, bne_iff_ne, ne_eq] at h
    simp only [if_true]
    omega
set_option maxRecDepth 20000 in
theorem beg_low (y : Int) (h : 1970 ≤ y) : 365 * (y - 1970) ≤ beg y := by unfold beg; omega
set_option maxRecDepth 20000 in
theorem beg_high (y : Int) (h : 1970 ≤ y) : beg y ≤ 366 * (y - 1970) := by unfold beg; omega
set_option maxRecDepth 20000 in
theorem beg_end (y : Int) (h : 10000 ≤ y) : 2932897 ≤ beg y := by unfold beg; omega
/-- The year of a day: looked for from a year on. -/
def yrF (d : Int) : Nat → Int → Int
  | 0, y => y
  | k + 1, y => if beg (y + 1) ≤ d then yrF d k (y + 1) else y
def fuel (d y : Int) : Nat := (d + 719052 - 365 * y).toNat
def yr (d : Int) : Int := yrF d (fuel d (1970 + d / 366)) (1970 + d / 366)
set_option maxRecDepth 20000 in
theorem yrF_go (d y : Int) (h1 : 1970 ≤ y) (h : beg (y + 1) ≤ d) : yrF d (fuel d y) y = yrF d (fuel d (y + 1)) (y + 1) := by
  have hl := beg_low (y + 1) (by omega)
  obtain ⟨k, hk⟩ : ∃ k, fuel d y = k + 1 := ⟨fuel d y - 1, by unfold fuel; omega⟩
  rw [hk, yrF, if_pos h]
  -- more fuel than needed changes nothing
  have more : ∀ (a b : Nat) (y : Int), 1970 ≤ y → d - 365 * (y - 1970) < 365 * (a : Int) + 365 → d - 365 * (y - 1970) < 365 * (b : Int) + 365 → yrF d a y = yrF d b y := by
    intro a
    induction a with
    | zero =>
      intro b y hy ha hb
      have hn : ¬ beg (y + 1) ≤ d := by have := beg_low (y + 1) (by omega); omega
      cases b with
      | zero => rfl
      | succ b => rw [yrF, yrF, if_neg hn]
    | succ a ih =>
      intro b y hy ha hb
      cases b with
      | zero =>
        have hn : ¬ beg (y + 1) ≤ d := by have := beg_low (y + 1) (by omega); omega
        rw [yrF, yrF, if_neg hn]
      | succ b =>
        rw [yrF, yrF]
        split
        · exact ih b (y + 1) (by omega) (by omega) (by omega)
        · rfl
  refine more k (fuel d (y + 1)) (y + 1) (by omega) ?_ ?_
  · have : (fuel d y : Int) = d + 719052 - 365 * y := by unfold fuel; omega
    omega
  · unfold fuel; omega
set_option maxRecDepth 20000 in
theorem yrF_stop (d y : Int) (n : Nat) (h : ¬ beg (y + 1) ≤ d) : yrF d n y = y := by
  cases n with
  | zero => rfl
  | succ n => rw [yrF, if_neg h]
set_option maxRecDepth 20000 in
theorem beg_first (d : Int) (h0 : 0 ≤ d) : beg (1970 + d / 366) ≤ d := by
  have := beg_high (1970 + d / 366) (by omega)
  omega
/-- Days of a month, from 1 on. -/
def dm (y m : Int) : Int := if m = 4 ∨ m = 6 ∨ m = 9 ∨ m = 11 then 30 else if m = 2 then (if leap y then 29 else 28) else 31
set_option maxRecDepth 20000 in
theorem dm_pos (y m : Int) : 28 ≤ dm y m ∧ dm y m ≤ 31 := by unfold dm; split <;> (try split) <;> (try split) <;> omega
/-- Days of a month and of those behind it. -/
def tail (y m : Int) : Int := (if m ≤ 1 then 31 else 0) + (if m ≤ 2 then (if leap y then 29 else 28) else 0) + (if m ≤ 3 then 31 else 0) + (if m ≤ 4 then 30 else 0) + (if m ≤ 5 then 31 else 0) + (if m ≤ 6 then 30 else 0) + (if m ≤ 7 then 31 else 0) + (if m ≤ 8 then 31 else 0) + (if m ≤ 9 then 30 else 0) + (if m ≤ 10 then 31 else 0) + (if m ≤ 11 then 30 else 0) + (if m ≤ 12 then 31 else 0)
set_option maxRecDepth 20000 in
theorem cases12 (m : Int) (h1 : 1 ≤ m) (h2 : m ≤ 12) : m = 1 ∨ m = 2 ∨ m = 3 ∨ m = 4 ∨ m = 5 ∨ m = 6 ∨ m = 7 ∨ m = 8 ∨ m = 9 ∨ m = 10 ∨ m = 11 ∨ m = 12 := by omega
set_option maxRecDepth 20000 in
theorem tail_step (y m : Int) (h1 : 1 ≤ m) (h2 : m ≤ 12) : tail y m = dm y m + tail y (m + 1) := by
  rcases cases12 m h1 h2 with rfl | rfl | rfl | rfl | rfl | rfl | rfl | rfl | rfl | rfl | rfl | rfl <;> cases h : leap y <;> simp [tail, dm, h]
set_option maxRecDepth 20000 in
theorem tail_one (y : Int) : tail y 1 = if leap y then 366 else 365 := by
  cases h : leap y <;> simp [tail, h]
set_option maxRecDepth 20000 in
theorem tail_end (y : Int) : tail y 13 = 0 := by simp [tail]
/-- The month and what is left of the days. -/
def moF (y : Int) : Nat → Int → Int → Int × Int
  | 0, d, m => (m, d)
  | k + 1, d, m => if dm y m ≤ d then moF y k (d - dm y m) (m + 1) else (m, d)
def mo (d : Int) : Int × Int := moF (yr d) 12 (d - beg (yr d)) 1
set_option maxRecDepth 20000 in
theorem moF_go (y d m : Int) (k : Nat) (hk : (k : Int) = 13 - m) (h1 : 1 ≤ m) (h2 : m ≤ 12) (h : dm y m ≤ d) : moF y k d m = moF y (k - 1) (d - dm y m) (m + 1) := by
  obtain ⟨j, rfl⟩ : ∃ j, k = j + 1 := ⟨k - 1, by omega⟩
  rw [moF, if_pos h]
  rfl
set_option maxRecDepth 20000 in
theorem moF_stop (y d m : Int) (k : Nat) (h : ¬ dm y m ≤ d) : moF y k d m = (m, d) := by
  cases k with
  | zero => rfl
  | succ k => rw [moF, if_neg h]
end Pl
end Go.Proofs.YtacmhofekdjobaaGreatDoor
