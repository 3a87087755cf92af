
/- The walk of the days ahead of a month. -/
import Derived.Test.YtacmhofekdjobaaGreatDoorDateWeek
namespace Go.Proofs.YtacmhofekdjobaaGreatDoor
open Go.RowKit Go.Lib
/-- The days of a year's first months. -/
def dsum (y : Int) : Nat → Int
  | 0 => 0
  | k + 1 => dsum y k + Pl.dm y (k + 1)
set_option maxRecDepth 20000 in
theorem dsum_bound (y : Int) : ∀ k : Nat, 0 ≤ dsum y k ∧ dsum y k ≤ 31 * k
  | 0 => ⟨Int.le_refl _, Int.le_refl _⟩
  | k + 1 => by
    have h := dsum_bound y k
    have d := Pl.dm_pos y (k + 1)
    show 0 ≤ dsum y k + Pl.dm y (k + 1) ∧ dsum y k + Pl.dm y (k + 1) ≤ 31 * ((k + 1 : Nat) : Int)
    omega
set_option maxRecDepth 20000 in
set_option maxHeartbeats 1000000 in
theorem implBeforeMonth (y : Int) (m : Nat) (w : World) (h0 : 1970 ≤ y) (h1 : y ≤ 9999) (hm : m ≤ 11) :
    Calls Tryz.prog 34 #[.int .i64 y, .int .i64 m] w fun e w' => e = .returned (.int .i64 (Pl.beg y + dsum y m)) ∧ w' = w := by
  have hB := implBefore y w h0 (by omega)
  have HD := (show Hid (∀ k : Nat, k < m → ∀ w, _) from fun (k : Nat) (hk : k < m) (w : World) => implDays y k w (by omega) (by omega) (by omega) (by omega))
  have b0 := Pl.beg_low y h0
  have b1 := Pl.beg_high y h0
  have b2 : 0 ≤ Pl.beg y := by omega
  have b3 : Pl.beg y ≤ 3000000 := by omega
  clear b0 b1
  generalize hbg : Pl.beg y = bg at *
  clear hbg
  go_enter Tryz.func34, Tryz.ntmps34
  go_wp2_with fail
  refine hB.mono ?_
  rintro e w1 ⟨rfl, rfl⟩
  clear hB
  go_wp2_with fail
  go_loopw [5, 10] (fun v u wr => ∃ k : Nat, v = .int .i64 (bg + dsum y k) ∧ u = .int .i64 k ∧ k ≤ m ∧ wr = w) (fun _ u _ => 12 - vN u)
  case atStart => exact ⟨0, by show _ = Value.int .i64 (bg + 0); rw [Int.add_zero], rfl, Nat.zero_le _, rfl⟩
  case round =>
    obtain ⟨k, rfl, rfl, hkm, rfl⟩ := hrel
    obtain ⟨d0, d1⟩ := dsum_bound y k
    by_cases hlt : k < m
    · have f1 : (k : Int) < (m : Int) := by omega
      have hC := HD.out k hlt
      obtain ⟨e0, e1⟩ := Pl.dm_pos y (k + 1)
      have HS := (show Hid (dsum y (k + 1) = dsum y k + Pl.dm y (k + 1)) from rfl)
      clear HD
      generalize dsum y k = ds at *
      generalize Pl.dm y (k + 1) = dk at *
      go_wp2_with fail
      refine (hC _).mono ?_
      rintro e w2 ⟨rfl, rfl⟩
      clear hC
      go_wp2_with fail
      go_roundw
      case rel => exact ⟨k + 1, by rw [HS.out, Int.add_assoc], rfl, by omega, trivial⟩
      case measure =>
        show 12 - ((k : Int) + 1).toNat < 12 - (k : Int).toNat
        omega
    · obtain rfl : k = m := by omega
      have f1 : ¬ (k : Int) < (k : Int) := by omega
      clear HD
      generalize hds : dsum y k = ds at *
      have Hds := (show Hid (dsum y k = ds) from hds)
      clear hds
      go_wp2_with fail
      go_ret
      exact ⟨by rw [Hds.out]; rfl, rfl⟩
end Go.Proofs.YtacmhofekdjobaaGreatDoor
