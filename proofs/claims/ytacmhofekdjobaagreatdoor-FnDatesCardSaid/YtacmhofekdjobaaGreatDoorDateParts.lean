
/- The walks of the clock, the zone and the year. -/
import Derived.Test.YtacmhofekdjobaaGreatDoorDateText
namespace Go.Proofs.YtacmhofekdjobaaGreatDoor
open Go.RowKit Go.Lib
def clockT (t : Int) : ByteArray := Pl.two (t % 86400 / 3600) ++ ⟨#[58]⟩ ++ Pl.two (t % 3600 / 60) ++ ⟨#[58]⟩ ++ Pl.two (t % 60)
def signT (z : Int) : ByteArray := if z < 0 then ⟨#[45]⟩ else ⟨#[43]⟩
def absI (z : Int) : Int := if z < 0 then -z else z
def zoneT (z : Int) : ByteArray := signT z ++ Pl.two (absI z / 60) ++ Pl.two (absI z % 60)
set_option maxRecDepth 20000 in
theorem clock_size (t : Int) : (clockT t).size = 8 := by simp [clockT, ByteArray.size_append, Pl.two_size]; rfl
set_option maxRecDepth 20000 in
theorem zone_size (t : Int) : (zoneT t).size = 5 := by simp only [zoneT, ByteArray.size_append, Pl.two_size, signT]; split <;> rfl
set_option maxRecDepth 20000 in
set_option maxHeartbeats 1000000 in
theorem implClock (t : Int) (w : World) (h0 : 0 ≤ t) (h1 : t ≤ 253402300799) : Calls Tryz.prog 40 #[.int .i64 t] w fun e w' => e = .returned (.string (clockT t)) ∧ w' = w := by
  have a1 := fun w => implPad2 (t % 86400 / 3600) w (by omega) (by omega)
  have a2 := fun w => implPad2 (t % 86400 / 60 % 60) w (by omega) (by omega)
  have a3 := fun w => implPad2 (t % 60) w (by omega) (by omega)
  have HT : Hid (clockT t = Pl.two (t % 86400 / 3600) ++ ⟨#[58]⟩ ++ Pl.two (t % 86400 / 60 % 60) ++ ⟨#[58]⟩ ++ Pl.two (t % 60)) := show _ = _ from by
    rw [clockT, show t % 86400 / 60 % 60 = t % 3600 / 60 by omega]
  have z1 := Pl.two_size (t % 86400 / 3600)
  have z2 := Pl.two_size (t % 86400 / 60 % 60)
  have z3 := Pl.two_size (t % 60)
  generalize Pl.two (t % 86400 / 3600) = x1 at *
  generalize Pl.two (t % 86400 / 60 % 60) = x2 at *
  generalize Pl.two (t % 60) = x3 at *
  go_enter Tryz.func40, Tryz.ntmps40
  go_wp2_with fail
  refine (a1 _).mono ?_
  rintro e w2 ⟨rfl, rfl⟩
  go_wp2_with fail
  refine (a2 _).mono ?_
  rintro e w2 ⟨rfl, rfl⟩
  go_wp2_with fail
  refine (a3 _).mono ?_
  rintro e w2 ⟨rfl, rfl⟩
  go_wp2
  go_ret
  rw [HT.out]
  exact ⟨rfl, rfl⟩
set_option maxRecDepth 20000 in
set_option maxHeartbeats 1000000 in
theorem specClock (t : Int) (w : World) (h0 : 0 ≤ t) (h1 : t ≤ 253402300799) : Calls Tryz.prog 20 #[.int .i64 t] w fun e w' => e = .returned (.string (clockT t)) ∧ Below w.heap.size w w' := by
  have a1 := fun w => specTwo (t % 86400 / 3600) w (by omega) (by omega)
  have a2 := fun w => specTwo (t % 3600 / 60) w (by omega) (by omega)
  have a3 := fun w => specTwo (t % 60) w (by omega) (by omega)
  have z1 := Pl.two_size (t % 86400 / 3600)
  have z2 := Pl.two_size (t % 3600 / 60)
  have z3 := Pl.two_size (t % 60)
  unfold clockT
  generalize Pl.two (t % 86400 / 3600) = x1 at *
  generalize Pl.two (t % 3600 / 60) = x2 at *
  generalize Pl.two (t % 60) = x3 at *
  go_enter Tryz.func20, Tryz.ntmps20
  go_wp2_with fail
  refine (a1 _).mono ?_
  rintro e w2 ⟨rfl, b1⟩
  go_wp2_with fail
  refine (a2 _).mono ?_
  rintro e w3 ⟨rfl, b2⟩
  go_wp2_with fail
  refine (a3 _).mono ?_
  rintro e w4 ⟨rfl, b3⟩
  go_wp2
  go_ret
  exact ⟨rfl, b1.trans ((b2.trans (b3.mono b2.size)).mono b1.size)⟩
set_option maxRecDepth 20000 in
set_option maxHeartbeats 1000000 in
theorem implZone (z : Int) (w : World) (h0 : -1439 ≤ z) (h1 : z ≤ 1439) : Calls Tryz.prog 41 #[.int .i64 z] w fun e w' => e = .returned (.string (zoneT z)) ∧ w' = w := by
  unfold zoneT signT absI
  rcases Int.lt_or_le z 0 with h | h
  · rw [if_pos h, if_pos h]
    obtain ⟨k, rfl⟩ : ∃ k : Int, z = -k := ⟨-z, by omega⟩
    rw [Int.neg_neg]
    have hk0 : 0 < k := by omega
    have hk1 : k ≤ 1439 := by omega
    have a1 := fun w => implPad2 (k / 60) w (by omega) (by omega)
    have a2 := fun w => implPad2 (k % 60) w (by omega) (by omega)
    have z1 := Pl.two_size (k / 60)
    have z2 := Pl.two_size (k % 60)
    generalize Pl.two (k / 60) = x1 at *
    generalize Pl.two (k % 60) = x2 at *
    go_enter Tryz.func41, Tryz.ntmps41
    go_wp2_with fail
    refine (a1 _).mono ?_
    rintro e w2 ⟨rfl, rfl⟩
    go_wp2_with fail
    refine (a2 _).mono ?_
    rintro e w2 ⟨rfl, rfl⟩
    go_wp2
    go_ret
    exact ⟨rfl, rfl⟩
  · rw [if_neg (by omega), if_neg (by omega)]
    have a1 := fun w => implPad2 (z / 60) w (by omega) (by omega)
    have a2 := fun w => implPad2 (z % 60) w (by omega) (by omega)
    have z1 := Pl.two_size (z / 60)
    have z2 := Pl.two_size (z % 60)
    generalize Pl.two (z / 60) = x1 at *
    generalize Pl.two (z % 60) = x2 at *
    go_enter Tryz.func41, Tryz.ntmps41
    go_wp2_with fail
    refine (a1 _).mono ?_
    rintro e w2 ⟨rfl, rfl⟩
    go_wp2_with fail
    refine (a2 _).mono ?_
    rintro e w2 ⟨rfl, rfl⟩
    go_wp2
    go_ret
    exact ⟨rfl, rfl⟩
set_option maxRecDepth 20000 in
set_option maxHeartbeats 1000000 in
theorem specZone (z : Int) (w : World) (h0 : -1439 ≤ z) (h1 : z ≤ 1439) : Calls Tryz.prog 21 #[.int .i64 z] w fun e w' => e = .returned (.string (zoneT z)) ∧ Below w.heap.size w w' := by
  unfold zoneT signT absI
  rcases Int.lt_or_le z 0 with h | h
  · rw [if_pos h, if_pos h]
    obtain ⟨k, rfl⟩ : ∃ k : Int, z = -k := ⟨-z, by omega⟩
    rw [Int.neg_neg]
    have hk0 : 0 < k := by omega
    have hk1 : k ≤ 1439 := by omega
    have a1 := fun w => specTwo (k / 60) w (by omega) (by omega)
    have a2 := fun w => specTwo (k % 60) w (by omega) (by omega)
    have z1 := Pl.two_size (k / 60)
    have z2 := Pl.two_size (k % 60)
    generalize Pl.two (k / 60) = x1 at *
    generalize Pl.two (k % 60) = x2 at *
    go_enter Tryz.func21, Tryz.ntmps21
    go_wp2_with fail
    refine (a1 _).mono ?_
    rintro e w2 ⟨rfl, b1⟩
    go_wp2_with fail
    refine (a2 _).mono ?_
    rintro e w3 ⟨rfl, b2⟩
    go_wp2
    go_ret
    exact ⟨rfl, b1.trans (b2.mono b1.size)⟩
  · rw [if_neg (by omega), if_neg (by omega)]
    have a1 := fun w => specTwo (z / 60) w (by omega) (by omega)
    have a2 := fun w => specTwo (z % 60) w (by omega) (by omega)
    have z1 := Pl.two_size (z / 60)
    have z2 := Pl.two_size (z % 60)
    generalize Pl.two (z / 60) = x1 at *
    generalize Pl.two (z % 60) = x2 at *
    go_enter Tryz.func21, Tryz.ntmps21
    go_wp2_with fail
    refine (a1 _).mono ?_
    rintro e w2 ⟨rfl, b1⟩
    go_wp2_with fail
    refine (a2 _).mono ?_
    rintro e w3 ⟨rfl, b2⟩
    go_wp2
    go_ret
    exact ⟨rfl, b1.trans (b2.mono b1.size)⟩
set_option maxRecDepth 20000 in
set_option maxHeartbeats 1000000 in
theorem specYear (y : Int) (w : World) (h0 : 0 ≤ y) (h1 : y ≤ 9999) : Calls Tryz.prog 19 #[.int .i64 y] w fun e w' => e = .returned (.string (Pl.two (y / 100) ++ Pl.two (y % 100))) ∧ Below w.heap.size w w' := by
  have a1 := fun w => specTwo (y / 100) w (by omega) (by omega)
  have a2 := fun w => specTwo (y % 100) w (by omega) (by omega)
  have z1 := Pl.two_size (y / 100)
  have z2 := Pl.two_size (y % 100)
  generalize Pl.two (y / 100) = x1 at *
  generalize Pl.two (y % 100) = x2 at *
  go_enter Tryz.func19, Tryz.ntmps19
  go_wp2_with fail
  refine (a1 _).mono ?_
  rintro e w2 ⟨rfl, b1⟩
  go_wp2_with fail
  refine (a2 _).mono ?_
  rintro e w3 ⟨rfl, b2⟩
  go_wp2
  go_ret
  exact ⟨rfl, b1.trans (b2.mono b1.size)⟩
end Go.Proofs.YtacmhofekdjobaaGreatDoor
