
/- The walks of a date's digits. -/
import Derived.Test.YtacmhofekdjobaaGreatDoorCalendar
import Derived.Lib.ItoaNum
import Derived.Lib.AppendIntMem
namespace Go.Proofs.YtacmhofekdjobaaGreatDoor
open Go.RowKit Go.Lib
namespace Pl
def twoN (n : Nat) : List UInt8 := [UInt8.ofNat (48 + n / 10), UInt8.ofNat (48 + n % 10)]
def two (n : Int) : ByteArray := ⟨(twoN n.toNat).toArray⟩
set_option maxRecDepth 20000 in
theorem two_size (n : Int) : (two n).size = 2 := rfl
set_option maxRecDepth 20000 in
theorem dec_one (n : Nat) (h : n < 10) : decDigits n = [UInt8.ofNat (48 + n)] := by rw [decDigits, dif_pos h]
set_option maxRecDepth 20000 in
theorem dec_two (n : Nat) (h0 : ¬ n < 10) (h : n < 100) : decDigits n = twoN n := by rw [decDigits, dif_neg h0, dec_one _ (by omega)]; rfl
set_option maxRecDepth 20000 in
theorem dec_four (n : Nat) (h0 : 1000 ≤ n) (h : n < 10000) : decDigits n = twoN (n / 100) ++ twoN (n % 100) := by
  rw [decDigits, dif_neg (by omega), decDigits, dif_neg (by omega), dec_two _ (by omega) (by omega)]
  have e1 : n / 10 / 10 = n / 100 := by omega
  have e2 : n / 10 % 10 = n % 100 / 10 := by omega
  have e3 : n % 10 = n % 100 % 10 := by omega
  rw [e1, e2, e3]
  rfl
set_option maxRecDepth 20000 in
theorem ba_append (a b : List UInt8) : (ByteArray.mk a.toArray) ++ (ByteArray.mk b.toArray) = ByteArray.mk (a ++ b).toArray := by
  apply ByteArray.ext
  simp
set_option maxRecDepth 20000 in
theorem two_small (n : Nat) (h : n < 10) : (ByteArray.mk #[48]) ++ (ByteArray.mk (decDigits n).toArray) = two (n : Int) := by
  have : (ByteArray.mk #[48]) = ByteArray.mk ([48] : List UInt8).toArray := rfl
  rw [this, ba_append, dec_one n h, two, twoN]
  have e1 : (n : Int).toNat / 10 = 0 := by omega
  have e2 : (n : Int).toNat % 10 = n := by omega
  rw [e1, e2]
  rfl
set_option maxRecDepth 20000 in
theorem two_big (n : Nat) (h0 : ¬ n < 10) (h : n < 100) : (ByteArray.mk #[]) ++ (ByteArray.mk (decDigits n).toArray) = two (n : Int) := by
  have : (ByteArray.mk #[]) = ByteArray.mk ([] : List UInt8).toArray := rfl
  rw [this, ba_append, dec_two n h0 h, two]
  rfl
set_option maxRecDepth 20000 in
theorem four (n : Nat) (h0 : 1000 ≤ n) (h : n < 10000) : (ByteArray.mk #[]) ++ (ByteArray.mk (itoa (n : Int)).toArray) = two ((n : Int) / 100) ++ two ((n : Int) % 100) := by
  have : (ByteArray.mk #[]) = ByteArray.mk ([] : List UInt8).toArray := rfl
  rw [this, ba_append, itoa, if_neg (by omega), Int.toNat_natCast, dec_four n h0 h, two, two, ba_append, List.nil_append]
  have e1 : ((n : Int) / 100).toNat = n / 100 := by omega
  have e2 : ((n : Int) % 100).toNat = n % 100 := by omega
  rw [e1, e2]
end Pl
set_option maxRecDepth 20000 in
set_option maxHeartbeats 400000 in
theorem implPad2 (n : Int) (w : World) (h0 : 0 ≤ n) (h1 : n < 100) : Calls Tryz.prog 75 #[.int .i64 n, .int .i64 2] w fun e w' => e = .returned (.string (Pl.two n)) ∧ w' = w := by
  obtain ⟨k, rfl⟩ : ∃ k : Nat, n = k := ⟨n.toNat, by omega⟩
  have hF := Tryz.strconv_FormatInt_10_small k (by omega) w
  by_cases hk : k < 10
  · have hx := Pl.two_small k hk
    have hz : (ByteArray.mk (decDigits k).toArray).size = 1 := by rw [Pl.dec_one k hk]; rfl
    have hR := Tryz.strings_Repeat_one ⟨#[48]⟩ w
    generalize ByteArray.mk (decDigits k).toArray = x at *
    have Hx := (show Hid _ from hx)
    clear hx
    go_enter Tryz.func75, Tryz.ntmps75
    go_wp2_with fail
    refine hF.mono ?_
    rintro e w2 ⟨rfl, rfl⟩
    go_wp2_with fail
    refine hR.mono ?_
    rintro e w3 ⟨rfl, rfl⟩
    go_wp2
    go_ret
    rw [← Hx.out]
    exact ⟨rfl, rfl⟩
  · have hx := Pl.two_big k hk (by omega)
    have hz : (ByteArray.mk (decDigits k).toArray).size = 2 := by rw [Pl.dec_two k hk (by omega)]; rfl
    have hR := Tryz.strings_Repeat_zero ⟨#[48]⟩ w
    generalize ByteArray.mk (decDigits k).toArray = x at *
    have Hx := (show Hid _ from hx)
    clear hx
    go_enter Tryz.func75, Tryz.ntmps75
    go_wp2_with fail
    refine hF.mono ?_
    rintro e w2 ⟨rfl, rfl⟩
    go_wp2_with fail
    refine hR.mono ?_
    rintro e w3 ⟨rfl, rfl⟩
    go_wp2
    go_ret
    rw [← Hx.out]
    exact ⟨rfl, rfl⟩
set_option maxRecDepth 20000 in
set_option maxHeartbeats 400000 in
theorem implPad4 (n : Int) (w : World) (h0 : 1000 ≤ n) (h1 : n < 10000) (htab : Lib.TabIs Tryz.prog w "internal/strconv.uint64pow10" .u64 Lib.pow10Tab) : Calls Tryz.prog 75 #[.int .i64 n, .int .i64 4] w fun e w' => e = .returned (.string (Pl.two (n / 100) ++ Pl.two (n % 100))) ∧ Below w.heap.size w w' := by
  obtain ⟨k, rfl⟩ : ∃ k : Nat, n = k := ⟨n.toNat, by omega⟩
  have hF := Tryz.strconv_FormatInt_10 (k : Int) (by omega) (by omega) w htab
  clear htab
  have hx := Pl.four k (by omega) (by omega)
  have hz : (ByteArray.mk (itoa (k : Int)).toArray).size = 4 := by
    show (itoa (k : Int)).toArray.size = 4
    rw [itoa, if_neg (by omega), Int.toNat_natCast, Pl.dec_four k (by omega) (by omega)]; rfl
  have hR := fun w => Tryz.strings_Repeat_zero ⟨#[48]⟩ w
  generalize ByteArray.mk (itoa (k : Int)).toArray = x at *
  have Hx := (show Hid _ from hx)
  clear hx
  go_enter Tryz.func75, Tryz.ntmps75
  go_wp2_with fail
  refine hF.mono ?_
  rintro e w2 ⟨rfl, j, os, hw2⟩
  have hb2 : Below w.heap.size w w2 := by rw [hw2]; exact below_grow _ w (Nat.le_refl _) j os
  clear hw2
  go_wp2_with fail
  refine (hR _).mono ?_
  rintro e w3 ⟨rfl, rfl⟩
  go_wp2
  go_ret
  rw [← Hx.out]
  exact ⟨rfl, hb2⟩
set_option maxRecDepth 20000 in
set_option maxHeartbeats 400000 in
theorem specTwo (n : Int) (w : World) (h0 : 0 ≤ n) (h1 : n < 100) : Calls Tryz.prog 17 #[.int .i64 n] w fun e w' => e = .returned (.string (Pl.two n)) ∧ Below w.heap.size w w' := by
  have ha : ((UInt8.ofNat (48 + n.toNat / 10)).toNat : Int) = 48 + n / 10 := by
    rw [UInt8.toNat_ofNat_of_lt' (by simp [UInt8.size]; omega)]; omega
  have hb : ((UInt8.ofNat (48 + n.toNat % 10)).toNat : Int) = 48 + n % 10 := by
    rw [UInt8.toNat_ofNat_of_lt' (by simp [UInt8.size]; omega)]; omega
  have hcv : (convert 22 9 (.slice (some ⟨w.heap.size, 0, none⟩) 2 2)).run Tryz.prog (w.alloc (.cells #[.int .u8 (48 + n / 10), .int .u8 (48 + n % 10)] 5)) = .ok (.string (Pl.two n)) (w.alloc (.cells #[.int .u8 (48 + n / 10), .int .u8 (48 + n % 10)] 5)) := by
    rw [← ha, ← hb]
    refine run_convert_bytes_back (P := Tryz.prog) _ 22 9 5 ⟨w.heap.size, 0, none⟩ 2 (Pl.twoN n.toNat) Tryz.underlying22 Tryz.underlying5 Tryz.underlying9 ?_
    intro j hj
    match j, hj with
    | 0, hj => simp [Addr.add, Pl.twoN]
    | 1, hj => simp [Addr.add, Pl.twoN]
  have hbA : Below w.heap.size w (w.alloc (.cells #[.int .u8 (48 + n / 10), .int .u8 (48 + n % 10)] 5)) := (Below.refl _ _).alloc (Nat.le_refl _) _
  clear ha hb
  go_enter Tryz.func17, Tryz.ntmps17
  go_wp2
  go_ret
  exact ⟨rfl, hbA⟩
end Go.Proofs.YtacmhofekdjobaaGreatDoor
