
/- Numbers that the program reads: digits, numberOf. -/
import Derived.Test.YtmclnkcpflehdaaDoorSpecCut
import Derived.Test.YtmclnkcpflehdaaDoorBase
import Derived.Test.YtmclnkcpflehdaaDoorShelf
namespace Go.Proofs.YtmclnkcpflehdaaDoor
open Go.RowKit Go.Lib Go.Maps
set_option linter.unusedVariables false
set_option maxRecDepth 20000 in
theorem implDigitC (c : UInt8) (w : World) : Calls Tryd.prog 22 #[.int .u8 (c.toNat : Int)] w fun e w' => e = .returned (.bool (Cu.digit c)) ∧ w = w' := by
  have h8 : c.toNat < 256 := UInt8.toNat_lt _
  unfold Cu.digit
  generalize c.toNat = k at *
  have e1 : decide (48 ≤ k) = decide ((48 : Int) ≤ (k : Int)) := by rw [Bool.eq_iff_iff]; simp; omega
  have e2 : decide (k ≤ 57) = decide ((k : Int) ≤ 57) := by rw [Bool.eq_iff_iff]; simp; omega
  rw [e1, e2]
  clear e1 e2
  cases x1 : decide ((48 : Int) ≤ (k : Int)) <;> cases x2 : decide ((k : Int) ≤ 57)
  all_goals
    go_enter Tryd.func22, Tryd.ntmps22
    go_wp2
    go_ret
    exact ⟨rfl, rfl⟩
set_option maxRecDepth 20000 in
theorem kindDigitC : Kind 22 Cu.digit := ⟨Go.Proofs.enters_of Tryd.func22 (by kernel_rfl) rfl, implDigitC⟩
namespace Cu
def isNum (l : List UInt8) : Bool := !(decide (l.length = 0)) && (decide (l.length ≤ 10) && l.all digit)
set_option maxRecDepth 20000 in
theorem parse_ok : ∀ (l : List UInt8) (acc : Nat), l.all digit = true → (acc + 1) * 10 ^ l.length ≤ 1000000000000000000 → parseUintM 18446744073709551615 acc l = .ok (val acc l)
  | [], acc, _, _ => rfl
  | c :: r, acc, h, hb => by
    rw [List.all_cons, Bool.and_eq_true] at h
    obtain ⟨h1, h2⟩ := h
    unfold digit at h1
    simp only [Bool.and_eq_true, decide_eq_true_eq] at h1
    rw [List.length_cons, Nat.pow_succ, Nat.mul_comm (10 ^ r.length) 10, ← Nat.mul_assoc] at hb
    have hp : 1 ≤ 10 ^ r.length := Nat.succ_le_of_lt (Nat.pow_pos (by decide))
    have ha : (acc + 1) * 10 ≤ 1000000000000000000 := Nat.le_trans (Nat.le_mul_of_pos_right _ hp) hb
    have hn : (acc * 10 + (c.toNat - 48) + 1) * 10 ^ r.length ≤ 1000000000000000000 := Nat.le_trans (Nat.mul_le_mul_right _ (by omega)) hb
    unfold parseUintM
    rw [if_pos h1, if_neg (by omega), if_neg (by omega), parse_ok r _ h2 hn]
    rfl
set_option maxRecDepth 20000 in
theorem parse_int (l : List UInt8) (h : isNum l = true) : parseIntB 64 l = .ok ((val 0 l : Nat) : Int) := by
  unfold isNum at h
  simp only [Bool.and_eq_true, Bool.not_eq_true', decide_eq_false_iff_not, decide_eq_true_eq] at h
  obtain ⟨h0, h10, hd⟩ := h
  cases l with
  | nil => exact absurd rfl h0
  | cons c r =>
    have hc := hd
    rw [List.all_cons, Bool.and_eq_true] at hc
    have h1 := hc.1
    unfold digit at h1
    simp only [Bool.and_eq_true, decide_eq_true_eq] at h1
    have hpow : 10 ^ (c :: r).length ≤ 10 ^ 10 := Nat.pow_le_pow_right (by decide) h10
    have hk := parse_ok (c :: r) 0 hd (by
      have : (10 : Nat) ^ 10 = 10000000000 := rfl
      omega)
    have hv := val_lt (c :: r) 0 hd
    have hv2 : val 0 (c :: r) < 10000000000 := by
      have : (10 : Nat) ^ 10 = 10000000000 := rfl
      omega
    unfold parseIntB
    dsimp only
    rw [if_neg (by omega)]
    unfold parseUintB
    rw [if_neg (by simp), show 2 ^ 64 - 1 = 18446744073709551615 from rfl, hk]
    dsimp only
    rw [if_neg (by
      rintro ⟨-, h⟩
      have : (2 : Nat) ^ (64 - 1) = 9223372036854775808 := rfl
      omega), if_neg (by rintro ⟨h, -⟩; omega), if_neg (by omega)]
end Cu
set_option maxRecDepth 20000 in
theorem implNumberOf (t : ByteArray) (w : World) (hn : Cu.isNum t.data.toList = true) (hs : t.size ≤ 1048576) : Calls Tryd.prog 15 #[.string t] w fun e w' => e = .returned (.int .i64 ((Cu.val 0 t.data.toList : Nat) : Int)) ∧ Below w.heap.size w w' := by
  have cP0 := Tryd.strconv_ParseInt_10_at64_ok t (by omega) _ (Cu.parse_int _ hn) w
  have cP : Hid (Calls Tryd.prog 23 #[.string t, .int .i64 10, .int .i64 64] w fun e w' => e = .returned (.tuple #[.int .i64 ((Cu.val 0 t.data.toList : Nat) : Int), .nilIface]) ∧ Below w.heap.size w w') := by
    refine cP0.mono ?_
    rintro e w' ⟨rfl, h⟩
    refine ⟨rfl, ?_⟩
    rcases h with rfl | ⟨b, rfl⟩
    · exact Below.refl _ _
    · exact bytesWorld_below _ _ _
  clear cP0 hn
  generalize ((Cu.val 0 t.data.toList : Nat) : Int) = v at *
  go_enter Tryd.func15, Tryd.ntmps15
  go_wp2_with fail
  refine cP.out.mono ?_
  rintro e w1 ⟨rfl, hb⟩
  go_wp2
  go_ret
  exact ⟨rfl, hb⟩
end Go.Proofs.YtmclnkcpflehdaaDoor
