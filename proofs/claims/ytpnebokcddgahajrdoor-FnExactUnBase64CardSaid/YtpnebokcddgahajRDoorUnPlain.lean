/- Plain mathematics of taking base 64: lists of bytes alone; no program. -/
import Derived.Test.YtpnebokcddgahajRDoorLowPlain
import Derived.Laws.Strings
namespace Go.Proofs.YtpnebokcddgahajRDoor
namespace Pl

/-- The digit of a number of six bits. -/
def d64 (n : Nat) : UInt8 := if n < 26 then UInt8.ofNat (65 + n) else if n < 52 then UInt8.ofNat (71 + n) else if n < 62 then UInt8.ofNat (n - 4) else if n = 62 then 43 else 47

theorem d64_a (n : Nat) (h : n < 26) : ((d64 n).toNat : Int) = 65 + n := by
  unfold d64
  rw [if_pos h, UInt8.toNat_ofNat_of_lt' (by simp [UInt8.size]; omega)]
  omega
theorem d64_b (n : Nat) (h0 : 26 ≤ n) (h : n < 52) : ((d64 n).toNat : Int) = 97 + n - 26 := by
  unfold d64
  rw [if_neg (by omega), if_pos h, UInt8.toNat_ofNat_of_lt' (by simp [UInt8.size]; omega)]
  omega
theorem d64_c (n : Nat) (h0 : 52 ≤ n) (h : n < 62) : ((d64 n).toNat : Int) = 48 + n - 52 := by
  unfold d64
  rw [if_neg (by omega), if_neg (by omega), if_pos h, UInt8.toNat_ofNat_of_lt' (by simp [UInt8.size]; omega)]
  omega

/-- The number of a digit, as the tests on a byte tell it; 64: it is none. -/
def val (c : UInt8) : Nat :=
  if 65 ≤ c.toNat ∧ c.toNat ≤ 90 then c.toNat - 65 else if 97 ≤ c.toNat ∧ c.toNat ≤ 122 then c.toNat - 71 else if 48 ≤ c.toNat ∧ c.toNat ≤ 57 then c.toNat + 4 else if c.toNat = 43 then 62 else if c.toNat = 47 then 63 else 64

theorem val_le (c : UInt8) : val c ≤ 64 := by
  unfold val
  repeat' split
  all_goals omega
theorem d64_nat (n : Nat) (h : n < 64) : (d64 n).toNat = if n < 26 then 65 + n else if n < 52 then 71 + n else if n < 62 then n - 4 else if n = 62 then 43 else 47 := by
  unfold d64
  repeat' split
  all_goals first | rfl | (rw [UInt8.toNat_ofNat_of_lt' (by simp [UInt8.size]; omega)])
/-- A byte is the digit n just if its number is n. -/
theorem d64_val (c : UInt8) (n : Nat) (h : n < 64) : (d64 n).toNat = c.toNat ↔ val c = n := by
  have h8 : c.toNat < 256 := UInt8.toNat_lt _
  rw [d64_nat n h]
  unfold val
  constructor
  · intro e
    repeat' split at e
    all_goals (repeat' split) <;> omega
  · intro e
    repeat' split at e
    all_goals (repeat' split) <;> omega

def isSpace (c : UInt8) : Bool := c.toNat == 32 || c.toNat == 9 || c.toNat == 13 || c.toNat == 10
def strip (l : List UInt8) : List UInt8 := l.filter fun c => !isSpace c

theorem strip_take (l : List UInt8) (k : Nat) (h : k < l.length) : strip (l.take (k + 1)) = strip (l.take k) ++ (if isSpace l[k] then [] else [l[k]]) := by
  unfold strip
  rw [List.take_succ_eq_append_getElem h, List.filter_append]
  by_cases e : isSpace l[k] = true <;> simp [e]
theorem strip_len (l : List UInt8) (k : Nat) : (strip (l.take k)).length ≤ k := by
  unfold strip
  exact Nat.le_trans (List.length_filter_le _ _) (List.length_take_le _ _)

/-- What one group of four says; the flag: it is the last one. -/
def quad (last : Bool) (a b c e : UInt8) : Option (List UInt8) :=
  if val a < 64 ∧ val b < 64 ∧ val c < 64 ∧ val e < 64 then
    some [UInt8.ofNat (val a * 4 + val b / 16), UInt8.ofNat (val b % 16 * 16 + val c / 4), UInt8.ofNat (val c % 4 * 64 + val e)]
  else if last = true ∧ val a < 64 ∧ val b < 64 ∧ val b % 16 = 0 ∧ c = 61 ∧ e = 61 then some [UInt8.ofNat (val a * 4 + val b / 16)]
  else if last = true ∧ val a < 64 ∧ val b < 64 ∧ val c < 64 ∧ val c % 4 = 0 ∧ e = 61 then some [UInt8.ofNat (val a * 4 + val b / 16), UInt8.ofNat (val b % 16 * 16 + val c / 4)]
  else none

/-- The groups, one by one. -/
def quads : List UInt8 → Option (List UInt8)
  | [] => some []
  | a :: b :: c :: e :: r => (quad r.isEmpty a b c e).bind fun x => (quads r).map fun y => x ++ y
  | _ => none

def un64 (l : List UInt8) : Option (List UInt8) := if (strip l).length % 4 = 0 then quads (strip l) else none
end Pl
end Go.Proofs.YtpnebokcddgahajRDoor
