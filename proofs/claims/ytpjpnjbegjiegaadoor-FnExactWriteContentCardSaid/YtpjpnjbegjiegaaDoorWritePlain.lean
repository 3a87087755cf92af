/- Plain mathematics of how contents are written: lists of bytes alone. -/
import Derived.Test.YtpjpnjbegjiegaaDoorContPlain
import Derived.Lib.ItoaNum
namespace Go.Proofs.YtpjpnjbegjiegaaDoor
open Go.Lib
namespace Pl
def hexT : List UInt8 := [48, 49, 50, 51, 52, 53, 54, 55, 56, 57, 65, 66, 67, 68, 69, 70]
def hexD (n : Nat) : UInt8 := hexT.getD n 0
def az (c : UInt8) : Bool := decide (97 ≤ c.toNat ∧ c.toNat ≤ 122) || (decide (65 ≤ c.toNat ∧ c.toNat ≤ 90) || decide (48 ≤ c.toNat ∧ c.toNat ≤ 57))
def safe (c : UInt8) : Bool := az c || (c == 45 || (c == 46 || c == 95))
/-- A byte, coded. -/
def codeB (c : UInt8) : List UInt8 := if safe c then [c] else [37, hexD (c.toNat / 16), hexD (c.toNat % 16)]
theorem codeB_len (c : UInt8) : 1 ≤ (codeB c).length ∧ (codeB c).length ≤ 3 := by
  unfold codeB
  split <;> simp
def codeAll (v : List UInt8) : List UInt8 := v.flatMap codeB
/-- The pieces, cut ahead of each byte with which a piece would go beyond 60. -/
def cut : List UInt8 → List UInt8 → List (List UInt8)
  | [], last => [last]
  | b :: r, last => if 60 < last.length + (codeB b).length then last :: cut r (codeB b) else cut r (last ++ codeB b)
theorem cut_short : ∀ (v last : List UInt8), last.length + (codeAll v).length ≤ 60 → cut v last = [last ++ codeAll v]
  | [], last, _ => by simp [cut, codeAll]
  | b :: r, last, h => by
    have e : codeAll (b :: r) = codeB b ++ codeAll r := rfl
    rw [e, List.length_append] at h
    unfold cut
    rw [if_neg (by omega), cut_short r (last ++ codeB b) (by rw [List.length_append]; omega), e, List.append_assoc]
theorem cut_ne (v last : List UInt8) : 1 ≤ (cut v last).length := by
  induction v generalizing last with
  | nil => simp [cut]
  | cons b r ih =>
    unfold cut
    split
    · simp
    · exact ih _
theorem cut_long : ∀ (v last : List UInt8), 60 < last.length + (codeAll v).length → last.length ≤ 60 → 2 ≤ (cut v last).length
  | [], last, h, h2 => by simp [codeAll] at h; omega
  | b :: r, last, h, h2 => by
    have e : codeAll (b :: r) = codeB b ++ codeAll r := rfl
    rw [e, List.length_append] at h
    unfold cut
    split
    · have := cut_ne r (codeB b)
      simp only [List.length_cons]
      omega
    · exact cut_long r (last ++ codeB b) (by rw [List.length_append]; omega) (by rw [List.length_append]; omega)
def utf : List UInt8 := [117, 116, 102, 45, 56, 39, 39]
def named (name : List UInt8) (k : Nat) (p : List UInt8) : List UInt8 := [59, 32] ++ name ++ [42] ++ decDigits k ++ [42, 61] ++ (if k = 0 then utf else []) ++ p
def emit (name : List UInt8) : Nat → List (List UInt8) → List UInt8
  | _, [] => []
  | k, p :: r => named name k p ++ emit name (k + 1) r
theorem emit_cons (name : List UInt8) (k : Nat) (p : List UInt8) (r : List (List UInt8)) : emit name k (p :: r) = named name k p ++ emit name (k + 1) r := rfl
/-- A byte that may stand in a value that is one atom as it is written. -/
def pb (c : UInt8) : Bool := decide (c.toNat < 128) && (atom c && !(c == 42 || (c == 39 || (c == 37 || c == 61))))
def prn (c : UInt8) : Bool := decide (32 ≤ c.toNat) && decide (c.toNat ≤ 126)
def bare (v : List UInt8) : Bool := !v.isEmpty && v.all pb
theorem scan_pb : ∀ (v : List UInt8) (b : Bool), v.all pb = true → scan 0 b v = (b || !v.isEmpty)
  | [], b, _ => by cases b <;> rfl
  | c :: r, b, h => by
    rw [List.all_cons, Bool.and_eq_true] at h
    have ha : atom c = true := by
      have := h.1
      unfold pb at this
      simp only [Bool.and_eq_true] at this
      exact this.2.1
    unfold scan
    rw [if_pos ha, scan_pb r true h.2]
    cases b <;> simp
end Pl
end Go.Proofs.YtpjpnjbegjiegaaDoor
