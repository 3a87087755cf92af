
/- Plain mathematics of domains and boxes: lists of bytes alone; no program. -/
import Derived.Test.YtgabjiamabbheaaGreatDoorPhrasePlain
namespace Go.Proofs.YtgabjiamabbheaaGreatDoor
open Go.Lib
namespace Pl
/-- A byte of a literal. -/
def litB (c : UInt8) : Bool := decide (32 ≤ c.toNat) && (decide (c.toNat ≤ 126) && (!(c == 91) && (!(c == 93) && !(c == 92))))
/-- What stands between the first byte and the last. -/
def mid (l : List UInt8) : List UInt8 := (l.take (l.length - 1)).drop 1
def isLit (l : List UInt8) : Bool := hasPrefix l [91] && (hasSuffix (trimPrefix l [91]) [93] && (trimSuffix (trimPrefix l [91]) [93]).all litB)
def domI (l : List UInt8) : Bool := decide (l.length ≤ 255) && (scan 46 false l || isLit l)
set_option maxRecDepth 20000 in
theorem atom_open : atom 91 = false := by decide +kernel
set_option maxRecDepth 20000 in
theorem scan_open (r : List UInt8) : scan 46 false (91 :: r) = false := by
  rw [scan, if_neg (by rw [atom_open]; simp), if_neg (by decide)]
set_option maxRecDepth 20000 in
/-- A text that opens with no bracket. -/
theorem dom_atoms (l : List UInt8) (c : UInt8) (r : List UInt8) (e : l = c :: r) (h : c ≠ 91) (hn : l.length ≤ 255) : domI l = scan 46 false l := by
  have hp : hasPrefix l [91] = false := by rw [e, hasPrefix]; simp [List.isPrefixOf, Ne.symm h]
  rw [domI, isLit, hp, decide_eq_true hn]
  simp
set_option maxRecDepth 20000 in
theorem suf (r : List UInt8) (d : UInt8) (h : 1 ≤ r.length) : hasSuffix r [d] = (r[r.length - 1] == d) := by
  obtain ⟨x, y, rfl⟩ : ∃ x y, r = x ++ [y] := ⟨r.dropLast, r.getLast (by intro e; rw [e] at h; simp at h), (List.dropLast_concat_getLast _).symm⟩
  rw [hasSuffix]
  simp [List.isSuffixOf, List.isPrefixOf]
  by_cases e : d = y
  · subst e; simp
  · have : (d == y) = false := by simpa using e
    have : (y == d) = false := by simpa using Ne.symm e
    simp [*]
set_option maxRecDepth 20000 in
theorem dom_lit (l : List UInt8) (r : List UInt8) (e : l = 91 :: r) (hn : l.length ≤ 255) : domI l = isLit l := by
  rw [domI, decide_eq_true hn, e, scan_open]
  simp
set_option maxRecDepth 20000 in
theorem lit_short (l : List UInt8) (r : List UInt8) (e : l = 91 :: r) (h : l.length < 2) : isLit l = false := by
  have : r = [] := by rw [e] at h; simp at h; exact List.length_eq_zero_iff.1 (by omega)
  rw [e, this]; rfl
set_option maxRecDepth 20000 in
theorem lit_open (l : List UInt8) (r : List UInt8) (e : l = 91 :: r) (h : 2 ≤ l.length) (hl : l[l.length - 1] ≠ 93) : isLit l = false := by
  subst e
  have h1 : 1 ≤ r.length := by simpa using h
  have hp : hasPrefix (91 :: r) [91] = true := by simp [hasPrefix, List.isPrefixOf]
  have hg : (91 :: r)[(91 :: r).length - 1]'(by simp) = r[r.length - 1] := by
    have : (91 :: r).length - 1 = (r.length - 1) + 1 := by simp; omega
    simp only [this, List.getElem_cons_succ]
  rw [hg] at hl
  rw [isLit, trimPrefix, hp, if_pos rfl]
  simp only [List.length_cons, List.length_nil, List.drop_succ_cons, List.drop_zero]
  rw [suf r 93 h1]
  have : (r[r.length - 1] == 93) = false := by simpa using hl
  rw [this]
  simp
set_option maxRecDepth 20000 in
theorem lit_mid (l : List UInt8) (r : List UInt8) (e : l = 91 :: r) (h : 2 ≤ l.length) (hl : l[l.length - 1] = 93) : isLit l = (mid l).all litB := by
  subst e
  have h1 : 1 ≤ r.length := by simpa using h
  have hp : hasPrefix (91 :: r) [91] = true := by simp [hasPrefix, List.isPrefixOf]
  have hg : (91 :: r)[(91 :: r).length - 1]'(by simp) = r[r.length - 1] := by
    have : (91 :: r).length - 1 = (r.length - 1) + 1 := by simp; omega
    simp only [this, List.getElem_cons_succ]
  rw [hg] at hl
  have hs : hasSuffix r [93] = true := by rw [suf r 93 h1, hl]; rfl
  have e1 : trimPrefix (91 :: r) [91] = r := by rw [trimPrefix, hp, if_pos rfl]; rfl
  rw [isLit, hp, e1, hs, trimSuffix, hs, if_pos rfl, mid]
  have : (91 :: r).length - 1 = (r.length - 1) + 1 := by simp; omega
  rw [this]
  simp
set_option maxRecDepth 20000 in
theorem mid_step (l : List UInt8) (k : Nat) (hk : k < l.length - 1) : (((l.take (l.length - 1)).drop k).all litB) = (litB (l[k]'(by omega)) && ((l.take (l.length - 1)).drop (k + 1)).all litB) := by
  rw [List.drop_eq_getElem_cons (by simp; omega), List.all_cons]
  simp
set_option maxRecDepth 20000 in
theorem mid_done (l : List UInt8) (k : Nat) (hk : l.length - 1 ≤ k) : (((l.take (l.length - 1)).drop k).all litB) = true := by
  rw [List.drop_eq_nil_of_le (by simp; omega)]
  rfl
end Pl
end Go.Proofs.YtgabjiamabbheaaGreatDoor
