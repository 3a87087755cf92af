/- Plain mathematics of Normal: lists of bytes alone; no program. -/
import Derived.Lib.UnsafeStr
import Derived.Laws.Strings
namespace Go.Proofs.Ytpnebokcddgahai
namespace Pl

/-- Each end of a line a line end; the flag tells that the byte ahead was 13. -/
def nf : Bool → List UInt8 → List UInt8
  | _, [] => []
  | cr, c :: r => if c = 13 then 13 :: 10 :: nf true r else if c = 10 then (if cr then nf false r else 13 :: 10 :: nf false r) else c :: nf false r

def nrm (l : List UInt8) : List UInt8 := nf false l

theorem nf_true (d : UInt8) (r : List UInt8) (h : d ≠ 10) : nf true (d :: r) = nf false (d :: r) := by simp [nf, h]

/-- Nothing, or its last byte is 10. -/
def endB (p : List UInt8) : Bool := p.isEmpty || p.getLast? == some 10

def fin (p : List UInt8) : List UInt8 := if endB p then p else p ++ [13, 10]

theorem endB_nil : endB [] = true := rfl
theorem endB_crlf (p : List UInt8) : endB (p ++ [13, 10]) = true := by simp [endB]
theorem endB_other (p : List UInt8) (c : UInt8) (h : c ≠ 10) : endB (p ++ [c]) = false := by simp [endB, h]

theorem drop_cons (l : List UInt8) (k : Nat) (h : k < l.length) : l.drop k = l[k] :: l.drop (k + 1) := by
  rw [List.drop_eq_getElem_cons h]

theorem step_crlf (l p : List UInt8) (k : Nat) (h : k + 1 < l.length) (h0 : l[k] = 13) (h1 : l[k + 1] = 10) (hp : p ++ nrm (l.drop k) = nrm l) :
    (p ++ [13, 10]) ++ nrm (l.drop (k + 2)) = nrm l := by
  rw [drop_cons l k (by omega), drop_cons l (k + 1) h, h0, h1] at hp
  simpa [nrm, nf] using hp

theorem step_cr (l p : List UInt8) (k : Nat) (h : k < l.length) (h0 : l[k] = 13) (h1 : ∀ h : k + 1 < l.length, l[k + 1] ≠ 10) (hp : p ++ nrm (l.drop k) = nrm l) :
    (p ++ [13, 10]) ++ nrm (l.drop (k + 1)) = nrm l := by
  rw [drop_cons l k h, h0] at hp
  by_cases hk : k + 1 < l.length
  · have := h1 hk
    rw [drop_cons l (k + 1) hk] at hp ⊢
    generalize l[k + 1] = d at *
    have e : nrm (13 :: d :: l.drop (k + 1 + 1)) = 13 :: 10 :: nrm (d :: l.drop (k + 1 + 1)) := by
      rw [nrm, nf, if_pos rfl, nf_true d _ this]; rfl
    rw [e] at hp
    simpa using hp
  · rw [List.drop_eq_nil_of_le (by omega)] at hp ⊢
    simpa [nrm, nf] using hp

theorem step_lf (l p : List UInt8) (k : Nat) (h : k < l.length) (h0 : l[k] = 10) (hp : p ++ nrm (l.drop k) = nrm l) :
    (p ++ [13, 10]) ++ nrm (l.drop (k + 1)) = nrm l := by
  rw [drop_cons l k h, h0] at hp
  simpa [nrm, nf] using hp

theorem step_other (l p : List UInt8) (k : Nat) (h : k < l.length) (h0 : l[k] ≠ 13) (h1 : l[k] ≠ 10) (hp : p ++ nrm (l.drop k) = nrm l) :
    (p ++ [l[k]]) ++ nrm (l.drop (k + 1)) = nrm l := by
  rw [drop_cons l k h] at hp
  simpa [nrm, nf, h0, h1] using hp

theorem done (l p : List UInt8) (k : Nat) (h : l.length ≤ k) (hp : p ++ nrm (l.drop k) = nrm l) : p = nrm l := by
  rw [List.drop_eq_nil_of_le h] at hp
  simpa [nrm, nf] using hp

end Pl
end Go.Proofs.Ytpnebokcddgahai
namespace Go.Proofs.Ytpnebokcddgahai
namespace Pl
/-- What the tests say of a byte. -/
theorem byte_eq (c d : UInt8) (n : Int) (hn : n = (d.toNat : Int)) (h : ((c.toNat : Int) == n) = true) : c = d := by
  subst hn
  have h := beq_iff_eq.1 h
  exact UInt8.toNat_inj.1 (by omega)
theorem byte_ne (c d : UInt8) (n : Int) (hn : n = (d.toNat : Int)) (h : ((c.toNat : Int) == n) = false) : c ≠ d := by
  subst hn
  rintro rfl
  simp at h
theorem at_list (s : ByteArray) (k : Nat) (h : k < s.size) : s.data.toList[k]'(by simpa using h) = s[k] := rfl
theorem len_list (s : ByteArray) : s.data.toList.length = s.size := by simp
theorem ext_list (s : ByteArray) (a b : Nat) : (s.extract a b).toList = (s.data.toList.drop a).take (b - a) := by
  rw [ByteArray.toList_eq]
  simp
theorem ext_data (s : ByteArray) (a b : Nat) : (s.extract a b).data.toList = (s.data.toList.drop a).take (b - a) := by simp

/-- A line end stands at a place. -/
def crlf (l : List UInt8) (k : Nat) : Bool := (l.drop k).take 2 == [13, 10]
theorem crlf_iff (l : List UInt8) (k : Nat) : crlf l k = true ↔ ∃ h : k + 1 < l.length, l[k] = 13 ∧ l[k + 1] = 10 := by
  unfold crlf
  rw [beq_iff_eq]
  constructor
  · intro e
    have hlen := congrArg List.length e
    simp only [List.length_take, List.length_drop, List.length_cons, List.length_nil] at hlen
    have h : k + 1 < l.length := by omega
    rw [drop_cons l k (by omega), drop_cons l (k + 1) h] at e
    simp only [List.take_succ_cons, List.take_zero, List.cons.injEq, and_true] at e
    exact ⟨h, e⟩
  · rintro ⟨h, e0, e1⟩
    rw [drop_cons l k (by omega), drop_cons l (k + 1) h, e0, e1]
    rfl
theorem crlf_short (l : List UInt8) (k : Nat) (h : l.length < k + 2) : crlf l k = false := by
  rw [Bool.eq_false_iff]
  intro e
  obtain ⟨h', -⟩ := (crlf_iff l k).1 e
  omega
theorem crlf_long (s : ByteArray) (k : Nat) : (((s.extract k s.size).extract 0 2).toList == [13, 10]) = crlf s.data.toList k := by
  rw [ext_list, ext_data]
  unfold crlf
  rw [List.drop_zero, List.take_of_length_le (i := s.size - k) (by simp)]
end Pl
end Go.Proofs.Ytpnebokcddgahai
