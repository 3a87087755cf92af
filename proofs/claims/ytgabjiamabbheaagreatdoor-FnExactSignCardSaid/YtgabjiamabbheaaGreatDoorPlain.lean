
/- Plain mathematics of bytes, folds and pieces: lists of bytes alone; no program. -/
import Derived.Lib.UnsafeStr
import Derived.Laws.Strings
namespace Go.Proofs.YtgabjiamabbheaaGreatDoor
namespace Pl
theorem drop_cons (l : List UInt8) (k : Nat) (h : k < l.length) : l.drop k = l[k] :: l.drop (k + 1) := by
  rw [List.drop_eq_getElem_cons h]
/-- What the tests say of a byte. -/
theorem byte_eq (c d : UInt8) (n : Int) (hn : n = (d.toNat : Int)) (h : ((c.toNat : Int) == n) = true) : c = d := by
  subst hn
  have h := beq_iff_eq.1 h
  exact UInt8.toNat_inj.1 (by omega)
theorem byte_ne (c d : UInt8) (n : Int) (hn : n = (d.toNat : Int)) (h : ((c.toNat : Int) == n) = false) : c ≠ d := by
  subst hn
  rintro rfl
  simp at h
theorem at_list (s : ByteArray) (k : Nat) (h : k < s.size) : s.data.toList[k]'(by simpa using h) = s[k] := rfl
theorem len_list (s : ByteArray) : s.data.toList.length = s.size := by simp
theorem ext_list (s : ByteArray) (a b : Nat) : (s.extract a b).toList = (s.data.toList.drop a).take (b - a) := by
  rw [ByteArray.toList_eq]
  simp
theorem ext_data (s : ByteArray) (a b : Nat) : (s.extract a b).data.toList = (s.data.toList.drop a).take (b - a) := by simp

/-- A line end stands at a place. -/
def crlf (l : List UInt8) (k : Nat) : Bool := (l.drop k).take 2 == [13, 10]
theorem crlf_iff (l : List UInt8) (k : Nat) : crlf l k = true ↔ ∃ h : k + 1 < l.length, l[k] = 13 ∧ l[k + 1] = 10 := by
  unfold crlf
  rw [beq_iff_eq]
  constructor
  · intro e
    have hlen := congrArg List.length e
    simp only [List.length_take, List.length_drop, List.length_cons, List.length_nil] at hlen
    have h : k + 1 < l.length := by omega
    rw [drop_cons l k (by omega), drop_cons l (k + 1) h] at e
    simp only [List.take_succ_cons, List.take_zero, List.cons.injEq, and_true] at e
    exact ⟨h, e⟩
  · rintro ⟨h, e0, e1⟩
    rw [drop_cons l k (by omega), drop_cons l (k + 1) h, e0, e1]
    rfl
theorem crlf_short (l : List UInt8) (k : Nat) (h : l.length < k + 2) : crlf l k = false := by
  rw [Bool.eq_false_iff]
  intro e
  obtain ⟨h', -⟩ := (crlf_iff l k).1 e
  omega
theorem crlf_long (s : ByteArray) (k : Nat) : (((s.extract k s.size).extract 0 2).toList == [13, 10]) = crlf s.data.toList k := by
  rw [ext_list, ext_data]
  unfold crlf
  rw [List.drop_zero, List.take_of_length_le (i := s.size - k) (by simp)]
end Pl
end Go.Proofs.YtgabjiamabbheaaGreatDoor
namespace Go.Proofs.YtgabjiamabbheaaGreatDoor
namespace Pl
def blank (c : UInt8) : Bool := c == 32 || c == 9
/-- A blank stands at a place. -/
def blankAt (l : List UInt8) (k : Nat) : Bool := match l[k]? with | some c => blank c | none => false
/-- A line end with a blank behind it stands at a place. -/
def fold (l : List UInt8) (k : Nat) : Bool := crlf l k && blankAt l (k + 2)
theorem blankAt_lt (l : List UInt8) (k : Nat) (h : k < l.length) : blankAt l k = blank l[k] := by simp [blankAt, h]
theorem blankAt_ge (l : List UInt8) (k : Nat) (h : l.length ≤ k) : blankAt l k = false := by simp [blankAt, h]
theorem crlf_drop (l : List UInt8) (k : Nat) : crlf (l.drop k) 0 = crlf l k := by simp [crlf]
theorem blankAt_drop (l : List UInt8) (k j : Nat) : blankAt (l.drop k) j = blankAt l (k + j) := by simp [blankAt, List.getElem?_drop]
theorem fold_drop (l : List UInt8) (k : Nat) : fold (l.drop k) 0 = fold l k := by
  unfold fold
  rw [crlf_drop, blankAt_drop]
theorem fold_iff (l : List UInt8) (k : Nat) : fold l k = true ↔ ∃ h : k + 2 < l.length, l[k] = 13 ∧ l[k + 1] = 10 ∧ blank l[k + 2] = true := by
  unfold fold
  rw [Bool.and_eq_true, crlf_iff]
  constructor
  · rintro ⟨⟨h, h0, h1⟩, hb⟩
    by_cases hk : k + 2 < l.length
    · rw [blankAt_lt l _ hk] at hb
      exact ⟨hk, h0, h1, hb⟩
    · rw [blankAt_ge l _ (by omega)] at hb
      cases hb
  · rintro ⟨h, h0, h1, hb⟩
    exact ⟨⟨by omega, h0, h1⟩, by rw [blankAt_lt l _ h]; exact hb⟩
theorem fold_lt (l : List UInt8) (k : Nat) (h : fold l k = true) : k + 2 < l.length := ((fold_iff l k).1 h).1

/-- Without the line ends that have a blank behind them; the flag: a byte 10 is to be passed. -/
def unf : Bool → List UInt8 → List UInt8
  | _, [] => []
  | true, _ :: r => unf false r
  | false, c :: r => if fold (c :: r) 0 then unf true r else c :: unf false r

theorem unf_fold (l p x : List UInt8) (k : Nat) (h : fold l k = true) (hp : p ++ unf false (l.drop k) = x) : p ++ unf false (l.drop (k + 2)) = x := by
  have hk := fold_lt l k h
  rw [drop_cons l k (by omega), unf, ← drop_cons l k (by omega), fold_drop, if_pos h, drop_cons l (k + 1) (by omega), unf] at hp
  exact hp
theorem unf_other (l p x : List UInt8) (k : Nat) (hk : k < l.length) (h : fold l k = false) (hp : p ++ unf false (l.drop k) = x) : (p ++ [l[k]]) ++ unf false (l.drop (k + 1)) = x := by
  rw [drop_cons l k hk, unf, ← drop_cons l k hk, fold_drop, if_neg (by rw [h]; simp)] at hp
  simpa using hp
theorem unf_done (l p x : List UInt8) (k : Nat) (hk : l.length ≤ k) (hp : p ++ unf false (l.drop k) = x) : p = x := by
  rw [List.drop_eq_nil_of_le hk] at hp
  simpa [unf] using hp
theorem unf_len : ∀ (l : List UInt8) (b : Bool), (unf b l).length ≤ l.length
  | [], b => by cases b <;> simp [unf]
  | c :: r, true => by have := unf_len r false; simp [unf]; omega
  | c :: r, false => by
    unfold unf
    by_cases h : fold (c :: r) 0 = true
    · rw [if_pos h]; have := unf_len r true; simp; omega
    · rw [if_neg h]; have := unf_len r false; simp; omega
end Pl
end Go.Proofs.YtgabjiamabbheaaGreatDoor
