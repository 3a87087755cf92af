
/- Plain mathematics of bytes, folds and pieces: lists of bytes alone; no program. -/

/- Plain mathematics of Fold, WriteHead: lists of bytes alone; no program. -/

/- A slice of bytes that the call itself makes and appends to: laws of no program. -/
import Derived.Lib.UnsafeStr
import Derived.Laws.Strings
import Derived.WalkKit
import Derived.Lib.AppendStr
import Derived.Laws.IdiomStrings
namespace Go.Proofs.YtajkahpkbeobaaaGreatDoor
namespace Pl
set_option maxRecDepth 20000 in
theorem drop_cons (l : List UInt8) (k : Nat) (h : k < l.length) : l.drop k = l[k] :: l.drop (k + 1) := by
  rw [List.drop_eq_getElem_cons h]
set_option maxRecDepth 20000 in
/-- What the tests say of a byte. -/
theorem byte_eq (c d : UInt8) (n : Int) (hn : n = (d.toNat : Int)) (h : ((c.toNat : Int) == n) = true) : c = d := by
  subst hn
  have h := beq_iff_eq.1 h
  exact UInt8.toNat_inj.1 (by omega)
set_option maxRecDepth 20000 in
theorem byte_ne (c d : UInt8) (n : Int) (hn : n = (d.toNat : Int)) (h : ((c.toNat : Int) == n) = false) : c ≠ d := by
  subst hn
  rintro rfl
  simp at h
set_option maxRecDepth 20000 in
theorem at_list (s : ByteArray) (k : Nat) (h : k < s.size) : s.data.toList[k]'(by simpa using h) = s[k] := rfl
set_option maxRecDepth 20000 in
theorem len_list (s : ByteArray) : s.data.toList.length = s.size := by simp
set_option maxRecDepth 20000 in
theorem ext_list (s : ByteArray) (a b : Nat) : (s.extract a b).toList = (s.data.toList.drop a).take (b - a) := by
  rw [ByteArray.toList_eq]
  simp
set_option maxRecDepth 20000 in
theorem ext_data (s : ByteArray) (a b : Nat) : (s.extract a b).data.toList = (s.data.toList.drop a).take (b - a) := by simp

/-- A line end stands at a place. -/
def crlf (l : List UInt8) (k : Nat) : Bool := (l.drop k).take 2 == [13, 10]
set_option maxRecDepth 20000 in
theorem crlf_iff (l : List UInt8) (k : Nat) : crlf l k = true ↔ ∃ h : k + 1 < l.length, l[k] = 13 ∧ l[k + 1] = 10 := by
  unfold crlf
  rw [beq_iff_eq]
  constructor
  · intro e
    have hlen := congrArg List.length e
    simp only [List.length_take, List.length_drop, List.length_cons, List.length_nil] at hlen
    have h : k + 1 < l.length := by omega
    rw [drop_cons l k (by omega), drop_cons l (k + 1) h] at e
    simp only [List.take_succ_cons, List.take_zero, List.cons.injEq, and_true] at e
    exact ⟨h, e⟩
  · rintro ⟨h, e0, e1⟩
    rw [drop_cons l k (by omega), drop_cons l (k + 1) h, e0, e1]
    rfl
set_option maxRecDepth 20000 in
theorem crlf_short (l : List UInt8) (k : Nat) (h : l.length < k + 2) : crlf l k = false := by
  rw [Bool.eq_false_iff]
  intro e
  obtain ⟨h', -⟩ := (crlf_iff l k).1 e
  omega
set_option maxRecDepth 20000 in
theorem crlf_long (s : ByteArray) (k : Nat) : (((s.extract k s.size).extract 0 2).toList == [13, 10]) = crlf s.data.toList k := by
  rw [ext_list, ext_data]
  unfold crlf
  rw [List.drop_zero, List.take_of_length_le (i := s.size - k) (by simp)]
end Pl
end Go.Proofs.YtajkahpkbeobaaaGreatDoor
namespace Go.Proofs.YtajkahpkbeobaaaGreatDoor
namespace Pl
def blank (c : UInt8) : Bool := c == 32 || c == 9
/-- A blank stands at a place. -/
def blankAt (l : List UInt8) (k : Nat) : Bool := match l[k]? with | some c => blank c | none => false
/-- A line end with a blank behind it stands at a place. -/
def fold (l : List UInt8) (k : Nat) : Bool := crlf l k && blankAt l (k + 2)
set_option maxRecDepth 20000 in
theorem blankAt_lt (l : List UInt8) (k : Nat) (h : k < l.length) : blankAt l k = blank l[k] := by simp [blankAt, h]
set_option maxRecDepth 20000 in
theorem blankAt_ge (l : List UInt8) (k : Nat) (h : l.length ≤ k) : blankAt l k = false := by simp [blankAt, h]
set_option maxRecDepth 20000 in
theorem crlf_drop (l : List UInt8) (k : Nat) : crlf (l.drop k) 0 = crlf l k := by simp [crlf]
set_option maxRecDepth 20000 in
theorem blankAt_drop (l : List UInt8) (k j : Nat) : blankAt (l.drop k) j = blankAt l (k + j) := by simp [blankAt, List.getElem?_drop]
set_option maxRecDepth 20000 in
theorem fold_drop (l : List UInt8) (k : Nat) : fold (l.drop k) 0 = fold l k := by
  unfold fold
  rw [crlf_drop, blankAt_drop]
set_option maxRecDepth 20000 in
theorem fold_iff (l : List UInt8) (k : Nat) : fold l k = true ↔ ∃ h : k + 2 < l.length, l[k] = 13 ∧ l[k + 1] = 10 ∧ blank l[k + 2] = true := by
  unfold fold
  rw [Bool.and_eq_true, crlf_iff]
  constructor
  · rintro ⟨⟨h, h0, h1⟩, hb⟩
    by_cases hk : k + 2 < l.length
    · rw [blankAt_lt l _ hk] at hb
      exact ⟨hk, h0, h1, hb⟩
    · rw [blankAt_ge l _ (by omega)] at hb
      cases hb
  · rintro ⟨h, h0, h1, hb⟩
    exact ⟨⟨by omega, h0, h1⟩, by rw [blankAt_lt l _ h]; exact hb⟩
set_option maxRecDepth 20000 in
theorem fold_lt (l : List UInt8) (k : Nat) (h : fold l k = true) : k + 2 < l.length := ((fold_iff l k).1 h).1

/-- Without the line ends that have a blank behind them; the flag: a byte 10 is to be passed. -/
def unf : Bool → List UInt8 → List UInt8
  | _, [] => []
  | true, _ :: r => unf false r
  | false, c :: r => if fold (c :: r) 0 then unf true r else c :: unf false r

set_option maxRecDepth 20000 in
theorem unf_fold (l p x : List UInt8) (k : Nat) (h : fold l k = true) (hp : p ++ unf false (l.drop k) = x) : p ++ unf false (l.drop (k + 2)) = x := by
  have hk := fold_lt l k h
  rw [drop_cons l k (by omega), unf, ← drop_cons l k (by omega), fold_drop, if_pos h, drop_cons l (k + 1) (by omega), unf] at hp
  exact hp
set_option maxRecDepth 20000 in
theorem unf_other (l p x : List UInt8) (k : Nat) (hk : k < l.length) (h : fold l k = false) (hp : p ++ unf false (l.drop k) = x) : (p ++ [l[k]]) ++ unf false (l.drop (k + 1)) = x := by
  rw [drop_cons l k hk, unf, ← drop_cons l k hk, fold_drop, if_neg (by rw [h]; simp)] at hp
  simpa using hp
set_option maxRecDepth 20000 in
theorem unf_done (l p x : List UInt8) (k : Nat) (hk : l.length ≤ k) (hp : p ++ unf false (l.drop k) = x) : p = x := by
  rw [List.drop_eq_nil_of_le hk] at hp
  simpa [unf] using hp
set_option maxRecDepth 20000 in
theorem unf_len : ∀ (l : List UInt8) (b : Bool), (unf b l).length ≤ l.length
  | [], b => by cases b <;> simp [unf]
  | c :: r, true => by have := unf_len r false; simp [unf]; omega
  | c :: r, false => by
    unfold unf
    by_cases h : fold (c :: r) 0 = true
    · rw [if_pos h]; have := unf_len r true; simp; omega
    · rw [if_neg h]; have := unf_len r false; simp; omega
end Pl
end Go.Proofs.YtajkahpkbeobaaaGreatDoor
namespace Go.Proofs.YtajkahpkbeobaaaGreatDoor
namespace Pl
set_option maxRecDepth 20000 in
theorem unf_fold_eq (l : List UInt8) (k : Nat) (h : fold l k = true) : unf false (l.drop k) = unf false (l.drop (k + 2)) := by
  have := unf_fold l [] _ k h rfl
  simpa using this.symm
set_option maxRecDepth 20000 in
theorem unf_other_eq (l : List UInt8) (k : Nat) (hk : k < l.length) (h : fold l k = false) : unf false (l.drop k) = l[k] :: unf false (l.drop (k + 1)) := by
  have := unf_other l [] _ k hk h rfl
  simpa using this.symm
/-- A byte that is none of a line end's. -/
def lb (c : UInt8) : Bool := !(c == 13 || c == 10)
def val (l : List UInt8) : Bool := (unf false l).all lb
set_option maxRecDepth 20000 in
theorem val_fold (l : List UInt8) (k : Nat) (h : fold l k = true) : val (l.drop (k + 2)) = val (l.drop k) := by
  unfold val; rw [unf_fold_eq l k h]
set_option maxRecDepth 20000 in
theorem val_other (l : List UInt8) (k : Nat) (hk : k < l.length) (h : fold l k = false) : val (l.drop k) = (lb l[k] && val (l.drop (k + 1))) := by
  unfold val; rw [unf_other_eq l k hk h]; simp
set_option maxRecDepth 20000 in
theorem val_done (l : List UInt8) (k : Nat) (hk : l.length ≤ k) : val (l.drop k) = true := by
  rw [List.drop_eq_nil_of_le hk]; simp [val, unf]

set_option maxRecDepth 20000 in
/-- All bytes from a place on are of a kind. -/
theorem all_step (f : UInt8 → Bool) (l : List UInt8) (k : Nat) (hk : k < l.length) : (l.drop k).all f = (f l[k] && (l.drop (k + 1)).all f) := by
  rw [drop_cons l k hk, List.all_cons]
set_option maxRecDepth 20000 in
theorem all_done (f : UInt8 → Bool) (l : List UInt8) (k : Nat) (hk : l.length ≤ k) : (l.drop k).all f = true := by
  rw [List.drop_eq_nil_of_le hk]; rfl

/-- How far a value goes on behind a byte, up to a blank behind another byte. -/
def pzr : UInt8 → List UInt8 → Nat
  | _, [] => 0
  | b, c :: r => if blank c && !blank b then 0 else pzr c r + 1
/-- A piece's size. -/
def pz : List UInt8 → Nat
  | [] => 0
  | c :: r => pzr c r + 1
set_option maxRecDepth 20000 in
theorem pzr_le : ∀ (b : UInt8) (l : List UInt8), pzr b l ≤ l.length
  | _, [] => Nat.le_refl _
  | b, c :: r => by
    unfold pzr
    split
    · exact Nat.zero_le _
    · have := pzr_le c r; simp; omega
set_option maxRecDepth 20000 in
theorem pz_le (l : List UInt8) : pz l ≤ l.length := by
  cases l with
  | nil => exact Nat.le_refl _
  | cons c r => have := pzr_le c r; simp [pz]; omega
set_option maxRecDepth 20000 in
theorem pz_pos (l : List UInt8) (h : l ≠ []) : 0 < pz l := by
  cases l with
  | nil => exact absurd rfl h
  | cons c r => simp [pz]
set_option maxRecDepth 20000 in
theorem pz_start (l : List UInt8) (k : Nat) (hk : k < l.length) : pz (l.drop k) = pzr l[k] (l.drop (k + 1)) + 1 := by
  rw [drop_cons l k hk]; rfl
set_option maxRecDepth 20000 in
theorem pzr_go (l : List UInt8) (b : UInt8) (j : Nat) (hj : j < l.length) (h : (blank l[j] && !blank b) = false) : pzr b (l.drop j) = pzr l[j] (l.drop (j + 1)) + 1 := by
  rw [drop_cons l j hj, pzr, if_neg (by rw [h]; simp)]
set_option maxRecDepth 20000 in
theorem pzr_stop (l : List UInt8) (b : UInt8) (j : Nat) (hj : j < l.length) (h : (blank l[j] && !blank b) = true) : pzr b (l.drop j) = 0 := by
  rw [drop_cons l j hj, pzr, if_pos h]
set_option maxRecDepth 20000 in
theorem pzr_end (l : List UInt8) (b : UInt8) (j : Nat) (hj : l.length ≤ j) : pzr b (l.drop j) = 0 := by
  rw [List.drop_eq_nil_of_le hj]; rfl

set_option maxRecDepth 20000 in
theorem getD_lt (l : List UInt8) (k : Nat) (h : k < l.length) : l.getD k 0 = l[k] := by simp [h]
/-- Where the piece ends of which the byte ahead of a place is. -/
def pzAt (l : List UInt8) (j : Nat) : Nat := pzr (l.getD (j - 1) 0) (l.drop j) + j
set_option maxRecDepth 20000 in
theorem pzAt_start (l : List UInt8) (k : Nat) (hk : k < l.length) : pzAt l (k + 1) = k + pz (l.drop k) := by
  rw [pz_start l k hk, pzAt, Nat.add_sub_cancel, getD_lt l k hk]
  omega
set_option maxRecDepth 20000 in
theorem pzAt_go (l : List UInt8) (j : Nat) (h0 : 0 < j) (hj : j < l.length) (h : (blank l[j] && !blank (l[j - 1]'(by omega))) = false) : pzAt l (j + 1) = pzAt l j := by
  rw [pzAt, pzAt, Nat.add_sub_cancel, getD_lt l j hj, getD_lt l (j - 1) (by omega), pzr_go l _ j hj h]
  omega
set_option maxRecDepth 20000 in
theorem pzAt_stop (l : List UInt8) (j : Nat) (h0 : 0 < j) (hj : j < l.length) (h : (blank l[j] && !blank (l[j - 1]'(by omega))) = true) : pzAt l j = j := by
  rw [pzAt, getD_lt l (j - 1) (by omega), pzr_stop l _ j hj h, Nat.zero_add]
set_option maxRecDepth 20000 in
theorem pzAt_end (l : List UInt8) (j : Nat) (hj : l.length ≤ j) : pzAt l j = j := by
  rw [pzAt, pzr_end l _ j hj, Nat.zero_add]
set_option maxRecDepth 20000 in
theorem all_tail (f : UInt8 → Bool) (t : ByteArray) (h : 0 < t.size) (hf : f t[0] = true) : (t.extract 1 t.size).data.toList.all f = t.data.toList.all f := by
  rw [ext_data, List.take_of_length_le (by simp)]
  have := all_step f t.data.toList 0 (by simpa using h)
  rw [List.drop_zero, at_list t 0 h, hf, Bool.true_and] at this
  exact this.symm
set_option maxRecDepth 20000 in
theorem all_front (f : UInt8 → Bool) (t : ByteArray) (h : 0 < t.size) (hf : f (t[t.size - 1]) = true) : (t.extract 0 (t.size - 1)).data.toList.all f = t.data.toList.all f := by
  rw [ext_data, List.drop_zero, Nat.sub_zero]
  have e : t.data.toList = t.data.toList.take (t.size - 1) ++ [t[t.size - 1]] := by
    have := List.take_append_drop (t.size - 1) t.data.toList
    rw [drop_cons _ _ (by simp; omega), List.drop_eq_nil_of_le (by simp; omega)] at this
    exact this.symm
  generalize t[t.size - 1] = c at e hf
  generalize hq : t.data.toList.take (t.size - 1) = q at e ⊢
  rw [e]
  simp [hf]
set_option maxRecDepth 20000 in
theorem all_last (f : UInt8 → Bool) (t : ByteArray) (h : 0 < t.size) (hf : f (t[t.size - 1]) = false) : t.data.toList.all f = false := by
  rw [Bool.eq_false_iff]
  intro e
  rw [List.all_eq_true] at e
  have := e (t[t.size - 1]) (by rw [← at_list t _ (by omega)]; exact List.getElem_mem _)
  rw [hf] at this
  cases this
set_option maxRecDepth 20000 in
theorem all_none (f : UInt8 → Bool) (t : ByteArray) (h : t.size = 0) : t.data.toList.all f = true := by
  have : t.data.toList = [] := List.length_eq_zero_iff.1 (by rw [len_list]; exact h)
  rw [this]; rfl

/-- What a piece says: a byte but blanks. -/
def says (l : List UInt8) : Bool := !l.all blank
def foldB (l : List UInt8) (n : Nat) (s : Bool) : Bool := decide (78 < n + pz l) && (blankAt l 0 && (says (l.take (pz l)) && s))
/-- The value with line ends between its pieces. -/
def fo : Nat → List UInt8 → Nat → Bool → List UInt8
  | 0, _, _, _ => []
  | f + 1, l, n, s =>
    if l = [] then [] else
    if foldB l n s then 13 :: 10 :: (l.take (pz l) ++ fo f (l.drop (pz l)) (pz l) true)
    else l.take (pz l) ++ fo f (l.drop (pz l)) (n + pz l) (s || says (l.take (pz l)))
set_option maxRecDepth 20000 in
/-- No fold is lost by more fuel. -/
theorem fo_more : ∀ (f g : Nat) (l : List UInt8) (n : Nat) (s : Bool), l.length ≤ f → l.length ≤ g → fo f l n s = fo g l n s
  | 0, 0, _, _, _, _, _ => rfl
  | 0, g + 1, l, n, s, hf, _ => by
    have : l = [] := List.length_eq_zero_iff.1 (by omega)
    subst this; simp [fo]
  | f + 1, 0, l, n, s, _, hg => by
    have : l = [] := List.length_eq_zero_iff.1 (by omega)
    subst this; simp [fo]
  | f + 1, g + 1, l, n, s, hf, hg => by
    unfold fo
    by_cases hl : l = []
    · rw [if_pos hl, if_pos hl]
    · have hp := pz_pos l hl
      have h1 : (l.drop (pz l)).length ≤ f := by simp; omega
      have h2 : (l.drop (pz l)).length ≤ g := by simp; omega
      rw [if_neg hl, if_neg hl, fo_more f g _ (pz l) true h1 h2, fo_more f g _ (n + pz l) _ h1 h2]
def fld (l : List UInt8) (n : Nat) (s : Bool) : List UInt8 := fo l.length l n s
set_option maxRecDepth 20000 in
theorem fld_nil (n : Nat) (s : Bool) : fld [] n s = [] := rfl
set_option maxRecDepth 20000 in
theorem fld_fold (l : List UInt8) (n : Nat) (s : Bool) (hl : l ≠ []) (h : foldB l n s = true) : fld l n s = 13 :: 10 :: (l.take (pz l) ++ fld (l.drop (pz l)) (pz l) true) := by
  have hp := pz_pos l hl
  have hn : 0 < l.length := List.length_pos_iff.2 hl
  unfold fld
  rw [fo_more l.length ((l.length - 1) + 1) l n s (by omega) (by omega), fo, if_neg hl, if_pos h, fo_more (l.length - 1) (l.drop (pz l)).length _ _ _ (by simp; omega) (Nat.le_refl _)]
set_option maxRecDepth 20000 in
theorem fld_plain (l : List UInt8) (n : Nat) (s : Bool) (hl : l ≠ []) (h : foldB l n s = false) : fld l n s = l.take (pz l) ++ fld (l.drop (pz l)) (n + pz l) (s || says (l.take (pz l))) := by
  have hp := pz_pos l hl
  have hn : 0 < l.length := List.length_pos_iff.2 hl
  unfold fld
  rw [fo_more l.length ((l.length - 1) + 1) l n s (by omega) (by omega), fo, if_neg hl, if_neg (by rw [h]; simp), fo_more (l.length - 1) (l.drop (pz l)).length _ _ _ (by simp; omega) (Nat.le_refl _)]
set_option maxRecDepth 20000 in
theorem foldB_eq (l : List UInt8) (m z : Nat) (a b s c : Bool) (hz : pz l = z) (ha : decide (78 < m + z) = a) (hb : blankAt l 0 = b) (hs : (l.take z).all blank = s) : foldB l m c = (a && (b && (!s && c))) := by
  unfold foldB says
  rw [hz, ha, hb, hs]
set_option maxRecDepth 20000 in
theorem fld_step_fold (l p x : List UInt8) (m z : Nat) (a b s c : Bool) (hl : l ≠ []) (hz : pz l = z) (ha : decide (78 < m + z) = a) (hb : blankAt l 0 = b) (hs : (l.take z).all blank = s) (hp : p ++ fld l m c = x)
    (hf : (a && (b && (!s && c))) = true) : ((p ++ [13, 10]) ++ l.take z) ++ fld (l.drop z) z true = x := by
  rw [← foldB_eq l m z a b s c hz ha hb hs] at hf
  rw [fld_fold l m c hl hf, hz] at hp
  simpa using hp
set_option maxRecDepth 20000 in
theorem fld_step_plain (l p x : List UInt8) (m z : Nat) (a b s c d : Bool) (hl : l ≠ []) (hz : pz l = z) (ha : decide (78 < m + z) = a) (hb : blankAt l 0 = b) (hs : (l.take z).all blank = s) (hp : p ++ fld l m c = x)
    (hf : (a && (b && (!s && c))) = false) (hd : (c || !s) = d) : (p ++ l.take z) ++ fld (l.drop z) (m + z) d = x := by
  rw [← foldB_eq l m z a b s c hz ha hb hs] at hf
  rw [fld_plain l m c hl hf, hz, says, hs, hd] at hp
  simpa using hp
set_option maxRecDepth 20000 in
theorem ext_take (t : ByteArray) (z : Nat) : (t.extract 0 z).data.toList = t.data.toList.take z := by rw [ext_data, List.drop_zero, Nat.sub_zero]
set_option maxRecDepth 20000 in
theorem ext_drop (t : ByteArray) (z : Nat) : (t.extract z t.size).data.toList = t.data.toList.drop z := by rw [ext_data, List.take_of_length_le (by simp)]
set_option maxRecDepth 20000 in
theorem blankAt_zero (q : ByteArray) (l : List UInt8) (z : Nat) (h : q.data.toList = l.take z) (hq : 0 < q.size) : blankAt l 0 = blank q[0] := by
  have hz : 0 < (l.take z).length := by rw [← h, len_list]; exact hq
  have h0 : 0 < l.length := by simp only [List.length_take] at hz; omega
  rw [blankAt_lt _ 0 h0, ← at_list q 0 hq]
  congr 1
  have : (l.take z)[0] = l[0] := by simp
  rw [← this]
  congr 1
  exact h.symm
end Pl
end Go.Proofs.YtajkahpkbeobaaaGreatDoor
namespace Go.Proofs.YtajkahpkbeobaaaGreatDoor
open Go.RowKit Go.Lib

/-- The slice v, whose array is among the blocks from B on, holds just the bytes p. -/
def Own (B : Nat) (v : Value) (p : List UInt8) (w : World) : Prop := w.ownsRow B 5 1 v p.length (byteCells p)

set_option maxRecDepth 20000 in
theorem add_off (g j : Nat) : (⟨g, 0, none⟩ : Addr).add j = ⟨g, j, none⟩ := by
  by_cases h : j = 0
  · subst h; rfl
  · simp [Addr.add, h]

set_option maxRecDepth 20000 in
theorem Own.nil (B : Nat) (w : World) : Own B (.slice none 0 0) [] w := World.ownsRow_nil _ _ _ _
set_option maxRecDepth 20000 in
theorem Own.made (B : Nat) (w : World) (h : B ≤ w.heap.size) : Own B (.slice (some ⟨w.heap.size, 0, none⟩) 0 0) [] (w.alloc (.cells #[] 5)) :=
  World.ownsRow_made w #[] 0 h (by unfold maxLen; omega) rfl
set_option maxRecDepth 20000 in
theorem Own.form {B : Nat} {v : Value} {p : List UInt8} {w : World} (h : Own B v p w) : (v = .slice none 0 0 ∧ p = []) ∨ ∃ g cap, v = .slice (some ⟨g, 0, none⟩) p.length cap := by
  rcases h.2 with ⟨rfl, h0⟩ | ⟨g, cap, cur, rfl, -⟩
  · exact .inl ⟨rfl, List.length_eq_zero_iff.1 h0⟩
  · exact .inr ⟨g, cap, rfl⟩
set_option maxRecDepth 20000 in
theorem Own.cell {B g cap n : Nat} {p : List UInt8} {w : World} (h : Own B (.slice (some ⟨g, 0, none⟩) n cap) p w) (j : Nat) (hj : j < p.length) :
    w.cell? ⟨g, j, none⟩ = some (.int .u8 (p[j].toNat : Int)) := by
  have := World.ownsRow.cells h (g := g) rfl j (.int .u8 (p[j].toNat : Int)) (by simp [byteCells, hj])
  rwa [add_off] at this

set_option maxRecDepth 20000 in
/-- An append of some bytes: they are laid in a block of their own first. -/
theorem wp_app {P : Program} {W w : World} {ops : Array Oper} {rest : List Oper} {o : Oper} {a : Act} {Q : Exit → Act → World → Prop} (hgd : o.guard = none) (s x : Operand) (t : TypeId)
    (ho : o.op = .call { callee := .builtin .append, args := #[s, x], argTypes := #[t, t] })
    (i : TypeInfo) (ht : P.underlying t = some (.slice 5)) (hi : P.info? 5 = some i) (hz : i.zero = some (.int .u8 0)) (hsize : i.size = 1) (hby : i.bytes = 1)
    (B : Nat) (v : Value) (p : List UInt8) (hs : a.eval s = v) (hown : Own B v p w) (cs : Array Value) (news : List UInt8) (hcs : cs.toList = byteCells news)
    (n c : Nat) (hn : n = news.length) (hx : a.eval x = .slice (some ⟨w.heap.size, 0, none⟩) n c) (hlen : p.length + news.length ≤ 140737488355328) (hB : B ≤ W.heap.size) (hb : Below B W w)
    (h : ∀ v' w', Own B v' (p ++ news) w' → Below B W w' → wpList P ops Q rest (a.put o.dst v') w') : wpList P ops Q (o :: rest) a (w.alloc (.cells cs 5)) := by
  subst hn
  have hsz := hb.size
  refine wpList_append_own _ hgd s x t ho B 5 i (.int .u8 0) 1 1 ht hi hz hsize hby rfl (by decide) v p.length (byteCells p) hs (hown.alloc _) ⟨w.heap.size, 0, none⟩ news.length c (byteCells news) hx
    (by rw [byteCells_length, Nat.mul_one]) ?_ ?_ (by unfold maxLen; omega) (by omega) (by simp; omega) ?_
  · intro j u hj
    have e2 : cs[j]? = some u := by rw [← Array.getElem?_toList, hcs]; exact hj
    rw [add_off]
    simp [e2]
  · intro u hu
    simp only [byteCells, List.mem_map] at hu
    obtain ⟨b, -, rfl⟩ := hu
    rfl
  · intro v' w' h1 h2 _
    refine h v' w' ?_ ?_
    · unfold Own
      rw [byteCells_append, List.length_append]
      exact h1
    · exact (hb.alloc (by omega) _).grown h2 (by simp; omega) (fun k hk => (World.ownsRow.lt hown k hk).1)

set_option maxRecDepth 20000 in
/-- An append of a text. -/
theorem wp_apps {P : Program} {W w : World} {ops : Array Oper} {rest : List Oper} {o : Oper} {a : Act} {Q : Exit → Act → World → Prop} (hgd : o.guard = none) (s x : Operand) (t u : TypeId)
    (ho : o.op = .call { callee := .builtin .append, args := #[s, x], argTypes := #[t, u] })
    (i : TypeInfo) (ht : P.underlying t = some (.slice 5)) (hu : P.underlying u = some .string) (hi : P.info? 5 = some i) (hz : i.zero = some (.int .u8 0)) (hsize : i.size = 1) (hby : i.bytes = 1)
    (B : Nat) (v : Value) (p : List UInt8) (hs : a.eval s = v) (hown : Own B v p w) (news : ByteArray)
    (hx : a.eval x = .string news) (hlen : p.length + news.size ≤ 140737488355328) (hB : B ≤ W.heap.size) (hb : Below B W w)
    (h : ∀ v' w', Own B v' (p ++ news.data.toList) w' → Below B W w' → wpList P ops Q rest (a.put o.dst v') w') : wpList P ops Q (o :: rest) a w := by
  have hsz := hb.size
  refine wpList_append_own_string _ hgd s x t u ho B 5 i ht hu hi hz hsize hby v p.length (byteCells p) hs hown news hx (by unfold maxLen; omega) hlen (by omega) ?_
  intro v' w' h1 h2 _
  refine h v' w' ?_ ?_
  · unfold Own
    rw [byteCells_append, List.length_append]
    exact h1
  · exact hb.grown h2 (by omega) (fun k hk => (World.ownsRow.lt hown k hk).1)

set_option maxRecDepth 20000 in
/-- The bytes as a text again. -/
theorem Own.back {P : Program} {B : Nat} {v : Value} {p : List UInt8} {w : World} (h : Own B v p w) (src dst : TypeId) (hs : P.underlying src = some (.slice 5)) (he : P.underlying 5 = some (.int .u8)) (hd : P.underlying dst = some .string) :
    (convert src dst v).run P w = .ok (.string ⟨p.toArray⟩) w := by
  rcases h.form with ⟨rfl, rfl⟩ | ⟨g, cap, rfl⟩
  · have := run_convert_bytes_string (P := P) w src dst 5 none 0 0 hs he hd
    rw [this]; rfl
  · exact run_convert_bytes_back w src dst 5 ⟨g, 0, none⟩ cap p hs he hd (fun j hj => by rw [add_off]; exact h.cell j hj)

end Go.Proofs.YtajkahpkbeobaaaGreatDoor
