/- Plain mathematics of base 64: lists of bytes alone; no program. -/
import Derived.Lib.UnsafeStr
import Derived.Laws.Strings
namespace Go.Proofs.YtgbhckokdjhpjaaDoor
namespace Pb

/-- The digit of a number of six bits. -/
def d64 (n : Nat) : UInt8 := if n < 26 then UInt8.ofNat (65 + n) else if n < 52 then UInt8.ofNat (71 + n) else if n < 62 then UInt8.ofNat (n - 4) else if n = 62 then 43 else 47

def group (a b c : UInt8) : List UInt8 := [d64 (a.toNat / 4), d64 (a.toNat % 4 * 16 + b.toNat / 16), d64 (b.toNat % 16 * 4 + c.toNat / 64), d64 (c.toNat % 64)]

def bare : List UInt8 → List UInt8
  | a :: b :: c :: r => group a b c ++ bare r
  | [a, b] => [d64 (a.toNat / 4), d64 (a.toNat % 4 * 16 + b.toNat / 16), d64 (b.toNat % 16 * 4), 61]
  | [a] => [d64 (a.toNat / 4), d64 (a.toNat % 4 * 16), 61, 61]
  | [] => []

theorem bare_three (x r : List UInt8) (a b c : UInt8) (h : x = a :: b :: c :: r) : bare x = group a b c ++ bare r := by rw [h, bare]

theorem bare_append : ∀ (n : Nat) (x y : List UInt8), x.length = 3 * n → bare (x ++ y) = bare x ++ bare y := by
  intro n
  induction n with
  | zero => intro x y h; have : x = [] := List.length_eq_zero_iff.1 (by omega); subst this; simp [bare]
  | succ n ih =>
    intro x y h
    match x, h with
    | a :: b :: c :: r, h =>
      simp only [List.cons_append, bare]
      rw [ih r y (by simp at h; omega), List.append_assoc]
    | [], h => simp at h
    | [_], h => simp at h; omega
    | [_, _], h => simp at h; omega

theorem bare_len : ∀ (n : Nat) (x : List UInt8), x.length ≤ 3 * n → (bare x).length ≤ 4 * n := by
  intro n
  induction n with
  | zero => intro x h; have : x = [] := List.length_eq_zero_iff.1 (by omega); subst this; simp [bare]
  | succ n ih =>
    intro x h
    match x, h with
    | a :: b :: c :: r, h =>
      have := ih r (by simp at h; omega)
      simp only [bare, group, List.length_append, List.length_cons, List.length_nil]; omega
    | [], _ => simp [bare]
    | [_], _ => simp [bare]; omega
    | [_, _], _ => simp [bare]; omega
theorem bare_full : ∀ (n : Nat) (x : List UInt8), x.length = 3 * n → (bare x).length = 4 * n := by
  intro n
  induction n with
  | zero => intro x h; have : x = [] := List.length_eq_zero_iff.1 (by omega); subst this; simp [bare]
  | succ n ih =>
    intro x h
    match x, h with
    | a :: b :: c :: r, h =>
      have := ih r (by simp at h; omega)
      simp only [bare, group, List.length_append, List.length_cons, List.length_nil]; omega
    | [], h => simp at h
    | [_], h => simp at h; omega
    | [_, _], h => simp at h; omega
theorem bare_nil (x : List UInt8) : bare x = [] ↔ x = [] := by
  match x with
  | [] => simp [bare]
  | [_] => simp [bare]
  | [_, _] => simp [bare]
  | _ :: _ :: _ :: _ => simp [bare, group]

/-- Digits with their line ends. -/
def rowsF : Nat → List UInt8 → List UInt8
  | 0, _ => []
  | f + 1, d => if d = [] then [] else d.take 76 ++ [13, 10] ++ rowsF f (d.drop 76)
/-- Data as rows of digits. -/
def encF : Nat → List UInt8 → List UInt8
  | 0, _ => []
  | f + 1, l => if l = [] then [] else bare (l.take 57) ++ [13, 10] ++ encF f (l.drop 57)

theorem rows_bare : ∀ (f : Nat) (l : List UInt8), rowsF f (bare l) = encF f l := by
  intro f
  induction f with
  | zero => intro l; rfl
  | succ f ih =>
    intro l
    by_cases hl : l = []
    · subst hl; simp [rowsF, encF, bare]
    · have hb : bare l ≠ [] := fun e => hl ((bare_nil l).1 e)
      rw [rowsF, encF, if_neg hl, if_neg hb]
      by_cases h57 : 57 ≤ l.length
      · have e : bare l = bare (l.take 57) ++ bare (l.drop 57) := by
          rw [← bare_append 19 (l.take 57) (l.drop 57) (by rw [List.length_take]; omega), List.take_append_drop]
        have e76 : (bare (l.take 57)).length = 76 := bare_full 19 _ (by rw [List.length_take]; omega)
        rw [e, List.take_append_of_le_length (by omega), List.take_of_length_le (by omega), List.drop_append, List.drop_eq_nil_of_le (by omega), e76, Nat.sub_self, List.drop_zero, List.nil_append, ih]
      · have h76 : (bare l).length ≤ 76 := bare_len 19 l (by omega)
        rw [List.take_of_length_le h76, List.drop_eq_nil_of_le h76, List.take_of_length_le (by omega), List.drop_eq_nil_of_le (by omega)]
        have : rowsF f [] = encF f [] := by cases f <;> simp [rowsF, encF]
        rw [this]

theorem encF_more : ∀ (f : Nat) (l : List UInt8), l.length ≤ f → encF (f + 1) l = encF f l := by
  intro f
  induction f with
  | zero => intro l h; have : l = [] := List.length_eq_zero_iff.1 (by omega); subst this; simp [encF]
  | succ f ih =>
    intro l h
    by_cases hl : l = []
    · subst hl; simp [encF]
    · have h0 : 0 < l.length := List.length_pos_iff.2 hl
      have e := ih (l.drop 57) (by rw [List.length_drop]; omega)
      show (if l = [] then [] else bare (l.take 57) ++ [13, 10] ++ encF (f + 1) (l.drop 57)) = (if l = [] then [] else bare (l.take 57) ++ [13, 10] ++ encF f (l.drop 57))
      rw [e]
theorem encF_all (f : Nat) (l : List UInt8) (h : l.length ≤ f) : encF f l = encF l.length l := by
  induction f with
  | zero => rw [show l.length = 0 by omega]
  | succ f ih =>
    by_cases hl : l.length = f + 1
    · rw [hl]
    · rw [encF_more f l (by omega), ih (by omega)]
def enc (l : List UInt8) : List UInt8 := encF l.length l
theorem enc_nil : enc [] = [] := rfl
theorem enc_step (l : List UInt8) (h : l ≠ []) : enc l = bare (l.take 57) ++ [13, 10] ++ enc (l.drop 57) := by
  have h0 : 0 < l.length := List.length_pos_iff.2 h
  obtain ⟨n, hn⟩ : ∃ n, l.length = n + 1 := ⟨l.length - 1, by omega⟩
  rw [enc, hn, encF, if_neg h, encF_all n _ (by rw [List.length_drop]; omega)]
  rfl
/-- Rows of digits, with fuel to spare. -/
theorem rows_enc (f : Nat) (l : List UInt8) (h : l.length ≤ f) : rowsF f (bare l) = enc l := by rw [rows_bare, encF_all f l h]; rfl
theorem d64_a (n : Nat) (h : n < 26) : ((d64 n).toNat : Int) = 65 + n := by
  unfold d64
  rw [if_pos h, UInt8.toNat_ofNat_of_lt' (by simp [UInt8.size]; omega)]
  omega
theorem d64_b (n : Nat) (h0 : 26 ≤ n) (h : n < 52) : ((d64 n).toNat : Int) = 97 + n - 26 := by
  unfold d64
  rw [if_neg (by omega), if_pos h, UInt8.toNat_ofNat_of_lt' (by simp [UInt8.size]; omega)]
  omega
theorem d64_c (n : Nat) (h0 : 52 ≤ n) (h : n < 62) : ((d64 n).toNat : Int) = 48 + n - 52 := by
  unfold d64
  rw [if_neg (by omega), if_neg (by omega), if_pos h, UInt8.toNat_ofNat_of_lt' (by simp [UInt8.size]; omega)]
  omega
theorem drop_cons (l : List UInt8) (k : Nat) (h : k < l.length) : l.drop k = l[k] :: l.drop (k + 1) := List.drop_eq_getElem_cons h
theorem step3 (l p : List UInt8) (k : Nat) (h : k + 2 < l.length) (hp : p ++ bare (l.drop k) = bare l) : (p ++ group l[k] l[k + 1] l[k + 2]) ++ bare (l.drop (k + 3)) = bare l := by
  rw [drop_cons l k (by omega), drop_cons l (k + 1) (by omega), drop_cons l (k + 1 + 1) h, bare] at hp
  rw [List.append_assoc]
  exact hp
theorem step2 (l p : List UInt8) (k : Nat) (h : k + 2 = l.length) (hp : p ++ bare (l.drop k) = bare l) : (p ++ [d64 (l[k].toNat / 4), d64 (l[k].toNat % 4 * 16 + l[k + 1].toNat / 16), d64 (l[k + 1].toNat % 16 * 4), 61]) ++ bare (l.drop (k + 3)) = bare l := by
  rw [drop_cons l k (by omega), drop_cons l (k + 1) (by omega), List.drop_eq_nil_of_le (by omega), bare] at hp
  rw [List.drop_eq_nil_of_le (by omega), show bare [] = [] from rfl, List.append_nil]
  exact hp
theorem step1 (l p : List UInt8) (k : Nat) (h : k + 1 = l.length) (hp : p ++ bare (l.drop k) = bare l) : (p ++ [d64 (l[k].toNat / 4), d64 (l[k].toNat % 4 * 16), 61, 61]) ++ bare (l.drop (k + 3)) = bare l := by
  rw [drop_cons l k (by omega), List.drop_eq_nil_of_le (by omega), bare] at hp
  rw [List.drop_eq_nil_of_le (by omega), show bare [] = [] from rfl, List.append_nil]
  exact hp
theorem step0 (l p : List UInt8) (k : Nat) (h : l.length ≤ k) (hp : p ++ bare (l.drop k) = bare l) : p = bare l := by
  rw [List.drop_eq_nil_of_le h, show bare [] = [] from rfl, List.append_nil] at hp
  exact hp
theorem rows_step (f : Nat) (d : List UInt8) (k : Nat) (p r : List UInt8) (hk : k < d.length) (hf : d.length ≤ k + f) (hp : p ++ rowsF f (d.drop k) = r) : (p ++ ((d.drop k).take 76 ++ [13, 10])) ++ rowsF (f - 1) (d.drop (k + 76)) = r := by
  obtain ⟨g, rfl⟩ : ∃ g, f = g + 1 := ⟨f - 1, by omega⟩
  have hne : d.drop k ≠ [] := by
    intro e
    have := congrArg List.length e
    simp at this
    omega
  rw [rowsF, if_neg hne, List.drop_drop] at hp
  rw [← hp]
  simp
theorem rows_end (f : Nat) (d : List UInt8) (k : Nat) (p r : List UInt8) (hk : d.length ≤ k) (hp : p ++ rowsF f (d.drop k) = r) : p = r := by
  rw [List.drop_eq_nil_of_le hk] at hp
  have : rowsF f [] = [] := by cases f <;> simp [rowsF]
  rw [this, List.append_nil] at hp
  exact hp
theorem ext_mk (s : ByteArray) (a b : Nat) : s.extract a b = ⟨((s.data.toList.drop a).take (b - a)).toArray⟩ := by
  apply ByteArray.ext
  apply Array.toList_inj.1
  simp
theorem ext_of (d : List UInt8) (a b : Nat) : (⟨d.toArray⟩ : ByteArray).extract a b = ⟨((d.drop a).take (b - a)).toArray⟩ := ext_mk _ _ _
theorem bare_big (l : List UInt8) (h : l.length ≤ 100000) : (bare l).length ≤ 133336 := bare_len 33334 l (by omega)
end Pb
end Go.Proofs.YtgbhckokdjhpjaaDoor
