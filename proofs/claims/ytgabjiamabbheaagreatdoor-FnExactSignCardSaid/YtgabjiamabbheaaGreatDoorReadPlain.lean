
/- Plain mathematics of ReadHead: the program's way of reading a field and the model's are one. -/
import Derived.Test.YtgabjiamabbheaaGreatDoorHeadPlain
namespace Go.Proofs.YtgabjiamabbheaaGreatDoor
namespace Pl
/-- The first place from k on that is so, or n. -/
def find (P : Nat → Bool) : Nat → Nat → Nat
  | 0, k => k
  | f + 1, k => if P k then k else find P f (k + 1)
def first (P : Nat → Bool) (n k : Nat) : Nat := find P (n - k) k
set_option maxRecDepth 20000 in
theorem first_end (P : Nat → Bool) (n k : Nat) (h : n ≤ k) : first P n k = k := by
  unfold first; rw [show n - k = 0 by omega]; rfl
set_option maxRecDepth 20000 in
theorem first_hit (P : Nat → Bool) (n k : Nat) (h : P k = true) : first P n k = k := by
  unfold first
  cases n - k with
  | zero => rfl
  | succ f => rw [find, if_pos h]
set_option maxRecDepth 20000 in
theorem first_miss (P : Nat → Bool) (n k : Nat) (hk : k < n) (h : P k = false) : first P n (k + 1) = first P n k := by
  unfold first
  obtain ⟨f, hf⟩ : ∃ f, n - k = f + 1 := ⟨n - k - 1, by omega⟩
  rw [hf, find, if_neg (by rw [h]; simp), show n - (k + 1) = f by omega]
set_option maxRecDepth 20000 in
theorem first_spec (P : Nat → Bool) (n : Nat) : ∀ (d k : Nat), n - k = d → k ≤ n → k ≤ first P n k ∧ first P n k ≤ n ∧ (∀ j, k ≤ j → j < first P n k → P j = false) ∧ (first P n k < n → P (first P n k) = true)
  | 0, k, hd, hk => by
    rw [first_end P n k (by omega)]
    exact ⟨Nat.le_refl _, hk, fun j h1 h2 => by omega, fun h => by omega⟩
  | d + 1, k, hd, hk => by
    cases hp : P k
    · obtain ⟨h1, h2, h3, h4⟩ := first_spec P n d (k + 1) (by omega) (by omega)
      rw [first_miss P n k (by omega) hp] at h1 h2 h3 h4
      refine ⟨by omega, h2, fun j h5 h6 => ?_, h4⟩
      by_cases hj : j = k
      · rw [hj]; exact hp
      · exact h3 j (by omega) h6
    · rw [first_hit P n k hp]
      exact ⟨Nat.le_refl _, hk, fun j h1 h2 => by omega, fun _ => hp⟩
set_option maxRecDepth 20000 in
theorem first_ge (P : Nat → Bool) (n k : Nat) (h : k ≤ n) : k ≤ first P n k := (first_spec P n _ k rfl h).1
set_option maxRecDepth 20000 in
theorem first_le (P : Nat → Bool) (n k : Nat) (h : k ≤ n) : first P n k ≤ n := (first_spec P n _ k rfl h).2.1
set_option maxRecDepth 20000 in
theorem first_none (P : Nat → Bool) (n k : Nat) (h : k ≤ n) (j : Nat) (h1 : k ≤ j) (h2 : j < first P n k) : P j = false := (first_spec P n _ k rfl h).2.2.1 j h1 h2
set_option maxRecDepth 20000 in
theorem first_is (P : Nat → Bool) (n k : Nat) (h : k ≤ n) (h1 : first P n k < n) : P (first P n k) = true := (first_spec P n _ k rfl h).2.2.2 h1
set_option maxRecDepth 20000 in
theorem first_eq (P : Nat → Bool) (n k m : Nat) (hk : k ≤ m) (hm : m ≤ n) (h1 : ∀ j, k ≤ j → j < m → P j = false) (h2 : m < n → P m = true) : first P n k = m := by
  have a := first_ge P n k (by omega)
  have b := first_le P n k (by omega)
  have c := first_none P n k (by omega)
  have d := first_is P n k (by omega)
  by_cases h : first P n k < m
  · have := h1 _ a h
    rw [d (by omega)] at this
    cases this
  · by_cases h' : m < first P n k
    · have := c m hk h'
      rw [h2 (by omega)] at this
      cases this
    · omega
/-- The byte at a place (0 behind the end). -/
def b (l : List UInt8) (j : Nat) : UInt8 := l.getD j 0
set_option maxRecDepth 20000 in
theorem b_lt (l : List UInt8) (j : Nat) (h : j < l.length) : b l j = l[j] := getD_lt l j h
/-- Where the bytes of a kind end. -/
def stop (K : UInt8 → Bool) (l : List UInt8) (k : Nat) : Nat := first (fun j => !K (b l j)) l.length k
/-- Where the line ends; where the field ends; where the colon is. -/
def le (l : List UInt8) (k : Nat) : Nat := first (crlf l) l.length k
def fe (l : List UInt8) (k : Nat) : Nat := first (fun j => crlf l j && !fold l j) l.length k
def colon (l : List UInt8) (e k : Nat) : Nat := first (fun j => b l j == 58) e k
/-- The place behind a line's end. -/
def nx (l : List UInt8) (e : Nat) : Nat := if e < l.length then e + 2 else l.length
def sl (l : List UInt8) (i j : Nat) : List UInt8 := (l.drop i).take (j - i)
def trimR : List UInt8 → List UInt8 := fun l => (l.reverse.dropWhile blank).reverse
/-- The end of a value's scan, and the begin of the line that it stands in. -/
def vend (l : List UInt8) : Nat → Nat → Nat → Nat × Nat
  | 0, cur, beg => (cur, beg)
  | f + 1, cur, beg => if fold l (stop lb l cur) then vend l f (stop lb l cur + 2) (stop lb l cur + 2) else (stop lb l cur, beg)
abbrev FieldR := Sum Nat (List UInt8 × List UInt8 × Nat)
def nameGood (l : List UInt8) (k : Nat) : Bool := nameOk (sl l k (stop nb l k)) && (decide (stop blank l (stop nb l k) < l.length) && b l (stop blank l (stop nb l k)) == 58)
/-- A field as the program reads it. -/
def implF (l : List UInt8) (k : Nat) : FieldR :=
  if nameGood l k then
    let from_ := stop blank l (stop nb l k) + 1
    let v := vend l (l.length + 1) from_ k
    if l.length ≤ v.1 then .inr (sl l k (stop nb l k), sl l from_ l.length, l.length)
    else if crlf l v.1 then .inr (sl l k (stop nb l k), sl l from_ v.1, v.1 + 2) else .inl v.2
  else .inl k
/-- The line of the first ill byte. -/
def whr (l : List UInt8) (e beg : Nat) : Nat → Nat → Nat → Nat
  | 0, _, _ => beg
  | f + 1, k, from_ =>
    if k < e then
      if first (fun j => !lb (b l j)) (min (le l k) e) from_ < min (le l k) e then k else whr l e beg f (nx l (le l k)) (nx l (le l k))
    else beg
/-- A field as the model reads it. -/
def specF (l : List UInt8) (k : Nat) : FieldR :=
  let e := fe l k
  let c := colon l e k
  if decide (le l k ≤ c) || !nameOk (trimR (sl l k c)) then .inl k
  else if val (sl l (c + 1) e) then .inr (trimR (sl l k c), sl l (c + 1) e, nx l e) else .inl (whr l e k (l.length + 1) k (c + 1))
end Pl
end Go.Proofs.YtgabjiamabbheaaGreatDoor
