
/- Plain mathematics of Unstuff. -/
import Derived.Test.YtmclnkcpflehdaaDoorStuffPlain
namespace Go.Proofs.YtmclnkcpflehdaaDoor
namespace Pl
open Go.Lib

def undot (x : List UInt8) : List UInt8 := trimPrefix x [46]

def unF : Nat → List UInt8 → List UInt8 → Option (List UInt8 × List UInt8)
  | 0, _, _ => none
  | f + 1, r, acc => if (cut r crs).2.2 = true then (if (cut r crs).1 = [46] then some (acc, (cut r crs).2.1) else unF f (cut r crs).2.1 (acc ++ undot (cut r crs).1 ++ [13, 10])) else none

def un (r acc : List UInt8) : Option (List UInt8 × List UInt8) := unF (r.length + 1) r acc

theorem cut_found (l : List UInt8) (h : (cut l crs).2.2 = true) : (cut l crs).1.length + (cut l crs).2.1.length + 2 ≤ l.length := by
  by_cases h0 : 0 ≤ index l crs
  · have := index_room l crs h0
    unfold cut
    rw [if_pos h0]
    simp only [List.length_take, List.length_drop, crs, List.length_cons, List.length_nil] at *
    omega
  · unfold cut at h
    rw [if_neg h0] at h
    cases h

theorem unF_more : ∀ (f : Nat) (r acc : List UInt8), r.length < f → unF (f + 1) r acc = unF f r acc := by
  intro f
  induction f with
  | zero => intro r acc h; omega
  | succ f ih =>
    intro r acc h
    by_cases hc : (cut r crs).2.2 = true
    · have h1 := cut_found r hc
      have e := ih (cut r crs).2.1 (acc ++ undot (cut r crs).1 ++ [13, 10]) (by omega)
      show (if (cut r crs).2.2 = true then (if (cut r crs).1 = [46] then some (acc, (cut r crs).2.1) else unF (f + 1) (cut r crs).2.1 (acc ++ undot (cut r crs).1 ++ [13, 10])) else none) = (if (cut r crs).2.2 = true then (if (cut r crs).1 = [46] then some (acc, (cut r crs).2.1) else unF f (cut r crs).2.1 (acc ++ undot (cut r crs).1 ++ [13, 10])) else none)
      rw [e]
    · show (if (cut r crs).2.2 = true then (if (cut r crs).1 = [46] then some (acc, (cut r crs).2.1) else unF (f + 1) (cut r crs).2.1 (acc ++ undot (cut r crs).1 ++ [13, 10])) else none) = (if (cut r crs).2.2 = true then (if (cut r crs).1 = [46] then some (acc, (cut r crs).2.1) else unF f (cut r crs).2.1 (acc ++ undot (cut r crs).1 ++ [13, 10])) else none)
      rw [if_neg hc, if_neg hc]

theorem unF_all (f : Nat) (r acc : List UInt8) (h : r.length < f) : unF f r acc = un r acc := by
  induction f with
  | zero => omega
  | succ f ih =>
    by_cases hl : r.length = f
    · rw [un, hl]
    · rw [unF_more f r acc (by omega), ih (by omega)]

theorem un_none (r acc x y : List UInt8) (hc : cut r crs = (x, y, false)) : un r acc = none := by
  rw [un, unF, hc, if_neg (by simp)]
theorem un_done (r acc y : List UInt8) (hc : cut r crs = ([46], y, true)) : un r acc = some (acc, y) := by
  rw [un, unF, hc, if_pos rfl, if_pos rfl]
theorem un_step (r acc x y : List UInt8) (hc : cut r crs = (x, y, true)) (hx : x ≠ [46]) : un r acc = un y (acc ++ undot x ++ [13, 10]) := by
  have h1 := cut_found r (by rw [hc])
  rw [hc] at h1
  simp only at h1
  rw [un, unF, hc, if_pos rfl, if_neg hx]
  exact unF_all r.length y _ (by omega)

theorem undot_len (x : List UInt8) : (undot x).length ≤ x.length := by
  unfold undot trimPrefix
  split
  · simp
  · exact Nat.le_refl _
theorem undot_dot (x : List UInt8) (h : dot x = true) : undot x = x.drop 1 := by
  unfold undot trimPrefix
  rw [if_pos (show hasPrefix x [46] = true from h)]
  rfl
theorem undot_no (x : List UInt8) (h : dot x = false) : undot x = x := by
  unfold undot trimPrefix
  rw [if_neg (by rw [show hasPrefix x [46] = dot x from rfl, h]; simp)]
theorem dot_pos (x : List UInt8) (h : dot x = true) : 0 < x.length := by
  cases x with
  | nil => cases h
  | cons a r => simp

/-- A line end at place k of what begins at a. -/
theorem cut_at (l : List UInt8) (a k : Nat) (hak : a ≤ k) (h : NoCr (l.drop a) (k - a)) (h1 : crlf l k = true) : cut (l.drop a) crs = ((l.drop a).take (k - a), l.drop (k + 2), true) := by
  rw [cut_hit (l.drop a) (k - a) h (by rw [crlf_dropJ, show a + (k - a) = k by omega]; exact h1), List.drop_drop, show a + (k - a + 2) = k + 2 by omega]
theorem cut_end (l : List UInt8) (a k : Nat) (hk : l.length ≤ k + 1) (h : NoCr (l.drop a) (k - a)) : cut (l.drop a) crs = (l.drop a, [], false) := by
  refine cut_miss _ fun j hj => ?_
  by_cases hjk : j < k - a
  · exact h j hjk
  · rw [crlf_dropJ]
    exact crlf_short _ _ (by omega)

/-- The text's last line, and the piece that ends a text. -/
def last : List UInt8 := [46, 13, 10]
def piece : List UInt8 := [13, 10, 46, 13, 10]
/-- How many bytes a stuffed text has up to its end; 0 if that has not come. -/
def stSize (l : List UInt8) : Nat := if hasPrefix l last then 3 else (if index l piece < 0 then 0 else (index l piece).toNat + 5)
def unL (ls : List (List UInt8)) : List UInt8 := (ls.map fun x => undot x ++ [13, 10]).flatten
theorem piece_crs (t : List UInt8) (h : piece.isPrefixOf t = true) : crs.isPrefixOf t = true := by
  match t with
  | [] => cases h
  | [a] => simp [piece, List.isPrefixOf] at h
  | a :: b :: r =>
    simp only [piece, crs, List.isPrefixOf, Bool.and_eq_true] at *
    exact ⟨h.1, h.2.1, trivial⟩
theorem no_piece (r : List UInt8) (j : Nat) (h : crlf r j = false) : occAt r piece j = false := by
  rw [Bool.eq_false_iff]
  intro e
  have h2 : occAt r crs j = true := piece_crs _ e
  rw [occ_crlf, h] at h2
  cases h2
theorem last_crlf (r : List UInt8) (h : hasPrefix r last = true) : ∃ t, r = 46 :: 13 :: 10 :: t := by
  obtain ⟨t, ht⟩ := List.isPrefixOf_iff_prefix.1 (show last.isPrefixOf r = true from h)
  exact ⟨t, ht.symm⟩
theorem cut_cases (r : List UInt8) : (cut r crs = (r, [], false) ∧ ∀ j, crlf r j = false) ∨ ∃ x y, r = x ++ 13 :: 10 :: y ∧ cut r crs = (x, y, true) ∧ NoCr r x.length := by
  rcases index_spec r crs with ⟨-, h2⟩ | ⟨i, -, h2, h3, h4⟩
  · have hno : ∀ j, crlf r j = false := fun j => by
      by_cases hj : j ≤ r.length
      · rw [← occ_crlf]; exact h2 j hj
      · exact crlf_short _ _ (by omega)
    exact Or.inl ⟨cut_miss r fun j _ => hno j, hno⟩
  · have hcr : crlf r i = true := by rw [← occ_crlf]; exact h3
    have hno : NoCr r i := fun j hj => by rw [← occ_crlf]; exact h4 j hj
    obtain ⟨hl, -⟩ := (crlf_iff r i).1 hcr
    have ht : (r.take i).length = i := by rw [List.length_take]; omega
    refine Or.inr ⟨r.take i, r.drop (i + 2), ?_, cut_hit r i hno hcr, by rw [ht]; exact hno⟩
    have e2 : (r.drop i).take 2 = [13, 10] := by simpa [crlf] using hcr
    have e3 : r.drop i = [13, 10] ++ r.drop (i + 2) := by
      rw [← e2, ← List.drop_drop]
      exact (List.take_append_drop 2 (r.drop i)).symm
    conv => lhs; rw [← List.take_append_drop i r, e3]
    rfl
theorem index_two (y : List UInt8) : index (13 :: 10 :: y) piece = if hasPrefix y last = true then 0 else if index y piece == -1 then -1 else index y piece + 2 := by
  have h1 : piece.isPrefixOf (13 :: 10 :: y) = hasPrefix y last := by simp [piece, last, hasPrefix, List.isPrefixOf]
  have h2 : piece.isPrefixOf (10 :: y) = false := by simp [piece, List.isPrefixOf]
  have e1 : index (13 :: 10 :: y) piece = if piece.isPrefixOf (13 :: 10 :: y) = true then 0 else if index (10 :: y) piece == -1 then -1 else index (10 :: y) piece + 1 := rfl
  have e2 : index (10 :: y) piece = if piece.isPrefixOf (10 :: y) = true then 0 else if index y piece == -1 then -1 else index y piece + 1 := rfl
  rw [h2, if_neg (by simp)] at e2
  rw [e1, h1, e2]
  have hg := index_ge y piece
  generalize index y piece = z at *
  by_cases hp : hasPrefix y last = true
  · rw [if_pos hp, if_pos hp]
  · rw [if_neg hp, if_neg hp]
    by_cases hz : z = -1
    · subst hz; rfl
    · have hb : (z == -1) = false := beq_eq_false_iff_ne.2 hz
      rw [hb]
      have hb2 : (z + 1 == -1) = false := beq_eq_false_iff_ne.2 (by omega)
      simp only [Bool.false_eq_true, if_false, hb2]
      omega
theorem st_step (r x y : List UInt8) (hr : r = x ++ 13 :: 10 :: y) (hno : NoCr r x.length) (hx : x ≠ [46]) : stSize r = if stSize y = 0 then 0 else x.length + 2 + stSize y := by
  have hp : ¬ hasPrefix r last = true := by
    intro h
    obtain ⟨t, ht⟩ := last_crlf r h
    have h1 : crlf r 1 = true := by rw [ht]; rfl
    have hl : ¬ 1 < x.length := fun hl => by rw [hno 1 hl] at h1; cases h1
    match x, hr, hx, hl with
    | [], hr, _, _ => rw [ht] at hr; simp at hr
    | [a], hr, hx, _ => rw [ht] at hr; simp at hr; exact hx (by rw [← hr.1])
    | a :: b :: c, _, _, hl => simp at hl
  have hd : r.drop x.length = 13 :: 10 :: y := by rw [hr]; simp
  have hi := index_drop (s := r) (sub := piece) (i := x.length) (fun j hj => no_piece r j (hno j hj)) (by rw [hr]; simp)
  rw [hd, index_two] at hi
  unfold stSize
  rw [if_neg hp, hi]
  have hg := index_ge y piece
  generalize index y piece = z at *
  by_cases hq : hasPrefix y last = true
  · rw [if_pos hq, if_pos hq]
    simp
  · rw [if_neg hq, if_neg hq]
    by_cases hz : z = -1
    · subst hz; rfl
    · have hb : (z == -1) = false := beq_eq_false_iff_ne.2 hz
      have hb2 : (z + 2 == -1) = false := beq_eq_false_iff_ne.2 (by omega)
      simp only [hb, hb2, Bool.false_eq_true, if_false]
      rw [if_neg (show ¬ (z + 2 + (x.length : Int) < 0) by omega), if_neg (show ¬ (z < 0) by omega), if_neg (show ¬ (z.toNat + 5 = 0) by omega)]
      omega
theorem st_none (r : List UInt8) (h : ∀ j, crlf r j = false) : stSize r = 0 := by
  unfold stSize
  rw [if_neg (by
    intro e
    obtain ⟨t, ht⟩ := last_crlf r e
    have h1 : crlf r 1 = true := by rw [ht]; rfl
    rw [h 1] at h1; cases h1), index_none (fun j _ => no_piece r j (h j))]
  rfl
theorem st_le (r : List UInt8) : stSize r ≤ r.length := by
  unfold stSize
  by_cases hp : hasPrefix r last = true
  · obtain ⟨t, ht⟩ := last_crlf r hp
    rw [if_pos hp, ht]
    simp
  · rw [if_neg hp]
    by_cases hi : index r piece < 0
    · rw [if_pos hi]; omega
    · rw [if_neg hi]
      have h5 : index r piece + 5 ≤ r.length := index_room r piece (by omega)
      omega
theorem st_three (r : List UInt8) (h : stSize r ≠ 0) : 3 ≤ stSize r := by
  unfold stSize at *
  split
  · omega
  · rename_i hp
    rw [if_neg hp] at h
    split
    · rename_i hi; rw [if_pos hi] at h; omega
    · omega
theorem crlf_same (x t t' : List UInt8) (j : Nat) (h : j < x.length) : crlf (x ++ 13 :: t) j = crlf (x ++ 13 :: t') j := by
  unfold crlf
  rw [List.drop_append_of_le_length (by omega), List.drop_append_of_le_length (by omega)]
  match hx : x.drop j with
  | [] => have := congrArg List.length hx; simp at this; omega
  | [a] => rfl
  | a :: b :: c => rfl
theorem lines_cons (x t : List UInt8) (h : NoCr (x ++ 13 :: 10 :: t) x.length) : lines (x ++ 13 :: 10 :: t) = x :: lines t := by
  rw [lines_step _ (by simp), cut_hit _ x.length h (by
    unfold crlf
    rw [List.drop_left]
    rfl)]
  have e1 : (x ++ 13 :: 10 :: t).drop (x.length + 2) = t := by rw [List.drop_length_add_append]; rfl
  rw [e1, List.take_left]
theorem unL_cons (x : List UInt8) (ls : List (List UInt8)) : unL (x :: ls) = undot x ++ [13, 10] ++ unL ls := by simp [unL]
theorem un_size : ∀ (n : Nat) (r acc : List UInt8), r.length ≤ n → un r acc = if stSize r = 0 then none else some (acc ++ unL (lines (r.take (stSize r - 3))), r.drop (stSize r)) := by
  intro n
  induction n with
  | zero =>
    intro r acc h
    have : r = [] := List.length_eq_zero_iff.1 (by omega)
    subst this
    rfl
  | succ n ih =>
    intro r acc h
    rcases cut_cases r with ⟨h1, h2⟩ | ⟨x, y, hr, hc, hno⟩
    · rw [un_none r acc _ _ h1, st_none r h2]
      rfl
    · by_cases hx : x = [46]
      · subst hx
        rw [un_done r acc y hc]
        have hs : stSize r = 3 := by
          unfold stSize
          rw [hr]
          rfl
        rw [hs, hr, if_neg (by decide)]
        simp [lines_nil, unL]
      · have hlen : r.length = x.length + 2 + y.length := by rw [hr]; simp; omega
        rw [un_step r acc x y hc hx, ih y _ (by omega), st_step r x y hr hno hx]
        by_cases hy : stSize y = 0
        · rw [if_pos hy, if_pos hy]; rfl
        · have h3 := st_three y hy
          rw [if_neg hy, if_neg hy, if_neg (by omega)]
          have e1 : r.take (x.length + 2 + stSize y - 3) = x ++ 13 :: 10 :: y.take (stSize y - 3) := by
            rw [hr, show x.length + 2 + stSize y - 3 = x.length + ((stSize y - 3) + 1 + 1) by omega, List.take_length_add_append]
            rfl
          have e2 : r.drop (x.length + 2 + stSize y) = y.drop (stSize y) := by
            rw [hr, show x.length + 2 + stSize y = x.length + (stSize y + 1 + 1) by omega, List.drop_length_add_append]
            rfl
          rw [e1, e2, lines_cons x _ (fun j hj => by rw [crlf_same x _ (10 :: y) j hj, ← hr]; exact hno j hj), unL_cons]
          simp
theorem un_at (r : List UInt8) : un r [] = if stSize r = 0 then none else some (unL (lines (r.take (stSize r - 3))), r.drop (stSize r)) := by
  rw [un_size r.length r [] (Nat.le_refl _)]
  simp
theorem unL_take (ls : List (List UInt8)) (k : Nat) (h : k < ls.length) : unL (ls.take (k + 1)) = unL (ls.take k) ++ undot ls[k] ++ [13, 10] := by
  unfold unL
  rw [List.take_succ_eq_append_getElem h, List.map_append, List.flatten_append]
  simp
theorem unL_len (ls : List (List UInt8)) : (unL ls).length ≤ (ls.map (fun x => x.length)).sum + 3 * ls.length := by
  induction ls with
  | nil => simp [unL]
  | cons a r ih =>
    have h := undot_len a
    rw [unL_cons, List.map_cons, List.sum_cons, List.length_cons]
    simp only [List.length_append, List.length_cons, List.length_nil]
    omega
theorem un_len (l : List UInt8) (k : Nat) : (unL ((lines l).take k)).length ≤ 4 * l.length := by
  have h1 := unL_len ((lines l).take k)
  have h2 := sum_take (lines l) k
  have h3 := lines_total l.length l (Nat.le_refl _)
  have h4 : ((lines l).take k).length ≤ (lines l).length := by rw [List.length_take]; omega
  omega
end Pl
end Go.Proofs.YtmclnkcpflehdaaDoor
