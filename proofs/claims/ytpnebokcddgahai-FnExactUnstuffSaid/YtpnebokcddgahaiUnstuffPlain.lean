/- Plain mathematics of Unstuff. -/
import Derived.Test.YtpnebokcddgahaiStuffPlain
namespace Go.Proofs.Ytpnebokcddgahai
namespace Pl
open Go.Lib

def undot (x : List UInt8) : List UInt8 := trimPrefix x [46]

def unF : Nat → List UInt8 → List UInt8 → Option (List UInt8 × List UInt8)
  | 0, _, _ => none
  | f + 1, r, acc => if (cut r crs).2.2 = true then (if (cut r crs).1 = [46] then some (acc, (cut r crs).2.1) else unF f (cut r crs).2.1 (acc ++ undot (cut r crs).1 ++ [13, 10])) else none

def un (r acc : List UInt8) : Option (List UInt8 × List UInt8) := unF (r.length + 1) r acc

theorem cut_found (l : List UInt8) (h : (cut l crs).2.2 = true) : (cut l crs).1.length + (cut l crs).2.1.length + 2 ≤ l.length := by
  by_cases h0 : 0 ≤ index l crs
  · have := index_room l crs h0
    unfold cut
    rw [if_pos h0]
    simp only [List.length_take, List.length_drop, crs, List.length_cons, List.length_nil] at *
    omega
  · unfold cut at h
    rw [if_neg h0] at h
    cases h

theorem unF_more : ∀ (f : Nat) (r acc : List UInt8), r.length < f → unF (f + 1) r acc = unF f r acc := by
  intro f
  induction f with
  | zero => intro r acc h; omega
  | succ f ih =>
    intro r acc h
    by_cases hc : (cut r crs).2.2 = true
    · have h1 := cut_found r hc
      have e := ih (cut r crs).2.1 (acc ++ undot (cut r crs).1 ++ [13, 10]) (by omega)
      show (if (cut r crs).2.2 = true then (if (cut r crs).1 = [46] then some (acc, (cut r crs).2.1) else unF (f + 1) (cut r crs).2.1 (acc ++ undot (cut r crs).1 ++ [13, 10])) else none) = (if (cut r crs).2.2 = true then (if (cut r crs).1 = [46] then some (acc, (cut r crs).2.1) else unF f (cut r crs).2.1 (acc ++ undot (cut r crs).1 ++ [13, 10])) else none)
      rw [e]
    · show (if (cut r crs).2.2 = true then (if (cut r crs).1 = [46] then some (acc, (cut r crs).2.1) else unF (f + 1) (cut r crs).2.1 (acc ++ undot (cut r crs).1 ++ [13, 10])) else none) = (if (cut r crs).2.2 = true then (if (cut r crs).1 = [46] then some (acc, (cut r crs).2.1) else unF f (cut r crs).2.1 (acc ++ undot (cut r crs).1 ++ [13, 10])) else none)
      rw [if_neg hc, if_neg hc]

theorem unF_all (f : Nat) (r acc : List UInt8) (h : r.length < f) : unF f r acc = un r acc := by
  induction f with
  | zero => omega
  | succ f ih =>
    by_cases hl : r.length = f
    · rw [un, hl]
    · rw [unF_more f r acc (by omega), ih (by omega)]

theorem un_none (r acc x y : List UInt8) (hc : cut r crs = (x, y, false)) : un r acc = none := by
  rw [un, unF, hc, if_neg (by simp)]
theorem un_done (r acc y : List UInt8) (hc : cut r crs = ([46], y, true)) : un r acc = some (acc, y) := by
  rw [un, unF, hc, if_pos rfl, if_pos rfl]
theorem un_step (r acc x y : List UInt8) (hc : cut r crs = (x, y, true)) (hx : x ≠ [46]) : un r acc = un y (acc ++ undot x ++ [13, 10]) := by
  have h1 := cut_found r (by rw [hc])
  rw [hc] at h1
  simp only at h1
  rw [un, unF, hc, if_pos rfl, if_neg hx]
  exact unF_all r.length y _ (by omega)

theorem undot_len (x : List UInt8) : (undot x).length ≤ x.length := by
  unfold undot trimPrefix
  split
  · simp
  · exact Nat.le_refl _
theorem undot_dot (x : List UInt8) (h : dot x = true) : undot x = x.drop 1 := by
  unfold undot trimPrefix
  rw [if_pos (show hasPrefix x [46] = true from h)]
  rfl
theorem undot_no (x : List UInt8) (h : dot x = false) : undot x = x := by
  unfold undot trimPrefix
  rw [if_neg (by rw [show hasPrefix x [46] = dot x from rfl, h]; simp)]
theorem dot_pos (x : List UInt8) (h : dot x = true) : 0 < x.length := by
  cases x with
  | nil => cases h
  | cons a r => simp

/-- A line end at place k of what begins at a. -/
theorem cut_at (l : List UInt8) (a k : Nat) (hak : a ≤ k) (h : NoCr (l.drop a) (k - a)) (h1 : crlf l k = true) : cut (l.drop a) crs = ((l.drop a).take (k - a), l.drop (k + 2), true) := by
  rw [cut_hit (l.drop a) (k - a) h (by rw [crlf_drop, show a + (k - a) = k by omega]; exact h1), List.drop_drop, show a + (k - a + 2) = k + 2 by omega]
theorem cut_end (l : List UInt8) (a k : Nat) (hk : l.length ≤ k + 1) (h : NoCr (l.drop a) (k - a)) : cut (l.drop a) crs = (l.drop a, [], false) := by
  refine cut_miss _ fun j hj => ?_
  by_cases hjk : j < k - a
  · exact h j hjk
  · rw [crlf_drop]
    exact crlf_short _ _ (by omega)
end Pl
end Go.Proofs.Ytpnebokcddgahai
