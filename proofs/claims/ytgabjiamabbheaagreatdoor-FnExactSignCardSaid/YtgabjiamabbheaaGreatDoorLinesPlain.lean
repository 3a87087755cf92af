
/- Plain mathematics of Lines: a text cut at its line ends. -/
import Derived.Lib.IndexMore
import Derived.Test.YtgabjiamabbheaaGreatDoorPlain
namespace Go.Proofs.YtgabjiamabbheaaGreatDoor
namespace Pl
open Go.Lib

def crs : List UInt8 := [13, 10]

def linesF : Nat → List UInt8 → List (List UInt8)
  | 0, _ => []
  | f + 1, l => if l = [] then [] else (cut l crs).1 :: linesF f (cut l crs).2.1

def lines (l : List UInt8) : List (List UInt8) := linesF l.length l

set_option maxRecDepth 20000 in
theorem cut_rest (l : List UInt8) (h : l ≠ []) : (cut l crs).2.1.length < l.length := by
  have h0 : 0 < l.length := List.length_pos_iff.2 h
  unfold cut
  split
  · simp [crs]; omega
  · simpa using h0

set_option maxRecDepth 20000 in
theorem cut_fst (l : List UInt8) : (cut l crs).1.length ≤ l.length := by
  unfold cut
  split
  · rw [List.length_take]; omega
  · exact Nat.le_refl _

set_option maxRecDepth 20000 in
theorem linesF_more : ∀ (f : Nat) (l : List UInt8), l.length ≤ f → linesF (f + 1) l = linesF f l := by
  intro f
  induction f with
  | zero => intro l h; have : l = [] := List.length_eq_zero_iff.1 (by omega); subst this; rfl
  | succ f ih =>
    intro l h
    by_cases hl : l = []
    · subst hl; rfl
    · have e := ih (cut l crs).2.1 (by have := cut_rest l hl; omega)
      show (if l = [] then [] else (cut l crs).1 :: linesF (f + 1) (cut l crs).2.1) = (if l = [] then [] else (cut l crs).1 :: linesF f (cut l crs).2.1)
      rw [e]

set_option maxRecDepth 20000 in
theorem linesF_all (f : Nat) (l : List UInt8) (h : l.length ≤ f) : linesF f l = lines l := by
  induction f with
  | zero => rw [lines, show l.length = 0 by omega]
  | succ f ih =>
    by_cases hl : l.length = f + 1
    · rw [lines, hl]
    · rw [linesF_more f l (by omega), ih (by omega)]

set_option maxRecDepth 20000 in
theorem lines_nil : lines [] = [] := rfl
set_option maxRecDepth 20000 in
theorem lines_step (l : List UInt8) (h : l ≠ []) : lines l = (cut l crs).1 :: lines (cut l crs).2.1 := by
  have h1 := cut_rest l h
  obtain ⟨n, hn⟩ : ∃ n, l.length = n + 1 := ⟨l.length - 1, by omega⟩
  rw [lines, hn, linesF, if_neg h, linesF_all n _ (by omega)]

set_option maxRecDepth 20000 in
theorem occ_crlf (l : List UInt8) (k : Nat) : occAt l crs k = crlf l k := by
  unfold occAt crlf crs
  match l.drop k with
  | [] => rfl
  | [a] => simp [List.isPrefixOf]
  | a :: b :: r =>
    rw [Bool.eq_iff_iff]
    simp only [List.isPrefixOf, Bool.and_true, Bool.and_eq_true, beq_iff_eq, List.take_succ_cons, List.take_zero, List.cons.injEq, and_true]
    exact ⟨fun h => ⟨h.1.symm, h.2.symm⟩, fun h => ⟨h.1.symm, h.2.symm⟩⟩

/-- No line end begins ahead of place n. -/
def NoCr (l : List UInt8) (n : Nat) : Prop := ∀ j, j < n → crlf l j = false
set_option maxRecDepth 20000 in
theorem NoCr.zero (l : List UInt8) : NoCr l 0 := fun _ h => absurd h (Nat.not_lt_zero _)
set_option maxRecDepth 20000 in
theorem NoCr.succ {l : List UInt8} {n : Nat} (h : NoCr l n) (h1 : crlf l n = false) : NoCr l (n + 1) := fun j hj => by
  by_cases e : j = n
  · subst e; exact h1
  · exact h j (by omega)
set_option maxRecDepth 20000 in
theorem NoCr.noOcc {l : List UInt8} {n : Nat} (h : NoCr l n) : NoOcc l crs n := fun j hj => by rw [occ_crlf]; exact h j hj

set_option maxRecDepth 20000 in
theorem cut_hit (l : List UInt8) (i : Nat) (h : NoCr l i) (h1 : crlf l i = true) : cut l crs = (l.take i, l.drop (i + 2), true) := by
  have hi : i ≤ l.length := by obtain ⟨h, -⟩ := (crlf_iff l i).1 h1; omega
  have e : index l crs = i := index_hit h.noOcc hi (by rw [occ_crlf]; exact h1)
  unfold cut
  rw [e, if_pos (by omega)]
  rfl
set_option maxRecDepth 20000 in
theorem cut_miss (l : List UInt8) (h : NoCr l l.length) : cut l crs = (l, [], false) := by
  have e : index l crs = -1 := index_none fun j hj => by
    rw [occ_crlf]
    by_cases hj' : j < l.length
    · exact h j hj'
    · exact crlf_short l j (by omega)
  unfold cut
  rw [e, if_neg (by decide)]

set_option maxRecDepth 20000 in
theorem crlf_dropJ (l : List UInt8) (a j : Nat) : crlf (l.drop a) j = crlf l (a + j) := by
  unfold crlf
  rw [List.drop_drop]

end Pl
end Go.Proofs.YtgabjiamabbheaaGreatDoor
namespace Go.Proofs.YtgabjiamabbheaaGreatDoor
namespace Pl
open Go.Lib
set_option maxRecDepth 20000 in
theorem ext_mk (s : ByteArray) (a b : Nat) : s.extract a b = ⟨((s.data.toList.drop a).take (b - a)).toArray⟩ := by
  apply ByteArray.ext
  apply Array.toList_inj.1
  rw [ext_data]

set_option maxRecDepth 20000 in
theorem line_hit (l : List UInt8) (a k : Nat) (ps : List (List UInt8)) (hak : a ≤ k) (h : NoCr (l.drop a) (k - a)) (h1 : crlf l k = true) (hp : ps ++ lines (l.drop a) = lines l) :
    (ps ++ [(l.drop a).take (k - a)]) ++ lines (l.drop (k + 2)) = lines l := by
  obtain ⟨hk, -⟩ := (crlf_iff l k).1 h1
  have hne : l.drop a ≠ [] := by
    intro e
    have := congrArg List.length e
    simp at this
    omega
  rw [lines_step _ hne, cut_hit (l.drop a) (k - a) h (by rw [crlf_dropJ, show a + (k - a) = k by omega]; exact h1)] at hp
  simp only [List.drop_drop] at hp
  rw [show a + (k - a + 2) = k + 2 by omega] at hp
  rw [← hp]
  simp
set_option maxRecDepth 20000 in
theorem line_last (l : List UInt8) (a k : Nat) (ps : List (List UInt8)) (hak : a < l.length) (hk : l.length ≤ k) (h : NoCr (l.drop a) (k - a)) (hp : ps ++ lines (l.drop a) = lines l) :
    ps ++ [l.drop a] = lines l := by
  have hne : l.drop a ≠ [] := by
    intro e
    have := congrArg List.length e
    simp at this
    omega
  rw [lines_step _ hne, cut_miss (l.drop a) (fun j hj => h j (by simp at hj; omega)), lines_nil] at hp
  exact hp
set_option maxRecDepth 20000 in
theorem line_none (l : List UInt8) (a : Nat) (ps : List (List UInt8)) (ha : l.length ≤ a) (hp : ps ++ lines (l.drop a) = lines l) : ps = lines l := by
  rw [List.drop_eq_nil_of_le ha, lines_nil] at hp
  simpa using hp
set_option maxRecDepth 20000 in
theorem noCr_next (l : List UInt8) (a k : Nat) (hak : a ≤ k) (h : NoCr (l.drop a) (k - a)) (h1 : crlf l k = false) : NoCr (l.drop a) (k + 1 - a) := by
  rw [show k + 1 - a = k - a + 1 by omega]
  exact h.succ (by rw [crlf_dropJ, show a + (k - a) = k by omega]; exact h1)
set_option maxRecDepth 20000 in
theorem crlf_no13 (l : List UInt8) (k : Nat) (h : k < l.length) (h1 : l[k] ≠ 13) : crlf l k = false := by
  rw [Bool.eq_false_iff]; intro e
  obtain ⟨h, h0, -⟩ := (crlf_iff _ _).1 e
  exact h1 h0
set_option maxRecDepth 20000 in
theorem crlf_no10 (l : List UInt8) (k : Nat) (h : k + 1 < l.length) (h1 : l[k + 1] ≠ 10) : crlf l k = false := by
  rw [Bool.eq_false_iff]; intro e
  obtain ⟨h, -, h0⟩ := (crlf_iff _ _).1 e
  exact h1 h0
end Pl
end Go.Proofs.YtgabjiamabbheaaGreatDoor
