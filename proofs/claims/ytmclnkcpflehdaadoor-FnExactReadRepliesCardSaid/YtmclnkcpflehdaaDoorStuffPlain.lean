
/- Plain mathematics of Stuff. -/
import Derived.Test.YtmclnkcpflehdaaDoorLinesPlain
namespace Go.Proofs.YtmclnkcpflehdaaDoor
namespace Pl
open Go.Lib

def dot (l : List UInt8) : Bool := hasPrefix l [46]

/-- One line as it is sent. -/
def sent (l : List UInt8) : List UInt8 := (if dot l then [46] else []) ++ l ++ [13, 10]

def stuffL (ls : List (List UInt8)) : List UInt8 := (ls.map sent).flatten

def stuff (l : List UInt8) : List UInt8 := stuffL (lines l) ++ [46, 13, 10]

theorem stuff_take (ls : List (List UInt8)) (k : Nat) (h : k < ls.length) : stuffL (ls.take (k + 1)) = stuffL (ls.take k) ++ sent ls[k] := by
  unfold stuffL
  rw [List.take_succ_eq_append_getElem h, List.map_append, List.flatten_append]
  simp

theorem dot_nil : dot [] = false := rfl
theorem dot_ext (s : ByteArray) : ((s.extract 0 1).toList == [46]) = dot s.data.toList := by
  rw [ext_list]
  unfold dot hasPrefix
  match s.data.toList with
  | [] => rfl
  | a :: r =>
    rw [Bool.eq_iff_iff]
    simp only [List.drop_zero, List.take_succ_cons, List.take_zero, beq_iff_eq, List.cons.injEq, and_true, List.isPrefixOf, Bool.and_true]
    exact eq_comm

/-- All lines together, with their ends, are not much longer than the text. -/
theorem lines_total : ∀ (f : Nat) (l : List UInt8), l.length ≤ f → ((lines l).map (fun x => x.length)).sum + (lines l).length ≤ l.length + 1 ∧ ((lines l).map (fun x => x.length)).sum ≤ l.length ∧ (lines l).length ≤ l.length := by
  intro f
  induction f with
  | zero => intro l h; have : l = [] := List.length_eq_zero_iff.1 (by omega); subst this; simp [lines_nil]
  | succ f ih =>
    intro l h
    by_cases hl : l = []
    · subst hl; simp [lines_nil]
    · have h1 := cut_rest l hl
      have h2 := ih (cut l crs).2.1 (by omega)
      rw [lines_step l hl]
      have h3 : (cut l crs).1.length + (cut l crs).2.1.length ≤ l.length := by
        unfold cut; split
        · simp only [List.length_take, List.length_drop]; omega
        · simp
      have h4 : (cut l crs).2.1 ≠ [] → (cut l crs).1.length + (cut l crs).2.1.length + 2 ≤ l.length := by
        unfold cut; split
        · simp only [List.length_take, List.length_drop, crs, List.length_cons, List.length_nil, ne_eq, List.drop_eq_nil_iff]; omega
        · simp
      simp only [List.map_cons, List.sum_cons, List.length_cons]
      by_cases hy : (cut l crs).2.1 = []
      · rw [hy, lines_nil] at *
        have := cut_fst l
        have : 0 < l.length := List.length_pos_iff.2 hl
        simp only [List.map_nil, List.sum_nil, List.length_nil]; omega
      · have := h4 hy
        omega

theorem stuffL_len (ls : List (List UInt8)) : (stuffL ls).length ≤ (ls.map (fun x => x.length)).sum + 3 * ls.length := by
  induction ls with
  | nil => simp [stuffL]
  | cons a r ih =>
    have e : stuffL (a :: r) = sent a ++ stuffL r := rfl
    have h : (sent a).length ≤ a.length + 3 := by unfold sent; split <;> simp <;> omega
    rw [e, List.length_append, List.map_cons, List.sum_cons, List.length_cons]
    omega
theorem sum_take (ls : List (List UInt8)) (k : Nat) : ((ls.take k).map (fun x => x.length)).sum ≤ (ls.map (fun x => x.length)).sum := by
  induction ls generalizing k with
  | nil => simp
  | cons a r ih =>
    match k with
    | 0 => simp
    | k + 1 => have := ih k; simp only [List.take_succ_cons, List.map_cons, List.sum_cons]; omega
theorem stuff_len (l : List UInt8) (k : Nat) : (stuffL ((lines l).take k)).length ≤ 4 * l.length := by
  have h1 := stuffL_len ((lines l).take k)
  have h2 := sum_take (lines l) k
  have h3 := lines_total l.length l (Nat.le_refl _)
  have h4 : ((lines l).take k).length ≤ (lines l).length := by rw [List.length_take]; omega
  omega
theorem line_len (l : List UInt8) (k : Nat) (h : k < (lines l).length) : (lines l)[k].length ≤ l.length := by
  have h3 := lines_total l.length l (Nat.le_refl _)
  have : ∀ (ls : List (List UInt8)) (k : Nat) (h : k < ls.length), ls[k].length ≤ (ls.map (fun x => x.length)).sum := by
    intro ls
    induction ls with
    | nil => intro k h; simp at h
    | cons a r ih =>
      intro k h
      match k with
      | 0 => simp
      | k + 1 => have := ih k (by simpa using h); simp only [List.getElem_cons_succ, List.map_cons, List.sum_cons]; omega
  have := this (lines l) k h
  omega
end Pl
end Go.Proofs.YtmclnkcpflehdaaDoor
