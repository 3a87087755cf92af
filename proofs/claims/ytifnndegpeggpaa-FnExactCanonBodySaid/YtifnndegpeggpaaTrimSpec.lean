
/- Blanks taken off both ends, the specification's side. -/
import Derived.Test.YtifnndegpeggpaaBlank
namespace Go.Proofs.Ytifnndegpeggpaa
open Go.RowKit Go.Lib
namespace Pl
def endB (l : List UInt8) : List UInt8 := (l.reverse.dropWhile blank).reverse
def trimB (l : List UInt8) : List UInt8 := endB (l.dropWhile blank)
theorem tail_list (t : ByteArray) : (t.extract 1 t.size).data.toList = t.data.toList.drop 1 := by
  rw [ext_data, List.take_of_length_le (by simp)]
theorem drop_head (t : ByteArray) (h : 0 < t.size) (hb : blank t[0] = true) : (t.data.toList.drop 1).dropWhile blank = t.data.toList.dropWhile blank := by
  obtain ⟨⟨l⟩⟩ := t
  match l, h, hb with
  | c :: r, _, hb =>
    show r.dropWhile blank = (c :: r).dropWhile blank
    rw [List.dropWhile_cons, if_pos (show blank c = true from hb)]
theorem keep_head (t : ByteArray) (h : 0 < t.size) (hb : blank t[0] = false) : t.data.toList.dropWhile blank = t.data.toList := by
  obtain ⟨⟨l⟩⟩ := t
  match l, h, hb with
  | c :: r, _, hb =>
    show (c :: r).dropWhile blank = c :: r
    rw [List.dropWhile_cons, if_neg (by rw [show blank c = false from hb]; simp)]
theorem snoc_list (t : ByteArray) (h : 0 < t.size) : t.data.toList = (t.extract 0 (t.size - 1)).data.toList ++ [t[t.size - 1]] := by
  rw [ext_data, List.drop_zero, Nat.sub_zero]
  have hl : t.data.toList.length = t.size := len_list t
  have e : t.data.toList = t.data.toList.take (t.size - 1) ++ t.data.toList.drop (t.size - 1) := (List.take_append_drop _ _).symm
  have d : t.data.toList.drop (t.size - 1) = [t[t.size - 1]] := by
    rw [List.drop_eq_getElem_cons (by omega), List.drop_eq_nil_of_le (by omega)]
    rfl
  rw [d] at e
  exact e
theorem drop_last (t : ByteArray) (h : 0 < t.size) (hb : blank (t[t.size - 1]) = true) : endB (t.extract 0 (t.size - 1)).data.toList = endB t.data.toList := by
  conv => rhs; rw [snoc_list t h]
  unfold endB
  rw [List.reverse_append, List.reverse_singleton, List.singleton_append, List.dropWhile_cons, if_pos hb]
theorem keep_last (t : ByteArray) (h : 0 < t.size) (hb : blank (t[t.size - 1]) = false) : endB t.data.toList = t.data.toList := by
  have e := snoc_list t h
  unfold endB
  rw [e, List.reverse_append, List.reverse_singleton, List.singleton_append, List.dropWhile_cons, if_neg (by rw [hb]; simp), List.reverse_cons, List.reverse_reverse]
theorem endB_nil (t : ByteArray) (h : ¬ 0 < t.size) : endB t.data.toList = t.data.toList := by
  have : t.data.toList = [] := List.length_eq_zero_iff.1 (by rw [len_list]; omega)
  rw [this]; rfl
theorem dropW_nil (t : ByteArray) (h : ¬ 0 < t.size) : t.data.toList.dropWhile blank = t.data.toList := by
  have : t.data.toList = [] := List.length_eq_zero_iff.1 (by rw [len_list]; omega)
  rw [this]; rfl
theorem mk_list (t : ByteArray) (R : List UInt8) (h : t.data.toList = R) : t = ⟨R.toArray⟩ := by
  rw [← h]
end Pl
end Go.Proofs.Ytifnndegpeggpaa
