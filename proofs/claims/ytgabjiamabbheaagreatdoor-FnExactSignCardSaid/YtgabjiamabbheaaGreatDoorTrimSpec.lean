
/- Blanks taken off both ends, the specification's side. -/
import Derived.Test.YtgabjiamabbheaaGreatDoorBlank
namespace Go.Proofs.YtgabjiamabbheaaGreatDoor
open Go.RowKit Go.Lib
namespace Pl
def endB (l : List UInt8) : List UInt8 := (l.reverse.dropWhile blank).reverse
def trimB (l : List UInt8) : List UInt8 := endB (l.dropWhile blank)
set_option maxRecDepth 20000 in
theorem tail_list (t : ByteArray) : (t.extract 1 t.size).data.toList = t.data.toList.drop 1 := by
  rw [ext_data, List.take_of_length_le (by simp)]
set_option maxRecDepth 20000 in
theorem drop_head (t : ByteArray) (h : 0 < t.size) (hb : blank t[0] = true) : (t.data.toList.drop 1).dropWhile blank = t.data.toList.dropWhile blank := by
  obtain ⟨⟨l⟩⟩ := t
  match l, h, hb with
  | c :: r, _, hb =>
    show r.dropWhile blank = (c :: r).dropWhile blank
    rw [List.dropWhile_cons, if_pos (show blank c = true from hb)]
set_option maxRecDepth 20000 in
theorem keep_head (t : ByteArray) (h : 0 < t.size) (hb : blank t[0] = false) : t.data.toList.dropWhile blank = t.data.toList := by
  obtain ⟨⟨l⟩⟩ := t
  match l, h, hb with
  | c :: r, _, hb =>
    show (c :: r).dropWhile blank = c :: r
    rw [List.dropWhile_cons, if_neg (by rw [show blank c = false from hb]; simp)]
set_option maxRecDepth 20000 in
theorem snoc_list (t : ByteArray) (h : 0 < t.size) : t.data.toList = (t.extract 0 (t.size - 1)).data.toList ++ [t[t.size - 1]] := by
  rw [ext_data, List.drop_zero, Nat.sub_zero]
  have hl : t.data.toList.length = t.size := len_list t
  have e : t.data.toList = t.data.toList.take (t.size - 1) ++ t.data.toList.drop (t.size - 1) := (List.take_append_drop _ _).symm
  have d : t.data.toList.drop (t.size - 1) = [t[t.size - 1]] := by
    rw [List.drop_eq_getElem_cons (by omega), List.drop_eq_nil_of_le (by omega)]
    rfl
  rw [d] at e
  exact e
set_option maxRecDepth 20000 in
theorem drop_last (t : ByteArray) (h : 0 < t.size) (hb : blank (t[t.size - 1]) = true) : endB (t.extract 0 (t.size - 1)).data.toList = endB t.data.toList := by
  conv => rhs; rw [snoc_list t h]
  unfold endB
  rw [List.reverse_append, List.reverse_singleton, List.singleton_append, List.dropWhile_cons, if_pos hb]
set_option maxRecDepth 20000 in
theorem keep_last (t : ByteArray) (h : 0 < t.size) (hb : blank (t[t.size - 1]) = false) : endB t.data.toList = t.data.toList := by
  have e := snoc_list t h
  unfold endB
  rw [e, List.reverse_append, List.reverse_singleton, List.singleton_append, List.dropWhile_cons, if_neg (by rw [hb]; simp), List.reverse_cons, List.reverse_reverse]
set_option maxRecDepth 20000 in
theorem endB_nil (t : ByteArray) (h : ¬ 0 < t.size) : endB t.data.toList = t.data.toList := by
  have : t.data.toList = [] := List.length_eq_zero_iff.1 (by rw [len_list]; omega)
  rw [this]; rfl
set_option maxRecDepth 20000 in
theorem dropW_nil (t : ByteArray) (h : ¬ 0 < t.size) : t.data.toList.dropWhile blank = t.data.toList := by
  have : t.data.toList = [] := List.length_eq_zero_iff.1 (by rw [len_list]; omega)
  rw [this]; rfl
set_option maxRecDepth 20000 in
theorem mk_list (t : ByteArray) (R : List UInt8) (h : t.data.toList = R) : t = ⟨R.toArray⟩ := by
  rw [← h]
end Pl
set_option maxRecDepth 20000 in
set_option maxHeartbeats 2000000 in
theorem specTrimB (s : ByteArray) (w : World) (_hs : s.size ≤ 1100000) :
    Calls Tryz.prog 73 #[.string s] w fun e w' => e = .returned (.string ⟨(Pl.trimB s.data.toList).toArray⟩) ∧ w = w' := by
  obtain ⟨R, hR⟩ : ∃ R, Pl.trimB s.data.toList = R := ⟨_, rfl⟩
  have HR : Hid (Pl.endB (s.data.toList.dropWhile Pl.blank) = R) := hR
  rw [hR]
  clear hR
  go_enter Tryz.func73, Tryz.ntmps73
  go_wp2
  go_loopw [0] (fun x wr => ∃ t : ByteArray, t.size ≤ s.size ∧ x = .string t ∧ Hid (t.data.toList.dropWhile Pl.blank = s.data.toList.dropWhile Pl.blank) ∧ wr = w) (fun x _ => match x with | .string t => t.size | _ => 0)
  case atStart => exact ⟨s, Nat.le_refl _, rfl, rfl, rfl⟩
  case round =>
    obtain ⟨t, ht, rfl, hp, rfl⟩ := hrel
    by_cases h0 : 0 < t.size
    · have h8 : t[0].toNat < 256 := UInt8.toNat_lt _
      have hc := fun w => specBlank t[0] w
      cases hb : Pl.blank t[0] <;> simp only [hb] at hc
      · have HE : Hid (Pl.endB t.data.toList = R) := by
          show _ = _
          rw [← HR.out, ← hp.out, Pl.keep_head t h0 hb]
        clear hb
        go_wp2_with fail
        refine (hc _).mono ?_
        rintro e w2 ⟨rfl, rfl⟩
        go_wp2
        go_loopw [0] (fun x wx => ∃ t : ByteArray, t.size ≤ s.size ∧ x = .string t ∧ Hid (Pl.endB t.data.toList = R) ∧ wx = wr) (fun x _ => match x with | .string t => t.size | _ => 0)
        case atStart => exact ⟨t, ht, rfl, HE, rfl⟩
        case round =>
          clear hp ht
          obtain ⟨t, ht, rfl, hp, rfl⟩ := hrel
          by_cases h0 : 0 < t.size
          · have h8 : t[t.size - 1].toNat < 256 := UInt8.toNat_lt _
            have hc := fun w => specBlank t[t.size - 1] w
            cases hb : Pl.blank t[t.size - 1] <;> simp only [hb] at hc
            · have Hb : Hid (t = ⟨R.toArray⟩) := Pl.mk_list t R (by rw [← hp.out, Pl.keep_last t h0 hb])
              clear hb hp
              go_wp2_with fail
              refine (hc _).mono ?_
              rintro e w2 ⟨rfl, rfl⟩
              go_wp2
              go_ret
              exact ⟨by rw [← Hb.out]; rfl, rfl⟩
            · have Hb : Hid (Pl.endB (t.extract 0 (t.size - 1)).data.toList = R) := by
                show _ = _
                rw [Pl.drop_last t h0 hb]; exact hp.out
              clear hb hp
              go_wp2_with fail
              refine (hc _).mono ?_
              rintro e w2 ⟨rfl, rfl⟩
              go_wp2
              go_roundw
              case rel => exact ⟨_, by simp; omega, rfl, Hb, trivial⟩
              case measure => simp; omega
          · have Hb : Hid (t = ⟨R.toArray⟩) := Pl.mk_list t R (by rw [← hp.out, Pl.endB_nil t h0])
            clear hp
            go_wp2
            go_ret
            exact ⟨by rw [← Hb.out]; rfl, rfl⟩
      · have Hb : Hid ((t.extract 1 t.size).data.toList.dropWhile Pl.blank = s.data.toList.dropWhile Pl.blank) := by
          show _ = _
          rw [Pl.tail_list, Pl.drop_head t h0 hb]; exact hp.out
        clear hb hp
        go_wp2_with fail
        refine (hc _).mono ?_
        rintro e w2 ⟨rfl, rfl⟩
        go_wp2
        go_roundw
        case rel => exact ⟨_, by simp; omega, rfl, Hb, trivial⟩
        case measure => simp; omega
    · have HE : Hid (Pl.endB t.data.toList = R) := by
        show _ = _
        rw [← HR.out, ← hp.out, Pl.dropW_nil t h0]
      go_wp2
      go_loopw [0] (fun x wx => ∃ t : ByteArray, t.size ≤ s.size ∧ x = .string t ∧ Hid (Pl.endB t.data.toList = R) ∧ wx = wr) (fun x _ => match x with | .string t => t.size | _ => 0)
      case atStart => exact ⟨t, ht, rfl, HE, rfl⟩
      case round =>
        clear hp ht
        obtain ⟨t, ht, rfl, hp, rfl⟩ := hrel
        by_cases h0 : 0 < t.size
        · have h8 : t[t.size - 1].toNat < 256 := UInt8.toNat_lt _
          have hc := fun w => specBlank t[t.size - 1] w
          cases hb : Pl.blank t[t.size - 1] <;> simp only [hb] at hc
          · have Hb : Hid (t = ⟨R.toArray⟩) := Pl.mk_list t R (by rw [← hp.out, Pl.keep_last t h0 hb])
            clear hb hp
            go_wp2_with fail
            refine (hc _).mono ?_
            rintro e w2 ⟨rfl, rfl⟩
            go_wp2
            go_ret
            exact ⟨by rw [← Hb.out]; rfl, rfl⟩
          · have Hb : Hid (Pl.endB (t.extract 0 (t.size - 1)).data.toList = R) := by
              show _ = _
              rw [Pl.drop_last t h0 hb]; exact hp.out
            clear hb hp
            go_wp2_with fail
            refine (hc _).mono ?_
            rintro e w2 ⟨rfl, rfl⟩
            go_wp2
            go_roundw
            case rel => exact ⟨_, by simp; omega, rfl, Hb, trivial⟩
            case measure => simp; omega
        · have Hb : Hid (t = ⟨R.toArray⟩) := Pl.mk_list t R (by rw [← hp.out, Pl.endB_nil t h0])
          clear hp
          go_wp2
          go_ret
          exact ⟨by rw [← Hb.out]; rfl, rfl⟩
end Go.Proofs.YtgabjiamabbheaaGreatDoor
