
/- Blanks taken off both ends, the specification's side. -/

/- Runs of blanks as one space, the specification's side. -/
import Derived.Test.YtgabjiamabbheaaGreatDoorUnfold
import Derived.Laws.OwnMore
import Derived.Lib.QuietBelow
import Derived.Deep.QuietTactic
import Derived.BigQuiet
import Derived.Deep.RegionWith
namespace Go.Proofs.YtgabjiamabbheaaGreatDoor
open Go.RowKit Go.Lib
namespace Pl
def endB (l : List UInt8) : List UInt8 := (l.reverse.dropWhile blank).reverse
def trimB (l : List UInt8) : List UInt8 := endB (l.dropWhile blank)
set_option maxRecDepth 20000 in
theorem tail_list (t : ByteArray) : (t.extract 1 t.size).data.toList = t.data.toList.drop 1 := by
  rw [ext_data, List.take_of_length_le (by simp)]
set_option maxRecDepth 20000 in
theorem drop_head (t : ByteArray) (h : 0 < t.size) (hb : blank t[0] = true) : (t.data.toList.drop 1).dropWhile blank = t.data.toList.dropWhile blank := by
  obtain ⟨⟨l⟩⟩ := t
  match l, h, hb with
  | c :: r, _, hb =>
    show r.dropWhile blank = (c :: r).dropWhile blank
    rw [List.dropWhile_cons, if_pos (show blank c = true from hb)]
set_option maxRecDepth 20000 in
theorem keep_head (t : ByteArray) (h : 0 < t.size) (hb : blank t[0] = false) : t.data.toList.dropWhile blank = t.data.toList := by
  obtain ⟨⟨l⟩⟩ := t
  match l, h, hb with
  | c :: r, _, hb =>
    show (c :: r).dropWhile blank = c :: r
    rw [List.dropWhile_cons, if_neg (by rw [show blank c = false from hb]; simp)]
set_option maxRecDepth 20000 in
theorem snoc_list (t : ByteArray) (h : 0 < t.size) : t.data.toList = (t.extract 0 (t.size - 1)).data.toList ++ [t[t.size - 1]] := by
  rw [ext_data, List.drop_zero, Nat.sub_zero]
  have hl : t.data.toList.length = t.size := len_list t
  have e : t.data.toList = t.data.toList.take (t.size - 1) ++ t.data.toList.drop (t.size - 1) := (List.take_append_drop _ _).symm
  have d : t.data.toList.drop (t.size - 1) = [t[t.size - 1]] := by
    rw [List.drop_eq_getElem_cons (by omega), List.drop_eq_nil_of_le (by omega)]
    rfl
  rw [d] at e
  exact e
set_option maxRecDepth 20000 in
theorem drop_last (t : ByteArray) (h : 0 < t.size) (hb : blank (t[t.size - 1]) = true) : endB (t.extract 0 (t.size - 1)).data.toList = endB t.data.toList := by
  conv => rhs; rw [snoc_list t h]
  unfold endB
  rw [List.reverse_append, List.reverse_singleton, List.singleton_append, List.dropWhile_cons, if_pos hb]
set_option maxRecDepth 20000 in
theorem keep_last (t : ByteArray) (h : 0 < t.size) (hb : blank (t[t.size - 1]) = false) : endB t.data.toList = t.data.toList := by
  have e := snoc_list t h
  unfold endB
  rw [e, List.reverse_append, List.reverse_singleton, List.singleton_append, List.dropWhile_cons, if_neg (by rw [hb]; simp), List.reverse_cons, List.reverse_reverse]
set_option maxRecDepth 20000 in
theorem endB_nil (t : ByteArray) (h : ¬ 0 < t.size) : endB t.data.toList = t.data.toList := by
  have : t.data.toList = [] := List.length_eq_zero_iff.1 (by rw [len_list]; omega)
  rw [this]; rfl
set_option maxRecDepth 20000 in
theorem dropW_nil (t : ByteArray) (h : ¬ 0 < t.size) : t.data.toList.dropWhile blank = t.data.toList := by
  have : t.data.toList = [] := List.length_eq_zero_iff.1 (by rw [len_list]; omega)
  rw [this]; rfl
set_option maxRecDepth 20000 in
theorem mk_list (t : ByteArray) (R : List UInt8) (h : t.data.toList = R) : t = ⟨R.toArray⟩ := by
  rw [← h]
end Pl
set_option maxRecDepth 20000 in
set_option maxHeartbeats 2000000 in
theorem specTrimB (s : ByteArray) (w : World) (_hs : s.size ≤ 1100000) :
    Calls Tryz.prog 73 #[.string s] w fun e w' => e = .returned (.string ⟨(Pl.trimB s.data.toList).toArray⟩) ∧ w = w' := by
  obtain ⟨R, hR⟩ : ∃ R, Pl.trimB s.data.toList = R := ⟨_, rfl⟩
  have HR : Hid (Pl.endB (s.data.toList.dropWhile Pl.blank) = R) := hR
  rw [hR]
  clear hR
  go_enter Tryz.func73, Tryz.ntmps73
  go_wp2
  go_loopw [0] (fun x wr => ∃ t : ByteArray, t.size ≤ s.size ∧ x = .string t ∧ Hid (t.data.toList.dropWhile Pl.blank = s.data.toList.dropWhile Pl.blank) ∧ wr = w) (fun x _ => match x with | .string t => t.size | _ => 0)
  case atStart => exact ⟨s, Nat.le_refl _, rfl, rfl, rfl⟩
  case round =>
    obtain ⟨t, ht, rfl, hp, rfl⟩ := hrel
    by_cases h0 : 0 < t.size
    · have h8 : t[0].toNat < 256 := UInt8.toNat_lt _
      have hc := fun w => specBlank t[0] w
      cases hb : Pl.blank t[0] <;> simp only [hb] at hc
      · have HE : Hid (Pl.endB t.data.toList = R) := by
          show _ = _
          rw [← HR.out, ← hp.out, Pl.keep_head t h0 hb]
        clear hb
        go_wp2_with fail
        refine (hc _).mono ?_
        rintro e w2 ⟨rfl, rfl⟩
        go_wp2
        go_loopw [0] (fun x wx => ∃ t : ByteArray, t.size ≤ s.size ∧ x = .string t ∧ Hid (Pl.endB t.data.toList = R) ∧ wx = wr) (fun x _ => match x with | .string t => t.size | _ => 0)
        case atStart => exact ⟨t, ht, rfl, HE, rfl⟩
        case round =>
          clear hp ht
          obtain ⟨t, ht, rfl, hp, rfl⟩ := hrel
          by_cases h0 : 0 < t.size
          · have h8 : t[t.size - 1].toNat < 256 := UInt8.toNat_lt _
            have hc := fun w => specBlank t[t.size - 1] w
            cases hb : Pl.blank t[t.size - 1] <;> simp only [hb] at hc
            · have Hb : Hid (t = ⟨R.toArray⟩) := Pl.mk_list t R (by rw [← hp.out, Pl.keep_last t h0 hb])
              clear hb hp
              go_wp2_with fail
              refine (hc _).mono ?_
              rintro e w2 ⟨rfl, rfl⟩
              go_wp2
              go_ret
              exact ⟨by rw [← Hb.out]; rfl, rfl⟩
            · have Hb : Hid (Pl.endB (t.extract 0 (t.size - 1)).data.toList = R) := by
                show _ = _
                rw [Pl.drop_last t h0 hb]; exact hp.out
              clear hb hp
              go_wp2_with fail
              refine (hc _).mono ?_
              rintro e w2 ⟨rfl, rfl⟩
              go_wp2
              go_roundw
              case rel => exact ⟨_, by simp; omega, rfl, Hb, trivial⟩
              case measure => simp; omega
          · have Hb : Hid (t = ⟨R.toArray⟩) := Pl.mk_list t R (by rw [← hp.out, Pl.endB_nil t h0])
            clear hp
            go_wp2
            go_ret
            exact ⟨by rw [← Hb.out]; rfl, rfl⟩
      · have Hb : Hid ((t.extract 1 t.size).data.toList.dropWhile Pl.blank = s.data.toList.dropWhile Pl.blank) := by
          show _ = _
          rw [Pl.tail_list, Pl.drop_head t h0 hb]; exact hp.out
        clear hb hp
        go_wp2_with fail
        refine (hc _).mono ?_
        rintro e w2 ⟨rfl, rfl⟩
        go_wp2
        go_roundw
        case rel => exact ⟨_, by simp; omega, rfl, Hb, trivial⟩
        case measure => simp; omega
    · have HE : Hid (Pl.endB t.data.toList = R) := by
        show _ = _
        rw [← HR.out, ← hp.out, Pl.dropW_nil t h0]
      go_wp2
      go_loopw [0] (fun x wx => ∃ t : ByteArray, t.size ≤ s.size ∧ x = .string t ∧ Hid (Pl.endB t.data.toList = R) ∧ wx = wr) (fun x _ => match x with | .string t => t.size | _ => 0)
      case atStart => exact ⟨t, ht, rfl, HE, rfl⟩
      case round =>
        clear hp ht
        obtain ⟨t, ht, rfl, hp, rfl⟩ := hrel
        by_cases h0 : 0 < t.size
        · have h8 : t[t.size - 1].toNat < 256 := UInt8.toNat_lt _
          have hc := fun w => specBlank t[t.size - 1] w
          cases hb : Pl.blank t[t.size - 1] <;> simp only [hb] at hc
          · have Hb : Hid (t = ⟨R.toArray⟩) := Pl.mk_list t R (by rw [← hp.out, Pl.keep_last t h0 hb])
            clear hb hp
            go_wp2_with fail
            refine (hc _).mono ?_
            rintro e w2 ⟨rfl, rfl⟩
            go_wp2
            go_ret
            exact ⟨by rw [← Hb.out]; rfl, rfl⟩
          · have Hb : Hid (Pl.endB (t.extract 0 (t.size - 1)).data.toList = R) := by
              show _ = _
              rw [Pl.drop_last t h0 hb]; exact hp.out
            clear hb hp
            go_wp2_with fail
            refine (hc _).mono ?_
            rintro e w2 ⟨rfl, rfl⟩
            go_wp2
            go_roundw
            case rel => exact ⟨_, by simp; omega, rfl, Hb, trivial⟩
            case measure => simp; omega
        · have Hb : Hid (t = ⟨R.toArray⟩) := Pl.mk_list t R (by rw [← hp.out, Pl.endB_nil t h0])
          clear hp
          go_wp2
          go_ret
          exact ⟨by rw [← Hb.out]; rfl, rfl⟩
end Go.Proofs.YtgabjiamabbheaaGreatDoor
namespace Go.Proofs.YtgabjiamabbheaaGreatDoor
open Go.RowKit Go.Lib
namespace Pl
/-- Runs of blanks as one space; the flag: a space has been written last. -/
def rn : Bool → List UInt8 → List UInt8
  | _, [] => []
  | sp, c :: r => if blank c then (if sp then rn true r else 32 :: rn true r) else c :: rn false r
def lastSp (p : List UInt8) : Bool := p.getLast? == some 32
def bareEnd (p : List UInt8) : List UInt8 := if lastSp p then p.dropLast else p
def runs (l : List UInt8) : List UInt8 := bareEnd (rn false l)
set_option maxRecDepth 20000 in
theorem last_snoc (p : List UInt8) (c : UInt8) : lastSp (p ++ [c]) = (c == 32) := by
  unfold lastSp
  rw [List.getLast?_append, List.getLast?_singleton]
  simp
set_option maxRecDepth 20000 in
theorem rn_skip (l p X : List UInt8) (k : Nat) (hk : k < l.length) (hb : blank l[k] = true) (hs : lastSp p = true) (h : Hid (p ++ rn (lastSp p) (l.drop k) = X)) : Hid (p ++ rn (lastSp p) (l.drop (k + 1)) = X) := by
  have h := h.out
  rw [List.drop_eq_getElem_cons hk, rn, if_pos hb, hs, if_pos rfl] at h
  rw [hs]
  exact h
set_option maxRecDepth 20000 in
theorem rn_space (l p X : List UInt8) (k : Nat) (hk : k < l.length) (hb : blank l[k] = true) (hs : lastSp p = false) (h : Hid (p ++ rn (lastSp p) (l.drop k) = X)) : Hid ((p ++ [32]) ++ rn (lastSp (p ++ [32])) (l.drop (k + 1)) = X) := by
  have h := h.out
  rw [List.drop_eq_getElem_cons hk, rn, if_pos hb, hs, if_neg (by simp)] at h
  show _ = _
  rw [last_snoc, show ((32 : UInt8) == 32) = true from rfl, ← h]
  simp
set_option maxRecDepth 20000 in
theorem rn_byte (l p X : List UInt8) (k : Nat) (hk : k < l.length) (hb : blank l[k] = false) (h : Hid (p ++ rn (lastSp p) (l.drop k) = X)) : Hid ((p ++ [l[k]]) ++ rn (lastSp (p ++ [l[k]])) (l.drop (k + 1)) = X) := by
  have h := h.out
  rw [List.drop_eq_getElem_cons hk, rn, if_neg (by rw [hb]; simp)] at h
  have h32 : (l[k] == 32) = false := by
    unfold blank at hb
    rw [Bool.or_eq_false_iff] at hb
    exact hb.1
  show _ = _
  rw [last_snoc, h32, ← h]
  simp
set_option maxRecDepth 20000 in
theorem rn_end (l p X : List UInt8) (k : Nat) (hk : l.length ≤ k) (h : Hid (p ++ rn (lastSp p) (l.drop k) = X)) : p = X := by
  have h := h.out
  rw [List.drop_eq_nil_of_le hk, rn, List.append_nil] at h
  exact h
set_option maxRecDepth 20000 in
theorem last_get (p : List UInt8) (h : 0 < p.length) : lastSp p = (p[p.length - 1] == 32) := by
  unfold lastSp
  rw [List.getLast?_eq_getElem?, List.getElem?_eq_getElem (by omega)]
  rfl
end Pl
set_option maxRecDepth 20000 in
theorem Own.cut {B g n cap : Nat} {p : List UInt8} {w : World} (h : Own B (.slice (some ⟨g, 0, none⟩) n cap) p w) (k : Nat) (hk : k ≤ p.length) : Own B (.slice (some ⟨g, 0, none⟩) k cap) (p.take k) w := by
  obtain ⟨h1, h2⟩ := h
  have hl : (p.take k).length = k := by rw [List.length_take]; omega
  refine ⟨by rw [byteCells_length, Nat.mul_one], .inr ?_⟩
  rcases h2 with ⟨h2, -⟩ | ⟨g', cap', cur, e1, e2, e3, e4, e5, e6, e7⟩
  · cases h2
  · have e8 := e1
    cases e8
    refine ⟨g, cap, cur, by rw [hl], e2, e3, by omega, e5, e6, ?_⟩
    rw [hl, Nat.mul_one]
    have e9 : cur.toList.take p.length = byteCells p := by rw [← e7, Nat.mul_one]
    have e10 := congrArg (List.take k) e9
    rw [List.take_take, Nat.min_eq_left hk] at e10
    rw [e10]
    simp [byteCells, List.map_take]
set_option maxRecDepth 10000 in
set_option maxHeartbeats 4000000 in
theorem specRuns (s : ByteArray) (w : World) (hs : s.size ≤ 100000) :
    Calls Tryz.prog 42 #[.string s] w fun e w' => e = .returned (.string ⟨(Pl.runs s.data.toList).toArray⟩) ∧ Below w.heap.size w w' := by
  obtain ⟨i0, hi, hy0, hy1, hy2⟩ := info_parts Tryz.info5
  obtain ⟨X, hX⟩ : ∃ X, Pl.rn false s.data.toList = X := ⟨_, rfl⟩
  have HX : Hid (([] : List UInt8) ++ Pl.rn (Pl.lastSp []) (s.data.toList.drop 0) = X) := hX
  have hR : Pl.runs s.data.toList = Pl.bareEnd X := by unfold Pl.runs; rw [hX]
  rw [hR]
  clear hX hR
  have Hown0 : Hid (Own w.heap.size (.slice (some ⟨w.heap.size, 0, none⟩) 0 0) [] (w.alloc (.cells #[] 5))) := Own.made w.heap.size w (Nat.le_refl _)
  go_enter Tryz.func42, Tryz.ntmps42
  go_wp2
  go_loopw [3, 4] (fun v i wr => ∃ (k : Nat) (p : List UInt8), k ≤ s.size ∧ i = .int .i64 k ∧ p.length ≤ k ∧ Hid (p ++ Pl.rn (Pl.lastSp p) (s.data.toList.drop k) = X) ∧ Own w.heap.size v p wr ∧ Below w.heap.size w wr) (fun _ i _ => s.size - (Lib.intOf i).toNat)
  case atStart => exact ⟨0, [], Nat.zero_le _, rfl, by simp, HX, Hown0.out, (Below.refl _ _).alloc (Nat.le_refl _) _⟩
  case round =>
    clear HX Hown0
    obtain ⟨k, p, hk, rfl, hpl, hp, hown, hb⟩ := hrel
    by_cases hlt : k < s.size
    · have hll : k < s.data.toList.length := by simpa using hlt
      have hB := specBlank s[k]
      have h8 : s[k].toNat < 256 := UInt8.toNat_lt _
      cases hbl : Pl.blank s[k]
      · have Hn : Hid ((p ++ [s[k]]) ++ Pl.rn (Pl.lastSp (p ++ [s[k]])) (s.data.toList.drop (k + 1)) = X) := Pl.rn_byte s.data.toList p X k hll hbl hp
        rw [hbl] at hB
        clear hp hbl
        go_wp2_with fail
        refine (hB _).mono ?_
        rintro e w2 ⟨rfl, rfl⟩
        go_wp2_with (at_builtin; go_must (refine wp_app (W := w) rfl _ _ 69 rfl i0 Tryz.underlying69 hi hy0 hy1 hy2 w.heap.size u3 p rfl hown _ [s[k]] rfl 1 1 rfl rfl (by simp; omega) (Nat.le_refl _) hb ?_; intro v' w' hown' hb'))
        go_roundw
        case rel => exact ⟨k + 1, _, by omega, by go_num, (by first | (simp; done) | (simp; omega)), Hn, hown', hb'⟩
        case measure => simp [Lib.intOf]; omega
      · rw [hbl] at hB
        by_cases h0 : p.length = 0
        · obtain rfl : p = [] := List.length_eq_zero_iff.1 h0
          have Hn : Hid (([] ++ [32]) ++ Pl.rn (Pl.lastSp ([] ++ [32])) (s.data.toList.drop (k + 1)) = X) := Pl.rn_space s.data.toList [] X k hll hbl rfl hp
          clear hp hbl h0
          rcases hown.form with ⟨rfl, -⟩ | ⟨g, cap, rfl⟩
          · go_wp2_with fail
            refine (hB _).mono ?_
            rintro e w2 ⟨rfl, rfl⟩
            go_wp2_with (at_builtin; go_must (refine wp_app (W := w) rfl _ _ 69 rfl i0 Tryz.underlying69 hi hy0 hy1 hy2 w.heap.size (.slice none 0 0) [] rfl hown _ [32] rfl 1 1 rfl rfl (by first | (simp; done) | (simp; omega)) (Nat.le_refl _) hb ?_; intro v' w' hown' hb'))
            go_roundw
            case rel => exact ⟨k + 1, _, by omega, by go_num, (by first | (simp; done) | (simp; omega)), Hn, hown', hb'⟩
            case measure => simp [Lib.intOf]; omega
          · go_wp2_with fail
            refine (hB _).mono ?_
            rintro e w2 ⟨rfl, rfl⟩
            go_wp2_with (at_builtin; go_must (refine wp_app (W := w) rfl _ _ 69 rfl i0 Tryz.underlying69 hi hy0 hy1 hy2 w.heap.size (.slice (some ⟨g, 0, none⟩) 0 cap) [] rfl hown _ [32] rfl 1 1 rfl rfl (by first | (simp; done) | (simp; omega)) (Nat.le_refl _) hb ?_; intro v' w' hown' hb'))
            go_roundw
            case rel => exact ⟨k + 1, _, by omega, by go_num, (by first | (simp; done) | (simp; omega)), Hn, hown', hb'⟩
            case measure => simp [Lib.intOf]; omega
        · rcases hown.form with ⟨-, hnil⟩ | ⟨g, cap, rfl⟩
          · rw [hnil] at h0; exact absurd rfl h0
          · obtain ⟨m, hm⟩ : ∃ m, p.length = m + 1 := ⟨p.length - 1, by omega⟩
            have hml : m < p.length := by omega
            have hc := hown.cell m hml
            have hidx : (p.length : Int) - 1 = (m : Int) := by omega
            have hn0 : ((p.length : Int) == 0) = false := beq_eq_false_iff_ne.2 (by omega)
            have hlast : Pl.lastSp p = (p[m] == 32) := by
              rw [Pl.last_get p (by omega)]
              congr 2
              omega
            cases h32 : ((p[m].toNat : Int) == 32)
            · have hne : ((p[m].toNat : Int) != 32) = true := by rw [bne, h32]; rfl
              have hls : Pl.lastSp p = false := by rw [hlast]; exact beq_eq_false_iff_ne.2 (Pl.byte_ne _ 32 _ rfl h32)
              have Hn : Hid ((p ++ [32]) ++ Pl.rn (Pl.lastSp (p ++ [32])) (s.data.toList.drop (k + 1)) = X) := Pl.rn_space s.data.toList p X k hll hbl hls hp
              clear hp hbl hlast hls hm
              generalize p[m] = pc at *
              go_wp2_with fail
              refine (hB _).mono ?_
              rintro e w2 ⟨rfl, rfl⟩
              go_wp2_with (at_builtin; go_must (refine wp_app (W := w) rfl _ _ 69 rfl i0 Tryz.underlying69 hi hy0 hy1 hy2 w.heap.size (.slice (some ⟨g, 0, none⟩) p.length cap) p rfl hown _ [32] rfl 1 1 rfl rfl (by first | (simp; done) | (simp; omega)) (Nat.le_refl _) hb ?_; intro v' w' hown' hb'))
              go_roundw
              case rel => exact ⟨k + 1, _, by omega, by go_num, (by first | (simp; done) | (simp; omega)), Hn, hown', hb'⟩
              case measure => simp [Lib.intOf]; omega
            · have hne : ((p[m].toNat : Int) != 32) = false := by rw [bne, h32]; rfl
              have hls : Pl.lastSp p = true := by rw [hlast, Pl.byte_eq _ 32 _ rfl h32]; rfl
              have Hn : Hid (p ++ Pl.rn (Pl.lastSp p) (s.data.toList.drop (k + 1)) = X) := Pl.rn_skip s.data.toList p X k hll hbl hls hp
              clear hp hbl hlast hls hm
              generalize p[m] = pc at *
              go_wp2_with fail
              refine (hB _).mono ?_
              rintro e w2 ⟨rfl, rfl⟩
              go_wp2
              go_roundw
              case rel => exact ⟨k + 1, p, by omega, by go_num, by omega, Hn, hown, hb⟩
              case measure => simp [Lib.intOf]; omega
    · have hpX : p = X := Pl.rn_end s.data.toList p X k (by simp; omega) hp
      subst hpX
      clear hp
      by_cases h0 : p.length = 0
      · obtain rfl : p = [] := List.length_eq_zero_iff.1 h0
        have hbk := hown.back (P := Tryz.prog) 69 9 Tryz.underlying69 Tryz.underlying5 Tryz.underlying9
        have HR : Hid (Pl.bareEnd [] = []) := rfl
        clear h0
        rcases hown.form with ⟨rfl, -⟩ | ⟨g, cap, rfl⟩
        · go_wp2
          go_ret
          exact ⟨by rw [HR.out]; rfl, hb⟩
        · have hbk' : (convert 69 9 (.slice (some ⟨g, 0, none⟩) 0 cap)).run Tryz.prog wr = .ok (.string ⟨([] : List UInt8).toArray⟩) wr := hbk
          go_wp2
          go_ret
          exact ⟨by rw [HR.out]; rfl, hb⟩
      · rcases hown.form with ⟨-, hnil⟩ | ⟨g, cap, rfl⟩
        · rw [hnil] at h0; exact absurd rfl h0
        · obtain ⟨m, hm⟩ : ∃ m, p.length = m + 1 := ⟨p.length - 1, by omega⟩
          have hml : m < p.length := by omega
          have hc := hown.cell m hml
          have hidx : (p.length : Int) - 1 = (m : Int) := by omega
          have hn0 : (0 : Int) < (p.length : Int) := by omega
          have hlast : Pl.lastSp p = (p[m] == 32) := by
            rw [Pl.last_get p (by omega)]
            congr 2
            omega
          cases h32 : ((p[m].toNat : Int) == 32)
          · have hR : Pl.bareEnd p = p := by
              unfold Pl.bareEnd
              rw [hlast, if_neg (by rw [beq_eq_false_iff_ne.2 (Pl.byte_ne _ 32 _ rfl h32)]; simp)]
            have hbk := hown.back (P := Tryz.prog) 69 9 Tryz.underlying69 Tryz.underlying5 Tryz.underlying9
            have HR : Hid (Pl.bareEnd p = p) := hR
            clear hR hlast hm
            generalize p[m] = pc at *
            go_wp2
            go_ret
            exact ⟨by rw [HR.out]; rfl, hb⟩
          · have hR : Pl.bareEnd p = p.take m := by
              unfold Pl.bareEnd
              rw [hlast, Pl.byte_eq _ 32 _ rfl h32, if_pos (by decide), List.dropLast_eq_take]
              congr 1
              omega
            have hcut := hown.cut m (by omega)
            have hbk := hcut.back (P := Tryz.prog) 69 9 Tryz.underlying69 Tryz.underlying5 Tryz.underlying9
            have HR : Hid (Pl.bareEnd p = p.take m) := hR
            have hmc : m ≤ cap := by
              rcases hown.2 with ⟨h2, -⟩ | ⟨g', cap', cur, e1, e2, e3, e4, -⟩
              · cases h2
              · cases e1; omega
            clear hR hlast hm hcut
            generalize p[m] = pc at *
            go_wp2
            go_ret
            exact ⟨by rw [HR.out]; rfl, hb⟩
end Go.Proofs.YtgabjiamabbheaaGreatDoor
