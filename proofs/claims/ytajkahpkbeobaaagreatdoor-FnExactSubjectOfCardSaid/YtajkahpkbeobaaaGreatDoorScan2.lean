
/- The two ways of reading a field are one. -/

/- The walks of the program's scanner: what it reads. -/

/- The walks of the program's scanner: line ends, folds, a byte of a line. -/
import Derived.Test.YtajkahpkbeobaaaGreatDoorReadPlain
import Derived.Lib.QuietBelow
import Derived.Deep.QuietTactic
import Derived.BigQuiet
import Derived.Deep.RegionWith
import Derived.WalkSmall
namespace Go.Proofs.YtajkahpkbeobaaaGreatDoor
namespace Pl
set_option maxRecDepth 20000 in
theorem stop_ge (K : UInt8 → Bool) (l : List UInt8) (k : Nat) (h : k ≤ l.length) : k ≤ stop K l k := first_ge _ _ _ h
set_option maxRecDepth 20000 in
theorem stop_le (K : UInt8 → Bool) (l : List UInt8) (k : Nat) (h : k ≤ l.length) : stop K l k ≤ l.length := first_le _ _ _ h
set_option maxRecDepth 20000 in
theorem stop_all (K : UInt8 → Bool) (l : List UInt8) (k : Nat) (h : k ≤ l.length) (j : Nat) (h1 : k ≤ j) (h2 : j < stop K l k) : K (b l j) = true := by
  have := first_none (fun j => !K (b l j)) l.length k h j h1 h2
  simpa using this
set_option maxRecDepth 20000 in
theorem stop_not (K : UInt8 → Bool) (l : List UInt8) (k : Nat) (h : k ≤ l.length) (h1 : stop K l k < l.length) : K (b l (stop K l k)) = false := by
  have := first_is (fun j => !K (b l j)) l.length k h h1
  change (!K (b l (stop K l k))) = true at this
  simpa using this
set_option maxRecDepth 20000 in
theorem stop_eq (K : UInt8 → Bool) (l : List UInt8) (k m : Nat) (hk : k ≤ m) (hm : m ≤ l.length) (h1 : ∀ j, k ≤ j → j < m → K (b l j) = true) (h2 : m < l.length → K (b l m) = false) : stop K l k = m :=
  first_eq _ _ _ _ hk hm (fun j a c => by rw [h1 j a c]; rfl) (fun h => by rw [h2 h]; rfl)
set_option maxRecDepth 20000 in
theorem crlf_b (l : List UInt8) (j : Nat) (h : crlf l j = true) : b l j = 13 ∧ b l (j + 1) = 10 ∧ j + 1 < l.length := by
  obtain ⟨h0, h1, h2⟩ := (crlf_iff l j).1 h
  exact ⟨by rw [b_lt l j (by omega)]; exact h1, by rw [b_lt l (j + 1) h0]; exact h2, h0⟩
set_option maxRecDepth 20000 in
theorem fold_crlf (l : List UInt8) (j : Nat) (h : fold l j = true) : crlf l j = true := by
  unfold fold at h
  rw [Bool.and_eq_true] at h
  exact h.1
set_option maxRecDepth 20000 in
theorem fold_b (l : List UInt8) (j : Nat) (h : fold l j = true) : blank (b l (j + 2)) = true ∧ j + 2 < l.length := by
  obtain ⟨h0, -, -, h3⟩ := (fold_iff l j).1 h
  exact ⟨by rw [b_lt l (j + 2) h0]; exact h3, h0⟩
set_option maxRecDepth 20000 in
theorem no_crlf (l : List UInt8) (j : Nat) (h : b l j ≠ 13) : crlf l j = false := by
  rw [Bool.eq_false_iff]
  intro e
  exact h (crlf_b l j e).1
set_option maxRecDepth 20000 in
theorem lb_13 (c : UInt8) (h : lb c = true) : c ≠ 13 := by rintro rfl; cases h
set_option maxRecDepth 20000 in
theorem nb_13 (c : UInt8) (h : nb c = true) : c ≠ 13 := by rintro rfl; revert h; decide
set_option maxRecDepth 20000 in
theorem nb_58 (c : UInt8) (h : nb c = true) : c ≠ 58 := by rintro rfl; revert h; decide
set_option maxRecDepth 20000 in
theorem blank_13 (c : UInt8) (h : blank c = true) : c ≠ 13 := by rintro rfl; revert h; decide
set_option maxRecDepth 20000 in
theorem blank_58 (c : UInt8) (h : blank c = true) : c ≠ 58 := by rintro rfl; revert h; decide
set_option maxRecDepth 20000 in
theorem nb_blank (c : UInt8) (h : nb c = true) : blank c = false := by
  rw [Bool.eq_false_iff]
  intro e
  simp only [blank, Bool.or_eq_true, beq_iff_eq] at e
  rcases e with rfl | rfl <;> revert h <;> decide
set_option maxRecDepth 20000 in
/-- From a place to a later one without such a one between. -/
theorem first_skip (P : Nat → Bool) (n k m : Nat) (hk : k ≤ m) (hm : m ≤ n) (h : ∀ j, k ≤ j → j < m → P j = false) : first P n k = first P n m := by
  refine first_eq P n k _ (Nat.le_trans hk (first_ge P n m hm)) (first_le P n m hm) (fun j h1 h2 => ?_) (first_is P n m hm)
  by_cases hj : j < m
  · exact h j h1 hj
  · exact first_none P n m hm j (by omega) h2
set_option maxRecDepth 20000 in
theorem le_fe (l : List UInt8) (k : Nat) (h : k ≤ l.length) : le l k ≤ fe l k := by
  by_cases hc : fe l k < le l k
  · have h1 := first_none (crlf l) l.length k h (fe l k) (first_ge _ _ _ h) hc
    have hlt : fe l k < l.length := by have := first_le (crlf l) l.length k h; unfold le at hc; omega
    have h2 := first_is (fun j => crlf l j && !fold l j) l.length k h hlt
    rw [Bool.and_eq_true] at h2
    change crlf l (fe l k) = true ∧ _ at h2
    rw [h1] at h2
    cases h2.1
  · omega
set_option maxRecDepth 20000 in
/-- A value's bytes up to a place. -/
theorem val_run (L : List UInt8) : ∀ (d i k : Nat), i - k = d → k ≤ i → i ≤ L.length → (∀ j, k ≤ j → j < i → lb (b L j) = true) → val (L.drop k) = val (L.drop i)
  | 0, i, k, hd, hk, _, _ => by rw [show i = k by omega]
  | d + 1, i, k, hd, hk, hi, h => by
    have hb := h k (Nat.le_refl _) (by omega)
    have hf : fold L k = false := by
      rw [Bool.eq_false_iff]
      intro e
      exact lb_13 _ hb (crlf_b L k (fold_crlf L k e)).1
    rw [val_other L k (by omega) hf, ← b_lt L k (by omega), hb, Bool.true_and]
    exact val_run L d i (k + 1) (by omega) (by omega) hi (fun j h1 h2 => h j (by omega) h2)
set_option maxRecDepth 20000 in
theorem b_take (l : List UInt8) (e j : Nat) (h : j < e) : b (l.take e) j = b l j := by
  unfold b
  rw [List.getD_eq_getElem?_getD, List.getD_eq_getElem?_getD, List.getElem?_take_of_lt h]
set_option maxRecDepth 20000 in
theorem sl_take (l : List UInt8) (k e : Nat) : sl l k e = (l.take e).drop k := by
  unfold sl
  rw [List.drop_take]
set_option maxRecDepth 20000 in
theorem fold_take (l : List UInt8) (e j : Nat) (h : j + 2 < e) : fold (l.take e) j = fold l j := by
  unfold fold crlf blankAt
  rw [List.drop_take, List.take_take, List.getElem?_take_of_lt h, Nat.min_eq_left (by omega)]
set_option maxRecDepth 20000 in
theorem fold_take_of (l : List UInt8) (e j : Nat) (h : fold (l.take e) j = true) : fold l j = true := by
  have := fold_lt _ _ h
  rw [List.length_take] at this
  rw [← fold_take l e j (by omega)]
  exact h
set_option maxRecDepth 20000 in
/-- The value's scan, held against the field's end. -/
theorem vend_spec (l : List UInt8) (e B : Nat) : ∀ (f g cur beg : Nat), l.length + 1 ≤ f + cur → l.length + 1 ≤ g + beg → beg ≤ cur → cur ≤ l.length → fe l cur = e → le l beg = le l cur →
    (l.length ≤ (vend l f cur beg).1 → (vend l f cur beg).1 = l.length ∧ e = l.length ∧ val (sl l cur e) = true) ∧
    ((vend l f cur beg).1 < l.length → crlf l (vend l f cur beg).1 = true → e = (vend l f cur beg).1 ∧ val (sl l cur e) = true) ∧
    ((vend l f cur beg).1 < l.length → crlf l (vend l f cur beg).1 = false → val (sl l cur e) = false ∧ whr l e B g beg cur = (vend l f cur beg).2)
  | 0, _, _, _, hf, _, _, hc, _, _ => by omega
  | _, 0, _, _, _, hg, hb, hc, _, _ => by omega
  | f + 1, g + 1, cur, beg, hf, hg, hb, hc, he, hle => by
    have hi0 := stop_ge lb l cur hc
    have hi1 := stop_le lb l cur hc
    have hia := stop_all lb l cur hc
    have hin := stop_not lb l cur hc
    rw [vend]
    generalize stop lb l cur = i at hi0 hi1 hia hin ⊢
    have hnc : ∀ j, cur ≤ j → j < i → crlf l j = false := fun j h1 h2 => no_crlf l j (lb_13 _ (hia j h1 h2))
    have hnp : ∀ j, cur ≤ j → j < i → (crlf l j && !fold l j) = false := fun j h1 h2 => by rw [hnc j h1 h2]; rfl
    have hege : cur ≤ e := by rw [← he]; exact first_ge _ _ _ hc
    have hele : e ≤ l.length := by rw [← he]; exact first_le _ _ _ hc
    have hLl : (l.take e).length = e := by rw [List.length_take]; omega
    by_cases hfold : fold l i = true
    · rw [if_pos hfold]
      obtain ⟨hbl, hi2⟩ := fold_b l i hfold
      obtain ⟨hb13, hb10, -⟩ := crlf_b l i (fold_crlf l i hfold)
      have hskip : fe l cur = fe l (i + 2) := by
        refine first_skip _ _ _ _ (by omega) (by omega) (fun j h1 h2 => ?_)
        by_cases hj : j < i
        · exact hnp j h1 hj
        · by_cases hj' : j = i
          · rw [hj', hfold, Bool.not_true, Bool.and_false]
          · rw [show j = i + 1 by omega, no_crlf l (i + 1) (by rw [hb10]; decide)]; rfl
      have hei : i + 2 < e := by
        have h1 : i + 2 ≤ e := by rw [← he, hskip]; exact first_ge _ _ _ (by omega)
        by_cases h2 : e = i + 2
        · exfalso
          have h3 := first_is (fun j => crlf l j && !fold l j) l.length cur hc (by show fe l cur < _; omega)
          change (crlf l (fe l cur) && !fold l (fe l cur)) = true at h3
          rw [he, h2, Bool.and_eq_true] at h3
          exact blank_13 _ hbl (crlf_b l _ h3.1).1
        · omega
      have hval : val (sl l cur e) = val (sl l (i + 2) e) := by
        rw [sl_take, sl_take, val_run (l.take e) _ i cur rfl (by omega) (by omega) (fun j h1 h2 => by rw [b_take l e j (by omega)]; exact hia j h1 h2)]
        exact (val_fold (l.take e) i (by rw [fold_take l e i hei]; exact hfold)).symm
      have hlei : le l beg = i := by
        rw [hle]
        exact first_eq _ _ _ _ hi0 hi1 hnc (fun _ => fold_crlf l i hfold)
      have hw : whr l e B (g + 1) beg cur = whr l e B g (i + 2) (i + 2) := by
        rw [whr, if_pos (by omega), hlei, Nat.min_eq_left (by omega), first_eq (fun j => !lb (b l j)) i cur i hi0 (Nat.le_refl _) (fun j h1 h2 => by rw [hia j h1 h2]; rfl) (fun h => by omega), if_neg (by omega), nx, if_pos (by omega)]
      rw [hval, hw]
      exact vend_spec l e B f g (i + 2) (i + 2) (by omega) (by omega) (Nat.le_refl _) (by omega) (hskip.symm.trans he) rfl
    · rw [if_neg hfold]
      rw [Bool.not_eq_true] at hfold
      refine ⟨fun h => ?_, fun h hcr => ?_, fun h hcr => ?_⟩
      · change l.length ≤ i at h
        have hin' : i = l.length := by omega
        have hen : e = l.length := by rw [← he]; exact first_eq _ _ _ _ hc (Nat.le_refl _) (fun j h1 h2 => hnp j h1 (by omega)) (fun h => by omega)
        refine ⟨hin', hen, ?_⟩
        rw [sl_take, val_run (l.take e) _ e cur rfl (by omega) (by omega) (fun j h1 h2 => by rw [b_take l e j (by omega)]; exact hia j h1 (by omega))]
        exact val_done _ _ (by omega)
      · change i < l.length at h
        change crlf l i = true at hcr
        have hei : e = i := by rw [← he]; exact first_eq _ _ _ _ hi0 hi1 hnp (fun _ => by rw [hcr, hfold]; rfl)
        refine ⟨hei, ?_⟩
        rw [sl_take, val_run (l.take e) _ e cur rfl (by omega) (by omega) (fun j h1 h2 => by rw [b_take l e j (by omega)]; exact hia j h1 (by omega))]
        exact val_done _ _ (by omega)
      · change i < l.length at h
        change crlf l i = false at hcr
        have hlow : i + 1 ≤ e := by
          rw [← he, show fe l cur = fe l (i + 1) from first_skip _ _ _ _ (by omega) (by omega) (fun j h1 h2 => by
            by_cases hj : j < i
            · exact hnp j h1 hj
            · rw [show j = i by omega, hcr]; rfl)]
          exact first_ge _ _ _ (by omega)
        have hlel : i + 1 ≤ le l beg := by
          rw [hle, show le l cur = le l (i + 1) from first_skip _ _ _ _ (by omega) (by omega) (fun j h1 h2 => by
            by_cases hj : j < i
            · exact hnc j h1 hj
            · rw [show j = i by omega, hcr])]
          exact first_ge _ _ _ (by omega)
        have hlbi := hin h
        constructor
        · rw [sl_take, val_run (l.take e) _ i cur rfl hi0 (by omega) (fun j h1 h2 => by rw [b_take l e j (by omega)]; exact hia j h1 h2),
            val_other (l.take e) i (by omega) (by
              rw [Bool.eq_false_iff]; intro h2
              rw [fold_take_of l e i h2] at hfold; cases hfold),
            ← b_lt (l.take e) i (by omega), b_take l e i (by omega), hlbi, Bool.false_and]
        · have hm : i < min (le l beg) e := by omega
          rw [whr, if_pos (by omega), first_eq (fun j => !lb (b l j)) (min (le l beg) e) cur i hi0 (by omega) (fun j h1 h2 => by rw [hia j h1 h2]; rfl) (fun _ => by rw [hlbi]; rfl), if_pos hm]
set_option maxRecDepth 20000 in
theorem sl_len (l : List UInt8) (i j : Nat) (h : j ≤ l.length) : (sl l i j).length = j - i := by
  unfold sl; rw [List.length_take, List.length_drop]; omega
set_option maxRecDepth 20000 in
theorem sl_get (l : List UInt8) (i j m : Nat) (h : j ≤ l.length) (hm : m < j - i) : (sl l i j)[m]? = some (b l (i + m)) := by
  unfold sl b
  rw [List.getElem?_take_of_lt hm, List.getElem?_drop, List.getD_eq_getElem?_getD, List.getElem?_eq_getElem (by omega)]
  rfl
set_option maxRecDepth 20000 in
theorem sl_app (l : List UInt8) (i m j : Nat) (h1 : i ≤ m) (h2 : m ≤ j) : sl l i j = sl l i m ++ sl l m j := by
  unfold sl
  rw [show j - i = (m - i) + (j - m) by omega, List.take_add, List.drop_drop, show i + (m - i) = m by omega]
set_option maxRecDepth 20000 in
theorem all_sl (K : UInt8 → Bool) (l : List UInt8) (i j : Nat) (h : j ≤ l.length) (hK : ∀ m, i ≤ m → m < j → K (b l m) = true) : (sl l i j).all K = true := by
  rw [List.all_eq_true]
  intro x hx
  obtain ⟨m, hm, rfl⟩ := List.getElem_of_mem hx
  have hm' := hm
  rw [sl_len l i j h] at hm'
  have := sl_get l i j m h hm'
  rw [List.getElem?_eq_getElem hm, Option.some.injEq] at this
  rw [this]
  exact hK _ (by omega) (by omega)
set_option maxRecDepth 20000 in
theorem trimR_app (p q : List UInt8) (hq : q.all blank = true) (hl : ∀ x ∈ p.getLast?, blank x = false) : trimR (p ++ q) = p := by
  unfold trimR
  rw [List.reverse_append, List.dropWhile_append_of_pos (by intro a ha; exact List.all_eq_true.1 hq a (by simpa using ha))]
  cases hr : p.reverse with
  | nil => simp at hr; simp [hr]
  | cons x r =>
    have hx : blank x = false := hl x (by
      have : p = r.reverse ++ [x] := by rw [← List.reverse_reverse p, hr]; simp
      rw [this]; simp)
    rw [List.dropWhile_cons_of_neg (by rw [hx]; simp), ← hr, List.reverse_reverse]
set_option maxRecDepth 20000 in
theorem trimR_split (l : List UInt8) : ∃ q, l = trimR l ++ q ∧ q.all blank = true := by
  refine ⟨(l.reverse.takeWhile blank).reverse, ?_, ?_⟩
  · unfold trimR
    rw [← List.reverse_append, List.takeWhile_append_dropWhile, List.reverse_reverse]
  · rw [List.all_reverse]
    exact List.all_takeWhile
set_option maxRecDepth 20000 in
/-- The names are one. -/
theorem name_same (l : List UInt8) (k : Nat) (hk : k < l.length) (hg : nameGood l k = true) :
    colon l (fe l k) k = stop blank l (stop nb l k) ∧ trimR (sl l k (colon l (fe l k) k)) = sl l k (stop nb l k) ∧ colon l (fe l k) k < le l k ∧ nameOk (sl l k (stop nb l k)) = true := by
  unfold nameGood at hg
  have a0 := stop_ge nb l k (by omega)
  have a1 := stop_le nb l k (by omega)
  have a2 := stop_all nb l k (by omega)
  generalize stop nb l k = n1 at *
  have c0 := stop_ge blank l n1 a1
  have c1 := stop_le blank l n1 a1
  have c2 := stop_all blank l n1 a1
  generalize stop blank l n1 = n2 at *
  rw [Bool.and_eq_true, Bool.and_eq_true, decide_eq_true_eq, beq_iff_eq] at hg
  obtain ⟨hn, h1, h2⟩ := hg
  have hno : ∀ j, k ≤ j → j < n2 → b l j ≠ 13 ∧ b l j ≠ 58 := fun j h3 h4 => by
    by_cases hj : j < n1
    · exact ⟨nb_13 _ (a2 j h3 hj), nb_58 _ (a2 j h3 hj)⟩
    · exact ⟨blank_13 _ (c2 j (by omega) h4), blank_58 _ (c2 j (by omega) h4)⟩
  have hle : n2 < le l k := by
    by_cases h : le l k ≤ n2
    · exfalso
      have h3 := first_is (crlf l) l.length k (by omega) (by show le l k < _; omega)
      have h4 := (crlf_b l _ h3).1
      by_cases h5 : le l k = n2
      · change b l (le l k) = 13 at h4
        rw [h5, h2] at h4
        cases h4
      · exact (hno (le l k) (first_ge _ _ _ (by omega)) (by omega)).1 h4
    · omega
  have hfe := le_fe l k (by omega)
  have hc : colon l (fe l k) k = n2 := first_eq _ _ _ _ (by omega) (by omega) (fun j h3 h4 => by simpa using (hno j h3 h4).2) (fun _ => by simpa using h2)
  rw [hc]
  refine ⟨rfl, ?_, hle, hn⟩
  rw [sl_app l k n1 n2 a0 c0]
  refine trimR_app _ _ (all_sl blank l n1 n2 c1 c2) ?_
  intro x hx
  have hlen := sl_len l k n1 a1
  rw [List.getLast?_eq_getElem?, hlen] at hx
  have hpos : k < n1 := by
    by_cases h : k < n1
    · exact h
    · rw [show sl l k n1 = [] from List.length_eq_zero_iff.1 (by rw [hlen]; omega)] at hn
      cases hn
  rw [sl_get l k n1 (n1 - k - 1) a1 (by omega)] at hx
  simp only [Option.mem_some_iff] at hx
  rw [← hx]
  exact nb_blank _ (a2 _ (by omega) (by omega))
set_option maxRecDepth 20000 in
theorem name_back (l : List UInt8) (k : Nat) (hk : k < l.length) (h1 : colon l (fe l k) k < le l k) (h2 : nameOk (trimR (sl l k (colon l (fe l k) k))) = true) : nameGood l k = true := by
  have hfe := le_fe l k (by omega)
  have hfl : fe l k ≤ l.length := first_le _ _ _ (by omega)
  have hkf : k ≤ fe l k := first_ge _ _ _ (by omega)
  have hcg : k ≤ colon l (fe l k) k := first_ge _ _ _ hkf
  have hc58 := first_is (fun j => b l j == 58) (fe l k) k hkf (by show colon l (fe l k) k < _; omega)
  change (b l (colon l (fe l k) k) == 58) = true at hc58
  rw [beq_iff_eq] at hc58
  generalize colon l (fe l k) k = c at *
  obtain ⟨q, hq, hqb⟩ := trimR_split (sl l k c)
  generalize trimR (sl l k c) = p at *
  have hlen : p.length + q.length = c - k := by
    have := congrArg List.length hq
    rw [sl_len l k c (by omega), List.length_append] at this
    omega
  have hget : ∀ m, m < c - k → (p ++ q)[m]? = some (b l (k + m)) := fun m hm => by rw [← hq]; exact sl_get l k c m (by omega) hm
  have hpall : p.all nb = true := by
    unfold nameOk at h2
    rw [Bool.and_eq_true, Bool.and_eq_true] at h2
    exact h2.2.2
  have hn1 : stop nb l k = k + p.length := by
    refine stop_eq nb l k _ (by omega) (by omega) (fun j h3 h4 => ?_) (fun _ => ?_)
    · have h5 := hget (j - k) (by omega)
      rw [List.getElem?_append_left (by omega), List.getElem?_eq_getElem (by omega), Option.some.injEq, show k + (j - k) = j by omega] at h5
      rw [← h5]
      exact List.all_eq_true.1 hpall _ (List.getElem_mem _)
    · by_cases hqz : q.length = 0
      · rw [show k + p.length = c by omega, hc58]; decide
      · have h5 := hget p.length (by omega)
        rw [List.getElem?_append_right (by omega), Nat.sub_self, List.getElem?_eq_getElem (by omega), Option.some.injEq] at h5
        have h6 := List.all_eq_true.1 hqb _ (List.getElem_mem (by omega : 0 < q.length))
        rw [h5] at h6
        cases hx : nb (b l (k + p.length))
        · rfl
        · rw [nb_blank _ hx] at h6; cases h6
  have hn2 : stop blank l (k + p.length) = c := by
    refine stop_eq blank l _ _ (by omega) (by omega) (fun j h3 h4 => ?_) (fun _ => by rw [hc58]; decide)
    have h5 := hget (j - k) (by omega)
    rw [List.getElem?_append_right (by omega), List.getElem?_eq_getElem (by omega), Option.some.injEq, show k + (j - k) = j by omega] at h5
    rw [← h5]
    exact List.all_eq_true.1 hqb _ (List.getElem_mem _)
  have hslp : sl l k (k + p.length) = p := by
    have h3 := sl_app l k (k + p.length) c (by omega) (by omega)
    have h4 : (sl l k (k + p.length)).length = p.length := by rw [sl_len _ _ _ (by omega)]; omega
    exact (List.append_inj (h3.symm.trans hq) h4).1
  unfold nameGood
  rw [hn1, hn2, hslp, h2, hc58, decide_eq_true (by omega)]
  rfl
set_option maxRecDepth 20000 in
/-- A field is read in one way. -/
theorem field_same (l : List UInt8) (k : Nat) (hk : k < l.length) : specF l k = implF l k := by
  unfold specF implF
  dsimp only
  by_cases hg : nameGood l k = true
  · obtain ⟨h1, h2, h3, h4⟩ := name_same l k hk hg
    rw [if_pos hg, h2, if_neg (by rw [h4, decide_eq_false (by omega)]; simp), h1]
    have hg' := hg
    unfold nameGood at hg'
    have a0 := stop_ge nb l k (by omega)
    have a1 := stop_le nb l k (by omega)
    have a2 := stop_all nb l k (by omega)
    have c0 := stop_ge blank l _ a1
    have c2 := stop_all blank l _ a1
    rw [h1] at h3
    generalize stop blank l (stop nb l k) = n2 at *
    rw [Bool.and_eq_true, Bool.and_eq_true, decide_eq_true_eq, beq_iff_eq] at hg'
    obtain ⟨-, hn2, h58⟩ := hg'
    have hno : ∀ j, k ≤ j → j < n2 + 1 → b l j ≠ 13 := fun j h5 h6 => by
      by_cases hj : j < stop nb l k
      · exact nb_13 _ (a2 j h5 hj)
      · by_cases hj' : j = n2
        · rw [hj', h58]; decide
        · exact blank_13 _ (c2 j (by omega) (by omega))
    have hfe : fe l (n2 + 1) = fe l k := (first_skip _ _ _ _ (by omega) (by omega) (fun j h5 h6 => by rw [no_crlf l j (hno j h5 h6)]; rfl)).symm
    have hle : le l k = le l (n2 + 1) := first_skip _ _ _ _ (by omega) (by omega) (fun j h5 h6 => no_crlf l j (hno j h5 h6))
    obtain ⟨v1, v2, v3⟩ := vend_spec l (fe l k) k (l.length + 1) (l.length + 1) (n2 + 1) k (by omega) (by omega) (by omega) (by omega) hfe hle
    generalize vend l (l.length + 1) (n2 + 1) k = v at v1 v2 v3 ⊢
    by_cases hv : l.length ≤ v.1
    · obtain ⟨-, e1, e2⟩ := v1 hv
      rw [if_pos e2, if_pos hv, e1, nx, if_neg (by omega)]
    · rw [if_neg hv]
      cases hcr : crlf l v.1
      · obtain ⟨e1, e2⟩ := v3 (by omega) hcr
        rw [if_neg (by rw [e1]; simp), e2]
        rfl
      · obtain ⟨e1, e2⟩ := v2 (by omega) hcr
        rw [if_pos e2, e1, nx, if_pos (by omega)]
        rfl
  · rw [if_neg hg]
    by_cases h1 : le l k ≤ colon l (fe l k) k
    · rw [decide_eq_true h1, Bool.true_or, if_pos rfl]
    · cases h2 : nameOk (trimR (sl l k (colon l (fe l k) k)))
      · rw [Bool.not_false, Bool.or_true, if_pos rfl]
      · exact absurd (name_back l k hk (by omega) h2) hg
end Pl
end Go.Proofs.YtajkahpkbeobaaaGreatDoor
namespace Go.Proofs.YtajkahpkbeobaaaGreatDoor
open Go.RowKit Go.Lib
/-- A scanner in memory: its text, its place, where the line began. -/
structure Sc (w : World) (g : Nat) (s : ByteArray) (a b : Nat) : Prop where
  blk : w.heap[g]? = some (.cells #[.string s, .int .i64 a, .int .i64 b] 60)
set_option maxRecDepth 20000 in
theorem Sc.c0 {w : World} {g : Nat} {s : ByteArray} {a b : Nat} (h : Sc w g s a b) : w.cell? ⟨g, 0, none⟩ = some (.string s) := by simp [World.cell?, h.blk]
set_option maxRecDepth 20000 in
theorem Sc.c1 {w : World} {g : Nat} {s : ByteArray} {a b : Nat} (h : Sc w g s a b) : w.cell? ⟨g, 1, none⟩ = some (.int .i64 a) := by simp [World.cell?, h.blk]
set_option maxRecDepth 20000 in
theorem Sc.c2 {w : World} {g : Nat} {s : ByteArray} {a b : Nat} (h : Sc w g s a b) : w.cell? ⟨g, 2, none⟩ = some (.int .i64 b) := by simp [World.cell?, h.blk]
set_option maxRecDepth 20000 in
theorem Sc.f1 {w : World} {g : Nat} {s : ByteArray} {a b : Nat} (h : Sc w g s a b) : w.frozen? ⟨g, 1, none⟩ = false := by simp [World.frozen?, h.blk]
set_option maxRecDepth 20000 in
theorem Sc.f2 {w : World} {g : Nat} {s : ByteArray} {a b : Nat} (h : Sc w g s a b) : w.frozen? ⟨g, 2, none⟩ = false := by simp [World.frozen?, h.blk]
set_option maxRecDepth 20000 in
theorem Sc.lt {w : World} {g : Nat} {s : ByteArray} {a b : Nat} (h : Sc w g s a b) : g < w.heap.size := by
  have h := h.blk
  by_cases hg : g < w.heap.size
  · exact hg
  · rw [Array.getElem?_eq_none (by omega)] at h; cases h
set_option maxRecDepth 20000 in
theorem Sc.below {w w' : World} {g : Nat} {s : ByteArray} {a b : Nat} (h : Sc w g s a b) (hb : Below w.heap.size w w') : Sc w' g s a b := by
  have := h.lt
  exact ⟨by rw [hb.block g this]; exact h.blk⟩
set_option maxRecDepth 20000 in
theorem Sc.set1 {w : World} {g : Nat} {s : ByteArray} {a b : Nat} (h : Sc w g s a b) (n : Int) (m : Nat) (hn : n = m) : Sc (w.setCell ⟨g, 1, none⟩ (.int .i64 n)) g s m b := by
  subst hn
  exact ⟨by simp [World.setCell, Array.getElem?_modify, h.blk]⟩
set_option maxRecDepth 20000 in
theorem Sc.set2 {w : World} {g : Nat} {s : ByteArray} {a b : Nat} (h : Sc w g s a b) (n : Int) (m : Nat) (hn : n = m) : Sc (w.setCell ⟨g, 2, none⟩ (.int .i64 n)) g s a m := by
  subst hn
  exact ⟨by simp [World.setCell, Array.getElem?_modify, h.blk]⟩
set_option maxRecDepth 20000 in
theorem grown_refl (w : World) (r : Option Nat) : w.grownBy w r := ⟨rfl, rfl, rfl, Nat.le_refl _, fun _ _ _ => rfl⟩
set_option maxRecDepth 20000 in
theorem grown_trans {a b c : World} {r : Option Nat} (h : a.grownBy b r) (k : b.grownBy c r) : a.grownBy c r :=
  ⟨k.os.trans h.os, k.tape.trans h.tape, k.output.trans h.output, Nat.le_trans h.size k.size, fun i hi hr => (k.block i (Nat.lt_of_lt_of_le hi h.size) hr).trans (h.block i hi hr)⟩
set_option maxRecDepth 20000 in
theorem grown_below {w w' : World} {r : Option Nat} (h : Below w.heap.size w w') : w.grownBy w' r := ⟨h.os, h.tape, h.output, h.size, fun k hk _ => h.block k hk⟩
set_option maxRecDepth 20000 in
theorem grown_set (w : World) (g j : Nat) (v : Value) : w.grownBy (w.setCell ⟨g, j, none⟩ v) (some g) := by
  refine ⟨rfl, rfl, rfl, by simp [World.setCell], ?_⟩
  intro k hk hr
  have : g ≠ k := fun e => hr (by rw [e])
  simp [World.setCell, Array.getElem?_modify, this]
/-- The place that a scanner stands at. -/
def atOf (w : World) (g : Nat) : Nat := match w.cell? ⟨g, 1, none⟩ with | some (.int _ n) => n.toNat | _ => 0
set_option maxRecDepth 20000 in
theorem Sc.at {w : World} {g : Nat} {s : ByteArray} {a b : Nat} (h : Sc w g s a b) : atOf w g = a := by simp [atOf, h.c1]
abbrev scp (g : Nat) : Value := .pointer (some ⟨g, 0, none⟩)
set_option maxRecDepth 20000 in
theorem scEnded (g : Nat) (s : ByteArray) (a b : Nat) (w : World) (h : Sc w g s a b) :
    Calls Tryz.prog 63 #[scp g] w fun e w' => e = .returned (.bool ((a : Int) == (s.size : Int))) ∧ Below w.heap.size w w' := by
  have c0 := h.c0
  have c1 := h.c1
  clear h
  go_enter Tryz.func63, Tryz.ntmps63
  go_wp2
  go_quiet (fail)
  go_wp2
  go_ret
  exact ⟨rfl, Go.below_drewN (Below.refl _ _) _⟩
set_option maxRecDepth 20000 in
theorem scFail (g : Nat) (s : ByteArray) (a b : Nat) (w : World) (h : Sc w g s a b) :
    Calls Tryz.prog 113 #[scp g] w fun e w' => e = .panicked [{ v := .iface 56 (.agg #[.int .i64 3, .int .i64 b]), recovered := false }] ∧ w' = w := by
  have c2 := h.c2
  clear h
  go_enter Tryz.func113, Tryz.ntmps113
  go_wp2
  exact ⟨rfl, rfl, rfl⟩
set_option maxRecDepth 20000 in
set_option maxHeartbeats 2000000 in
theorem scPass {f : FuncId} {K : UInt8 → Bool} (hK : Kind f K) (g : Nat) (s : ByteArray) (a b : Nat) (w : World) (hs : s.size ≤ 100000) (ha : a ≤ s.size) (h : Sc w g s a b) :
    Calls Tryz.prog 88 #[scp g, .func (.func f) #[] #[]] w fun e w' => e = .returned (.string (s.extract a (Pl.stop K s.data.toList a))) ∧ Sc w' g s (Pl.stop K s.data.toList a) b ∧ w.grownBy w' (some g) := by
  have hE := hK.enters
  have HC := (show Hid _ from hK.calls)
  obtain ⟨Z, hZ⟩ : ∃ Z, Pl.stop K s.data.toList a = Z := ⟨_, rfl⟩
  rw [hZ]
  have HZ := (show Hid _ from hZ)
  have Hsc := (show Hid _ from h)
  have c1 := h.c1
  clear hZ h
  go_enter Tryz.func88, Tryz.ntmps88
  go_wp2
  clear c1
  go_loopw [10] (fun _ wr => ∃ k : Nat, a ≤ k ∧ k ≤ s.size ∧ Hid (Pl.stop K s.data.toList k = Z) ∧ Hid (Sc wr g s k b) ∧ Hid (w.grownBy wr (some g))) (fun _ wr => s.size - atOf wr g)
  case atStart => exact ⟨a, Nat.le_refl _, ha, HZ, Hsc, grown_refl _ _⟩
  case round =>
    clear HZ Hsc
    obtain ⟨k, hak, hk, HZ, Hsc, Hg⟩ := hrel
    have c0 := Hsc.out.c0
    have c1 := Hsc.out.c1
    have k0 := cell_regrown c0
    have k1 := cell_regrown c1
    have cE : ∀ d os, Calls Tryz.prog 63 #[scp g] (Go.Sort.grow (redrawn wr d) os) fun e w'' => e = .returned (.bool ((k : Int) == (s.size : Int))) ∧ ∃ p : Regrown, w'' = Go.Sort.grow (redrawn wr p.d) p.os := fun d os => Calls.regrown_of (scEnded g s k b _ (Hsc.out.below (below_regrown wr d os)))
    by_cases hlt : k < s.size
    · have hne : ((k : Int) == (s.size : Int)) = false := by simp; omega
      simp only [hne] at cE
      have h8 : s[k].toNat < 256 := UInt8.toNat_lt _
      have hkI : (k : Int) < (s.size : Int) := by omega
      have cK : ∀ d os, Calls Tryz.prog f #[.int .u8 (s[k].toNat : Int)] (Go.Sort.grow (redrawn wr d) os) fun e w'' => e = .returned (.bool (K s[k])) ∧ ∃ p : Regrown, w'' = Go.Sort.grow (redrawn wr p.d) p.os := fun d os => Calls.regrown_of ((HC.out s[k] _).mono fun e w' ⟨he, hw⟩ => ⟨he, by rw [← hw]; exact Below.refl _ _⟩)
      have hkb : Hid (Pl.b s.data.toList k = s[k]) := Pl.b_lt _ k (by simpa using hlt)
      cases hkc : K s[k] <;> simp only [hkc] at cK
      · have hst : Hid (Z = k) := show _ = _ from by
          rw [← HZ.out]
          exact Pl.stop_eq K _ k k (Nat.le_refl _) (by simp; omega) (fun j h1 h2 => by omega) (fun _ => by rw [hkb.out]; exact hkc)
        clear hkc HZ
        go_wp2
        refine wp_region_quiet_below (by kernel_rfl) (by kernel_rfl) ?_
        quiet_step (fail)
        quiet_step (exact cE _ _)
        iterate 12 (quiet_step (fail))
        quiet_step (exact cK _ _)
        repeat (quiet_step (fail))
        refine wpQuiet_nil ?_
        intro _ hw'
        obtain ⟨⟨dq, osq⟩, hw''⟩ := hw'
        subst hw''
        have hbq := below_regrown wr dq osq
        have Hs2 := (show Hid _ from Hsc.out.below hbq)
        have Hg2 := (show Hid _ from grown_trans Hg.out (grown_below hbq))
        generalize Go.Sort.grow (redrawn wr dq) osq = wq at *
        clear c0 c1 k0 k1 cE cK hbq
        have c0 := Hs2.out.c0
        have c1 := Hs2.out.c1
        have k0 := cell_regrown c0
        have k1 := cell_regrown c1
        have f1 : (k : Int) ≤ (s.size : Int) := by omega
        have f2 : (a : Int) ≤ (k : Int) := by omega
        have cL : ∀ d os, Calls Tryz.prog 36 #[.string (s.extract a k)] (Go.Sort.grow (redrawn wq d) os) fun e w'' => e = .returned (.string (s.extract a k)) ∧ ∃ p : Regrown, w'' = Go.Sort.grow (redrawn wq p.d) p.os := fun d os => Calls.regrown_of (libClone _ _ (by rw [ByteArray.size_extract]; omega))
        go_wp2
        refine wp_region_quiet_below (by kernel_rfl) (by kernel_rfl) ?_
        iterate 10 (quiet_step (fail))
        quiet_step (exact cL _ _)
        repeat (quiet_step (fail))
        refine wpQuiet_nil ?_
        intro _ hw'
        obtain ⟨⟨dr, osr⟩, hw''⟩ := hw'
        subst hw''
        have hbr := below_regrown wq dr osr
        go_wp2
        go_ret
        rw [hst.out]
        exact ⟨rfl, Hs2.out.below hbr, grown_trans Hg2.out (grown_below hbr)⟩
      · have hst : Hid (Pl.stop K s.data.toList (k + 1) = Z) := show _ = _ from by
          rw [← HZ.out]
          exact Pl.first_miss _ _ k (by simpa using hlt) (by rw [hkb.out, hkc]; rfl)
        clear hkc HZ
        go_wp2
        refine wp_region_quiet_below (by kernel_rfl) (by kernel_rfl) ?_
        quiet_step (fail)
        quiet_step (exact cE _ _)
        iterate 12 (quiet_step (fail))
        quiet_step (exact cK _ _)
        repeat (quiet_step (fail))
        refine wpQuiet_nil ?_
        intro _ hw'
        obtain ⟨⟨dq, osq⟩, hw''⟩ := hw'
        subst hw''
        have hbq := below_regrown wr dq osq
        have Hs2 := (show Hid _ from Hsc.out.below hbq)
        have Hg2 := (show Hid _ from grown_trans Hg.out (grown_below hbq))
        have hat : Hid (atOf wr g = k) := Hsc.out.at
        generalize Go.Sort.grow (redrawn wr dq) osq = wq at *
        clear c0 c1 k0 k1 cE cK hbq
        have c1 := Hs2.out.c1
        have f1 := Hs2.out.f1
        go_wp2
        go_roundw
        case rel => exact ⟨k + 1, by omega, by omega, hst, Hs2.out.set1 _ _ (by omega), grown_trans Hg2.out (grown_set _ _ _ _)⟩
        case measure =>
          have := (Hs2.out.set1 ((k : Int) + 1) (k + 1) (by omega)).at
          rw [hat.out, this]
          omega
    · have hkk : k = s.size := by omega
      have hst : Hid (Z = k) := show _ = _ from by
        rw [← HZ.out]
        exact Pl.first_end _ _ _ (by simp; omega)
      obtain ⟨bE, hbE⟩ : ∃ bE, ((k : Int) == (s.size : Int)) = bE := ⟨_, rfl⟩
      have Hb : Hid (bE = true) := show _ = _ from by rw [← hbE]; simp; omega
      simp only [hbE] at cE
      have f1 : (k : Int) ≤ (s.size : Int) := by omega
      have f2 : (a : Int) ≤ (k : Int) := by omega
      have hce : (s.extract a k).size ≤ 1100000 := by rw [ByteArray.size_extract]; omega
      clear HZ hkk hbE hlt hk hak
      go_wp2
      refine wp_region_quiet_below (by kernel_rfl) (by kernel_rfl) ?_
      quiet_step (fail)
      quiet_step (exact cE _ _)
      quiet_step (fail)
      quiet_step (fail)
      iterate 11 (refine BigFrame.wpQuiet_skip (by obtain rfl : bE = true := Hb.out; rfl) ?_; go_simp)
      obtain rfl : bE = true := Hb.out
      quiet_step (fail)
      refine wpQuiet_nil ?_
      rintro ⟨dq, osq⟩
      simp only
      have hbq := below_regrown wr dq osq
      have Hs2 := (show Hid _ from Hsc.out.below hbq)
      have Hg2 := (show Hid _ from grown_trans Hg.out (grown_below hbq))
      generalize Go.Sort.grow (redrawn wr dq) osq = wq at *
      clear c0 c1 k0 k1 cE hbq
      have c0 := Hs2.out.c0
      have c1 := Hs2.out.c1
      have k0 := cell_regrown c0
      have k1 := cell_regrown c1
      have cL : ∀ d os, Calls Tryz.prog 36 #[.string (s.extract a k)] (Go.Sort.grow (redrawn wq d) os) fun e w'' => e = .returned (.string (s.extract a k)) ∧ ∃ p : Regrown, w'' = Go.Sort.grow (redrawn wq p.d) p.os := fun d os => Calls.regrown_of (libClone _ _ hce)
      go_wp2
      refine wp_region_quiet_below (by kernel_rfl) (by kernel_rfl) ?_
      iterate 10 (quiet_step (fail))
      quiet_step (exact cL _ _)
      repeat (quiet_step (fail))
      refine wpQuiet_nil ?_
      intro _ hw'
      obtain ⟨⟨dr, osr⟩, hw''⟩ := hw'
      subst hw''
      have hbr := below_regrown wq dr osr
      go_wp2
      go_ret
      rw [hst.out]
      exact ⟨rfl, Hs2.out.below hbr, grown_trans Hg2.out (grown_below hbr)⟩
end Go.Proofs.YtajkahpkbeobaaaGreatDoor
namespace Go.Proofs.YtajkahpkbeobaaaGreatDoor
open Go.RowKit Go.Lib
set_option maxRecDepth 20000 in
theorem implLineEndAt' (s : ByteArray) (a : Nat) (w : World) (hs : s.size ≤ 100000) (ha : a ≤ s.size) :
    Calls Tryz.prog 87 #[.string s, .int .i64 a] w fun e w' => e = .returned (.bool (Pl.crlf s.data.toList a)) ∧ Below w.heap.size w w' :=
  (implLineEndAt s a w (by omega) ha).mono fun e w' ⟨he, hw⟩ => ⟨he, by rw [← hw]; exact Below.refl _ _⟩
set_option maxRecDepth 20000 in
theorem implFoldAt' (s : ByteArray) (a : Nat) (w : World) (hs : s.size ≤ 100000) (ha : a ≤ s.size) :
    Calls Tryz.prog 73 #[.string s, .int .i64 a] w fun e w' => e = .returned (.bool (Pl.fold s.data.toList a)) ∧ Below w.heap.size w w' :=
  (implFoldAt s a w (by omega) ha).mono fun e w' ⟨he, hw⟩ => ⟨he, by rw [← hw]; exact Below.refl _ _⟩
set_option maxRecDepth 20000 in
set_option maxHeartbeats 1000000 in
theorem scLineEndNo (g : Nat) (s : ByteArray) (a b : Nat) (w : World) (hs : s.size ≤ 100000) (ha : a ≤ s.size) (h : Sc w g s a b) (hc : Pl.crlf s.data.toList a = false) :
    Calls Tryz.prog 64 #[scp g] w fun e w' => e = .returned (.bool false) ∧ Below w.heap.size w w' := by
  have k0 := cell_regrown h.c0
  have k1 := cell_regrown h.c1
  have cL : ∀ d os, Calls Tryz.prog 87 #[.string s, .int .i64 a] (Go.Sort.grow (redrawn w d) os) fun e w'' => e = .returned (.bool false) ∧ ∃ p : Regrown, w'' = Go.Sort.grow (redrawn w p.d) p.os := fun d os => Calls.regrown_of (by rw [← hc]; exact implLineEndAt' s a _ hs ha)
  clear h hc
  go_enter Tryz.func64, Tryz.ntmps64
  go_wp2
  refine wp_region_quiet_below (by kernel_rfl) (by kernel_rfl) ?_
  iterate 8 (quiet_step (fail))
  quiet_step (exact cL _ _)
  quiet_step (fail)
  refine wpQuiet_nil ?_
  intro _ hw'
  obtain ⟨⟨dq, osq⟩, hw''⟩ := hw'
  subst hw''
  go_wp2
  go_ret
  exact ⟨rfl, below_regrown _ _ _⟩
set_option maxRecDepth 20000 in
set_option maxHeartbeats 1000000 in
theorem scLineEndYes (g : Nat) (s : ByteArray) (a b : Nat) (w : World) (hs : s.size ≤ 100000) (ha : a ≤ s.size) (h : Sc w g s a b) (hc : Pl.crlf s.data.toList a = true) :
    Calls Tryz.prog 64 #[scp g] w fun e w' => e = .returned (.bool true) ∧ Sc w' g s (a + 2) b ∧ w.grownBy w' (some g) := by
  have k0 := cell_regrown h.c0
  have k1 := cell_regrown h.c1
  have cL : ∀ d os, Calls Tryz.prog 87 #[.string s, .int .i64 a] (Go.Sort.grow (redrawn w d) os) fun e w'' => e = .returned (.bool true) ∧ ∃ p : Regrown, w'' = Go.Sort.grow (redrawn w p.d) p.os := fun d os => Calls.regrown_of (by rw [← hc]; exact implLineEndAt' s a _ hs ha)
  have Hsc := (show Hid _ from h)
  clear h hc
  go_enter Tryz.func64, Tryz.ntmps64
  go_wp2
  refine wp_region_quiet_below (by kernel_rfl) (by kernel_rfl) ?_
  iterate 8 (quiet_step (fail))
  quiet_step (exact cL _ _)
  quiet_step (fail)
  refine wpQuiet_nil ?_
  intro _ hw'
  obtain ⟨⟨dq, osq⟩, hw''⟩ := hw'
  subst hw''
  have hbq := below_regrown w dq osq
  have Hs2 := (show Hid _ from Hsc.out.below hbq)
  have Hg2 := (show Hid _ from grown_below (r := some g) hbq)
  generalize Go.Sort.grow (redrawn w dq) osq = wq at *
  clear k0 k1 cL hbq
  have c1 := Hs2.out.c1
  have f1 := Hs2.out.f1
  go_wp2
  go_ret
  exact ⟨rfl, Hs2.out.set1 _ _ (by omega), grown_trans Hg2.out (grown_set _ _ _ _)⟩
set_option maxRecDepth 20000 in
set_option maxHeartbeats 1000000 in
theorem scFoldNo (g : Nat) (s : ByteArray) (a b : Nat) (w : World) (hs : s.size ≤ 100000) (ha : a ≤ s.size) (h : Sc w g s a b) (hc : Pl.fold s.data.toList a = false) :
    Calls Tryz.prog 95 #[scp g] w fun e w' => e = .returned (.bool false) ∧ Below w.heap.size w w' := by
  have k0 := cell_regrown h.c0
  have k1 := cell_regrown h.c1
  obtain ⟨bF, hbF⟩ : ∃ bF, Pl.fold s.data.toList a = bF := ⟨_, rfl⟩
  have Hb : Hid (bF = false) := show _ = _ from by rw [← hbF]; exact hc
  have cL : ∀ d os, Calls Tryz.prog 73 #[.string s, .int .i64 a] (Go.Sort.grow (redrawn w d) os) fun e w'' => e = .returned (.bool bF) ∧ ∃ p : Regrown, w'' = Go.Sort.grow (redrawn w p.d) p.os := fun d os => Calls.regrown_of (by rw [← hbF]; exact implFoldAt' s a _ hs ha)
  clear h hc hbF
  go_enter Tryz.func95, Tryz.ntmps95
  go_wp2
  refine wp_region_quiet_below (by kernel_rfl) (by kernel_rfl) ?_
  iterate 8 (quiet_step (fail))
  quiet_step (exact cL _ _)
  quiet_step (fail)
  iterate 2 (refine BigFrame.wpQuiet_skip (by obtain rfl : bF = false := Hb.out; rfl) ?_; go_simp)
  obtain rfl : bF = false := Hb.out
  repeat (quiet_step (fail))
  refine wpQuiet_nil ?_
  rintro ⟨dq, osq⟩
  simp only
  go_wp2
  go_ret
  exact ⟨rfl, below_regrown _ _ _⟩
set_option maxRecDepth 20000 in
set_option maxHeartbeats 1000000 in
theorem scFoldYes (g : Nat) (s : ByteArray) (a b : Nat) (w : World) (hs : s.size ≤ 100000) (ha : a ≤ s.size) (h : Sc w g s a b) (hc : Pl.fold s.data.toList a = true) :
    Calls Tryz.prog 95 #[scp g] w fun e w' => e = .returned (.bool true) ∧ Sc w' g s (a + 2) b ∧ w.grownBy w' (some g) := by
  have c0 := h.c0
  have c1 := h.c1
  have hF := fun w => implFoldAt s a w (by omega) ha
  simp only [hc] at hF
  have HL := (show Hid _ from fun (w : World) h => scLineEndYes g s a b w hs ha h (Pl.fold_crlf _ _ hc))
  have Hsc := (show Hid _ from h)
  clear h hc
  go_enter Tryz.func95, Tryz.ntmps95
  go_wp2
  go_region_with first | (go_at_call 73; (refine (hF _).mono ?_; rintro e w2 ⟨rfl, rfl⟩)) | (go_at_call 64; (refine (HL.out _ (Hsc.out.below (Go.below_drewN (Below.refl _ _) 1))).mono ?_; rintro e w3 ⟨rfl, hs3, hg3⟩))
  all_goals
    go_wp2
    go_ret
    exact ⟨rfl, hs3, ⟨hg3.os, hg3.tape, hg3.output, hg3.size, hg3.block⟩⟩
set_option maxRecDepth 20000 in
theorem scNeedYes (g : Nat) (w : World) :
    Calls Tryz.prog 91 #[scp g, .bool true] w fun e w' => e = .returned (.tuple #[]) ∧ w' = w := by
  go_enter Tryz.func91, Tryz.ntmps91
  go_wp2
  exact bodyPost_end (v := .tuple #[]) (results_none Tryz.results91 _ _ _) rfl ⟨rfl, rfl⟩
set_option maxRecDepth 20000 in
theorem scNeedNo (g : Nat) (s : ByteArray) (a b : Nat) (w : World) (h : Sc w g s a b) :
    Calls Tryz.prog 91 #[scp g, .bool false] w fun e w' => e = .panicked [{ v := .iface 56 (.agg #[.int .i64 3, .int .i64 b]), recovered := false }] ∧ w' = w := by
  have Hsc := (show Hid _ from h)
  clear h
  go_enter Tryz.func91, Tryz.ntmps91
  go_wp2_with fail
  refine (scFail g s a b w Hsc.out).mono ?_
  rintro e w3 ⟨rfl, rfl⟩
  exact ⟨rfl, rfl, rfl⟩
set_option maxRecDepth 20000 in
set_option maxHeartbeats 2000000 in
theorem scNextEnd (g : Nat) (s : ByteArray) (a b : Nat) (w : World) (h : Sc w g s a b) (ha : a = s.size) :
    Calls Tryz.prog 115 #[scp g] w fun e w' => e = .panicked [{ v := .iface 56 (.agg #[.int .i64 3, .int .i64 b]), recovered := false }] ∧ Below w.heap.size w w' := by
  have hEn := scEnded g s a b w h
  rw [show ((a : Int) == (s.size : Int)) = true from by simp; omega] at hEn
  have Hsc := (show Hid _ from h)
  clear h ha
  go_enter Tryz.func115, Tryz.ntmps115
  go_wp2_with fail
  refine hEn.mono ?_
  rintro e w1 ⟨rfl, hb1⟩
  have S1 := (show Hid _ from Hsc.out.below hb1)
  go_wp2_with fail
  refine (scNeedNo g s a b w1 S1.out).mono ?_
  rintro e w2 ⟨rfl, rfl⟩
  exact ⟨rfl, rfl, hb1⟩
set_option maxRecDepth 20000 in
set_option maxHeartbeats 2000000 in
theorem scNextYes (g : Nat) (s : ByteArray) (a b : Nat) (w : World) (hs : s.size ≤ 100000) (h : Sc w g s a b) (ha : a < s.size) :
    Calls Tryz.prog 115 #[scp g] w fun e w' => e = .returned (.int .u8 (s[a].toNat : Int)) ∧ Sc w' g s (a + 1) b ∧ w.grownBy w' (some g) := by
  have hEn := scEnded g s a b w h
  rw [show ((a : Int) == (s.size : Int)) = false from by simp; omega] at hEn
  have Hsc := (show Hid _ from h)
  have h8 : s[a].toNat < 256 := UInt8.toNat_lt _
  have hkI : (a : Int) < (s.size : Int) := by omega
  clear h
  go_enter Tryz.func115, Tryz.ntmps115
  go_wp2_with fail
  refine hEn.mono ?_
  rintro e w1 ⟨rfl, hb1⟩
  have S1 := (show Hid _ from Hsc.out.below hb1)
  have G1 := (show Hid _ from grown_below (r := some g) hb1)
  clear hb1 hEn
  go_wp2_with fail
  refine (scNeedYes g w1).mono ?_
  rintro e w2 ⟨rfl, rfl⟩
  have c1 := S1.out.c1
  have f1 := S1.out.f1
  have Hs3 := (show Hid _ from S1.out.set1 ((a : Int) + 1) (a + 1) (by omega))
  have Hg3 := (show Hid _ from grown_trans G1.out (grown_set w2 g 1 (.int .i64 ((a : Int) + 1))))
  go_wp2
  clear c1 f1
  generalize w2.setCell ⟨g, 1, none⟩ (.int .i64 ((a : Int) + 1)) = wz at *
  have e0 := Hs3.out.c0
  have e1 := Hs3.out.c1
  go_quiet (fail)
  have hbz := Go.below_drewN (Below.refl wz.heap.size wz) nq
  go_wp2
  go_ret
  exact ⟨rfl, Hs3.out.below hbz, grown_trans Hg3.out (grown_below hbz)⟩
set_option maxRecDepth 20000 in
set_option maxHeartbeats 2000000 in
theorem scByteEnd (g : Nat) (s : ByteArray) (a b : Nat) (w : World) (h : Sc w g s a b) (ha : a = s.size) :
    Calls Tryz.prog 93 #[scp g] w fun e w' => e = .panicked [{ v := .iface 56 (.agg #[.int .i64 3, .int .i64 b]), recovered := false }] ∧ Below w.heap.size w w' := by
  have hN := scNextEnd g s a b w h ha
  clear h ha
  go_enter Tryz.func93, Tryz.ntmps93
  go_wp2_with fail
  refine hN.mono ?_
  rintro e w1 ⟨rfl, hb1⟩
  exact ⟨rfl, rfl, hb1⟩
set_option maxRecDepth 20000 in
set_option maxHeartbeats 2000000 in
theorem scByteNo (g : Nat) (s : ByteArray) (a b : Nat) (w : World) (hs : s.size ≤ 100000) (h : Sc w g s a b) (ha : a < s.size) (hl : Pl.lb s[a] = false) :
    Calls Tryz.prog 93 #[scp g] w fun e w' => e = .panicked [{ v := .iface 56 (.agg #[.int .i64 3, .int .i64 b]), recovered := false }] ∧ w.grownBy w' (some g) := by
  have hN := scNextYes g s a b w hs h ha
  have hK := fun w => implLineByte s[a] w
  simp only [hl] at hK
  have h8 : s[a].toNat < 256 := UInt8.toNat_lt _
  clear h hl
  go_enter Tryz.func93, Tryz.ntmps93
  go_wp2_with fail
  refine hN.mono ?_
  rintro e w1 ⟨rfl, s1, g1⟩
  have S1 := (show Hid _ from s1)
  have G1 := (show Hid _ from g1)
  clear s1 g1 hN
  go_wp2_with fail
  refine (hK _).mono ?_
  rintro e w2 ⟨rfl, rfl⟩
  go_wp2_with fail
  refine (scNeedNo g s (a + 1) b _ S1.out).mono ?_
  rintro e w3 ⟨rfl, rfl⟩
  exact ⟨rfl, rfl, G1.out⟩
set_option maxRecDepth 20000 in
set_option maxHeartbeats 2000000 in
theorem scByteYes (g : Nat) (s : ByteArray) (a b : Nat) (w : World) (hs : s.size ≤ 100000) (h : Sc w g s a b) (ha : a < s.size) (hl : Pl.lb s[a] = true) :
    Calls Tryz.prog 93 #[scp g] w fun e w' => e = .returned (.int .u8 (s[a].toNat : Int)) ∧ Sc w' g s (a + 1) b ∧ w.grownBy w' (some g) := by
  have hN := scNextYes g s a b w hs h ha
  have hK := fun w => implLineByte s[a] w
  simp only [hl] at hK
  have h8 : s[a].toNat < 256 := UInt8.toNat_lt _
  clear h hl
  go_enter Tryz.func93, Tryz.ntmps93
  go_wp2_with fail
  refine hN.mono ?_
  rintro e w1 ⟨rfl, s1, g1⟩
  have S1 := (show Hid _ from s1)
  have G1 := (show Hid _ from g1)
  clear s1 g1 hN
  go_wp2_with fail
  refine (hK _).mono ?_
  rintro e w2 ⟨rfl, rfl⟩
  go_wp2_with fail
  refine (scNeedYes g _).mono ?_
  rintro e w3 ⟨rfl, rfl⟩
  go_wp2
  go_ret
  exact ⟨rfl, S1.out, G1.out⟩
end Go.Proofs.YtajkahpkbeobaaaGreatDoor
