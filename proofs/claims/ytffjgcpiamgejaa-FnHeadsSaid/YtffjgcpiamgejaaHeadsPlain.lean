
/- Plain mathematics of FnHeads: what is written is read; what is folded comes back. -/
import Derived.Test.YtffjgcpiamgejaaReadSpec
import Derived.Test.YtffjgcpiamgejaaReadSame
namespace Go.Proofs.Ytffjgcpiamgejaa
namespace Pl
theorem fold_not13 (c : UInt8) (r : List UInt8) (h : c ≠ 13) : fold (c :: r) 0 = false := by
  rw [Bool.eq_false_iff]
  intro hf
  obtain ⟨_, h0, _⟩ := (fold_iff _ _).1 hf
  exact h h0
theorem unf_app : ∀ (p r : List UInt8), p.all lb = true → unf false (p ++ r) = p ++ unf false r
  | [], _, _ => rfl
  | c :: p, r, h => by
    rw [List.all_cons, Bool.and_eq_true] at h
    rw [List.cons_append, unf, if_neg (by rw [fold_not13 c _ (lb_13 c h.1)]; simp), unf_app p r h.2, List.cons_append]
theorem unf_crlf (c : UInt8) (r : List UInt8) (h : blank c = true) : unf false (13 :: 10 :: c :: r) = unf false (c :: r) := by
  have hf : fold (13 :: 10 :: c :: r) 0 = true := (fold_iff (13 :: 10 :: c :: r) 0).2 ⟨by simp, rfl, rfl, h⟩
  rw [unf, if_pos hf, unf]
theorem fo_unf : ∀ (f : Nat) (l : List UInt8) (n : Nat) (s : Bool), l.length ≤ f → l.all lb = true → unf false (fo f l n s) = l
  | 0, l, n, s, hf, _ => by
    have : l = [] := List.length_eq_zero_iff.1 (by omega)
    subst this; rfl
  | f + 1, l, n, s, hf, hl => by
    unfold fo
    by_cases he : l = []
    · rw [if_pos he, he]; rfl
    · have hp := pz_pos l he
      have hlt : l.all lb = true := hl
      have ht : (l.take (pz l)).all lb = true := by
        rw [List.all_eq_true] at hl ⊢
        exact fun x hx => hl x (List.mem_of_mem_take hx)
      have hd : (l.drop (pz l)).all lb = true := by
        rw [List.all_eq_true] at hl ⊢
        exact fun x hx => hl x (List.mem_of_mem_drop hx)
      have hdl : (l.drop (pz l)).length ≤ f := by
        have : 0 < l.length := List.length_pos_iff.2 he
        simp; omega
      rw [if_neg he]
      by_cases hb : foldB l n s = true
      · rw [if_pos hb]
        have hbl : blankAt l 0 = true := by
          unfold foldB at hb
          simp only [Bool.and_eq_true] at hb
          exact hb.2.1
        match l, he, hp, ht, hd, hdl, hbl with
        | c :: r, he, hp, ht, hd, hdl, hbl =>
          obtain ⟨m, hm⟩ : ∃ m, pz (c :: r) = m + 1 := ⟨pz (c :: r) - 1, by omega⟩
          have hc : blank c = true := by rw [blankAt_lt _ 0 (by simp)] at hbl; exact hbl
          rw [hm] at ht hd hdl ⊢
          rw [List.take_succ_cons, List.cons_append, unf_crlf c _ hc, ← List.cons_append, ← List.take_succ_cons, unf_app _ _ ht, fo_unf f _ _ _ hdl hd, List.take_append_drop]
      · rw [if_neg hb, unf_app _ _ ht, fo_unf f _ _ _ hdl hd, List.take_append_drop]
theorem fld_unf (l : List UInt8) (n : Nat) (s : Bool) (h : l.all lb = true) : unf false (fld l n s) = l := fo_unf _ l n s (Nat.le_refl _) h
theorem fo_len : ∀ (f : Nat) (l : List UInt8) (n : Nat) (s : Bool), (fo f l n s).length ≤ 3 * l.length
  | 0, l, n, s => by simp [fo]
  | f + 1, l, n, s => by
    unfold fo
    by_cases he : l = []
    · rw [if_pos he]; simp
    · have hp := pz_pos l he
      have hq := pz_le l
      rw [if_neg he]
      have h1 := fo_len f (l.drop (pz l))
      split
      · have := h1 (pz l) true
        simp only [List.length_cons, List.length_append, List.length_take, List.length_drop] at this ⊢
        omega
      · have := h1 (n + pz l) (s || says (l.take (pz l)))
        simp only [List.length_append, List.length_take, List.length_drop] at this ⊢
        omega
/-- A byte of a text in three parts. -/
theorem b_mid (z v t : List UInt8) (j : Nat) (h : j < v.length) : b (z ++ (v ++ t)) (z.length + j) = b v j := by
  unfold b
  rw [List.getD_eq_getElem?_getD, List.getD_eq_getElem?_getD, List.getElem?_append_right (by omega), Nat.add_sub_cancel_left, List.getElem?_append_left h]
theorem b_at (z t : List UInt8) (j : Nat) : b (z ++ t) (z.length + j) = b t j := by
  unfold b
  rw [List.getD_eq_getElem?_getD, List.getD_eq_getElem?_getD, List.getElem?_append_right (by omega), Nat.add_sub_cancel_left]
theorem sl_mid (z v t : List UInt8) (i j : Nat) (hi : i = z.length) (hj : j = z.length + v.length) : sl (z ++ (v ++ t)) i j = v := by
  subst hi hj
  unfold sl
  rw [List.drop_left, Nat.add_sub_cancel_left, List.take_left]
theorem fold_of_b (l : List UInt8) (k : Nat) (h : k + 2 < l.length) : fold l k = (b l k == 13 && (b l (k + 1) == 10 && blank (b l (k + 2)))) := by
  rw [b_lt l k (by omega), b_lt l (k + 1) (by omega), b_lt l (k + 2) h, Bool.eq_iff_iff, fold_iff]
  simp only [Bool.and_eq_true, beq_iff_eq]
  constructor
  · rintro ⟨_, h0, h1, h2⟩; exact ⟨h0, h1, h2⟩
  · rintro ⟨h0, h1, h2⟩; exact ⟨h, h0, h1, h2⟩
/-- A value that is right is scanned to its end. -/
theorem vend_val (z v t : List UInt8) (L : List UInt8) (e : Nat) (hL : L = z ++ (v ++ (13 :: 10 :: t))) (he : e = z.length + v.length) (hnf : fold L e = false) :
    ∀ (f i : Nat) (beg : Nat), i ≤ v.length → v.length < f + i → val (v.drop i) = true → (vend L f (z.length + i) beg).1 = e := by
  have hlen : L.length = z.length + v.length + 2 + t.length := by rw [hL]; simp; omega
  have hb : ∀ j, j < v.length → b L (z.length + j) = b v j := fun j hj => by rw [hL]; exact b_mid z v _ j hj
  have hb13 : b L e = 13 := by
    rw [hL, he, ← List.append_assoc, ← List.length_append]
    have := b_at (z ++ v) (13 :: 10 :: t) 0
    rw [Nat.add_zero] at this
    rw [this]; rfl
  intro f
  induction f with
  | zero => intro i beg hi hf hv; omega
  | succ f ih =>
    intro i beg hi hf hv
    rw [vend]
    obtain ⟨j, hj⟩ : ∃ j, stop lb L (z.length + i) = j := ⟨_, rfl⟩
    have hk : z.length + i ≤ L.length := by omega
    have h1 := stop_ge lb L _ hk
    have h2 := stop_le lb L _ hk
    have h3 := stop_all lb L _ hk
    have h4 := stop_not lb L _ hk
    rw [hj] at h1 h2 h3 h4 ⊢
    have hje : j ≤ e := by
      by_cases h : j ≤ e
      · exact h
      · have := h3 e (by omega) (by omega)
        rw [hb13] at this
        exact absurd this (by decide)
    by_cases hlt : j < e
    · obtain ⟨m, hm⟩ : ∃ m, j = z.length + m := ⟨j - z.length, by omega⟩
      have hmv : m < v.length := by omega
      have hrun := val_run v _ m i rfl (by omega) (by omega) (fun q hq1 hq2 => by
        rw [← hb q (by omega)]
        exact h3 (z.length + q) (by omega) (by omega))
      rw [hv] at hrun
      have hnl : lb (b v m) = false := by
        rw [← hb m hmv, ← hm]
        exact h4 (by omega)
      have hfv : fold v m = true := by
        cases hfm : fold v m
        · rw [val_other v m hmv hfm, ← b_lt v m hmv, hnl, Bool.false_and] at hrun
          cases hrun
        · rfl
      have hm2 := fold_lt v m hfv
      have hfL : fold L j = true := by
        rw [fold_of_b L j (by omega), hm, Nat.add_assoc, Nat.add_assoc, hb m hmv, hb (m + 1) (by omega), hb (m + 2) hm2, ← fold_of_b v m hm2]
        exact hfv
      rw [if_pos hfL, hm, Nat.add_assoc]
      refine ih (m + 2) _ (by omega) (by omega) ?_
      rw [val_fold v m hfv]
      exact hrun.symm
    · have hje2 : j = e := by omega
      rw [hje2, hnf, if_neg (by simp)]
/-- A field that can be written is read. -/
theorem implF_line (z n v t : List UInt8) (L : List UInt8) (hL : L = z ++ (n ++ (58 :: (v ++ (13 :: 10 :: t))))) (hn : nameOk n = true) (hv : val v = true) (ht : blank (b t 0) = false ∨ t = []) :
    implF L z.length = .inr (n, v, z.length + n.length + 1 + v.length + 2) := by
  have hlen : L.length = z.length + n.length + 1 + v.length + 2 + t.length := by rw [hL]; simp; omega
  have hnn : n.length ≠ 0 ∧ n.all nb = true := by
    unfold nameOk at hn
    simp only [Bool.and_eq_true] at hn
    refine ⟨?_, hn.2.2⟩
    intro e
    rw [List.length_eq_zero_iff] at e
    rw [e] at hn
    exact absurd hn.1 (by decide)
  have hbn : ∀ j, j < n.length → b L (z.length + j) = b n j := fun j hj => by rw [hL]; exact b_mid z n _ j hj
  have h58 : b L (z.length + n.length) = 58 := by
    have e : L = (z ++ n) ++ (58 :: (v ++ (13 :: 10 :: t))) := by rw [hL]; simp
    have := b_at (z ++ n) (58 :: (v ++ (13 :: 10 :: t))) 0
    rw [← e, Nat.add_zero, List.length_append] at this
    rw [this]; rfl
  have hs1 : stop nb L z.length = z.length + n.length := stop_eq nb L _ _ (by omega) (by omega) (fun j h1 h2 => by
    obtain ⟨m, rfl⟩ : ∃ m, j = z.length + m := ⟨j - z.length, by omega⟩
    rw [hbn m (by omega), b_lt n m (by omega)]
    exact List.all_eq_true.1 hnn.2 _ (List.getElem_mem _)) (fun _ => by rw [h58]; decide)
  have hs2 : stop blank L (z.length + n.length) = z.length + n.length := stop_eq blank L _ _ (Nat.le_refl _) (by omega) (fun j h1 h2 => by omega) (fun _ => by rw [h58]; decide)
  have hsl : sl L z.length (z.length + n.length) = n := by rw [hL]; exact sl_mid z n _ _ _ rfl rfl
  have hgood : nameGood L z.length = true := by
    unfold nameGood
    rw [hs1, hs2, hsl, hn, h58, decide_eq_true (by omega)]
    rfl
  have hL2 : L = (z ++ n ++ [58]) ++ (v ++ (13 :: 10 :: t)) := by rw [hL]; simp
  have hzl : (z ++ n ++ [58]).length = z.length + n.length + 1 := by simp; omega
  obtain ⟨e, he⟩ : ∃ e, e = z.length + n.length + 1 + v.length := ⟨_, rfl⟩
  have hL3 : L = (z ++ n ++ [58] ++ v) ++ (13 :: 10 :: t) := by rw [hL]; simp
  have hl3 : (z ++ n ++ [58] ++ v).length = e := by simp; omega
  have hbe : ∀ j, b L (e + j) = b (13 :: 10 :: t) j := fun j => by
    have := b_at (z ++ n ++ [58] ++ v) (13 :: 10 :: t) j
    rw [← hL3, hl3] at this
    exact this
  have hcr : crlf L e = true := by
    rw [crlf_iff]
    have e0 := hbe 0
    have e1 := hbe 1
    rw [Nat.add_zero] at e0
    refine ⟨by omega, ?_, ?_⟩
    · rw [← b_lt L e (by omega), e0]; rfl
    · rw [← b_lt L (e + 1) (by omega), e1]; rfl
  have hnf : fold L e = false := by
    rw [Bool.eq_false_iff]
    intro hf
    have h2 := fold_b L e hf
    rw [hbe 2] at h2
    rcases ht with ht | ht
    · have : b (13 :: 10 :: t) 2 = b t 0 := rfl
      rw [this, ht] at h2
      exact absurd h2.1 (by decide)
    · subst ht
      have := h2.2
      simp at hlen
      omega
  have hve := vend_val (z ++ n ++ [58]) v t L e hL2 (by rw [hzl]; exact he) hnf (L.length + 1) 0 z.length (Nat.zero_le _) (by omega) (by rw [List.drop_zero]; exact hv)
  rw [Nat.add_zero, hzl] at hve
  unfold implF
  rw [if_pos hgood]
  simp only [hs1, hs2, hve, hsl]
  rw [if_neg (by omega), if_pos hcr]
  have hsv : sl L (z.length + n.length + 1) e = v := by
    rw [hL2]
    exact sl_mid (z ++ n ++ [58]) v _ _ _ (by rw [hzl]) (by rw [hzl]; exact he)
  rw [hsv, he]
def lineL (f : Fl) : List UInt8 := f.1 ++ (58 :: (f.2 ++ [13, 10]))
def okL (f : Fl) : Bool := nameOk f.1 && val f.2
theorem rd_lines (body : List UInt8) : ∀ (F : List Fl) (pre L : List UInt8) (g : Nat) (fs : List Fl), L = pre ++ (F.flatMap lineL ++ (13 :: 10 :: body)) → (∀ f ∈ F, okL f = true) → fs.length + F.length ≤ 200 → F.length < g →
    rd L g pre.length fs = ⟨0, 0, pre.length + (F.flatMap lineL).length + 2, fs ++ F⟩
  | [], pre, L, g, fs, hL, _, _, hg => by
    obtain ⟨g', rfl⟩ : ∃ g', g = g' + 1 := ⟨g - 1, by simp at hg; omega⟩
    have hlen : L.length = pre.length + 2 + body.length := by rw [hL]; simp; omega
    have hc : crlf L pre.length = true := by
      have hb : ∀ j, b L (pre.length + j) = b (13 :: 10 :: body) j := fun j => by rw [hL]; exact b_at pre _ j
      rw [crlf_iff]
      refine ⟨by omega, ?_, ?_⟩
      · have := hb 0
        rw [Nat.add_zero] at this
        rw [← b_lt L _ (by omega), this]; rfl
      · rw [← b_lt L _ (by omega), hb 1]; rfl
    rw [rd, if_neg (by omega), if_pos hc]
    simp
  | f :: F, pre, L, g, fs, hL, hok, hfs, hg => by
    obtain ⟨g', rfl⟩ : ∃ g', g = g' + 1 := ⟨g - 1, by simp at hg; omega⟩
    have hf := hok f (List.mem_cons_self)
    unfold okL at hf
    rw [Bool.and_eq_true] at hf
    obtain ⟨t, ht⟩ : ∃ t, t = F.flatMap lineL ++ (13 :: 10 :: body) := ⟨_, rfl⟩
    have hL1 : L = pre ++ (f.1 ++ (58 :: (f.2 ++ (13 :: 10 :: t)))) := by
      rw [hL, ht, List.flatMap_cons]
      simp [lineL]
    have hne : f.1.length ≠ 0 ∧ f.1.all nb = true := by
      have hn := hf.1
      unfold nameOk at hn
      simp only [Bool.and_eq_true] at hn
      refine ⟨?_, hn.2.2⟩
      intro e
      rw [List.length_eq_zero_iff] at e
      rw [e] at hn
      exact absurd hn.1 (by decide)
    have hlen : L.length = pre.length + f.1.length + 1 + f.2.length + 2 + t.length := by rw [hL1]; simp; omega
    have hb0 : nb (b L pre.length) = true := by
      have := b_mid pre f.1 (58 :: (f.2 ++ (13 :: 10 :: t))) 0 (by omega)
      rw [← hL1, Nat.add_zero] at this
      rw [this, b_lt _ 0 (by omega)]
      exact List.all_eq_true.1 hne.2 _ (List.getElem_mem _)
    have hc : crlf L pre.length = false := no_crlf L _ (nb_13 _ hb0)
    have htb : blank (b t 0) = false ∨ t = [] := by
      left
      match F, hok with
      | [], _ => rw [ht]; rfl
      | f2 :: F2, hok =>
        have h2 := hok f2 (by simp)
        unfold okL at h2
        rw [Bool.and_eq_true] at h2
        have hn2 := h2.1
        unfold nameOk at hn2
        simp only [Bool.and_eq_true] at hn2
        match h1 : f2.1 with
        | [] => rw [h1] at hn2; exact absurd hn2.1 (by decide)
        | c :: r =>
          rw [h1] at hn2
          have hcn : nb c = true := List.all_eq_true.1 hn2.2.2 c (by simp)
          have : b t 0 = c := by rw [ht, List.flatMap_cons, lineL, h1]; rfl
          rw [this]
          exact nb_blank c hcn
    have hI := implF_line pre f.1 f.2 t L hL1 hf.1 hf.2 htb
    rw [rd, if_neg (by omega), if_neg (by rw [hc]; simp), hI]
    simp only
    rw [if_neg (by simp at hfs; omega)]
    have hpl : pre.length + f.1.length + 1 + f.2.length + 2 = (pre ++ lineL f).length := by simp [lineL]; omega
    rw [hpl, rd_lines body F (pre ++ lineL f) L g' (fs ++ [f]) (by rw [hL, List.flatMap_cons]; simp) (fun x hx => hok x (List.mem_cons_of_mem _ hx)) (by simp at hfs ⊢; omega) (by simp at hg; omega)]
    simp only [List.flatMap_cons, List.length_append, List.append_assoc, List.singleton_append, HR.mk.injEq, true_and, and_true]
    omega
/-- What is written of fields, an empty line and a body are read as these fields. -/
theorem readHead_lines (F : List Fl) (body : List UInt8) (hok : ∀ f ∈ F, okL f = true) (hF : F.length ≤ 200) : readHead (F.flatMap lineL ++ (13 :: 10 :: body)) = ⟨0, 0, (F.flatMap lineL).length + 2, F⟩ := by
  unfold readHead
  have hl : F.length ≤ (F.flatMap lineL).length := by
    clear hok hF
    induction F with
    | nil => simp
    | cons f r ih => simp [List.flatMap_cons, lineL] at ih ⊢; omega
  have := rd_lines body F [] (F.flatMap lineL ++ (13 :: 10 :: body)) ((F.flatMap lineL ++ (13 :: 10 :: body)).length + 1) [] (by simp) hok (by simpa using hF) (by rw [List.length_append]; omega)
  rw [List.length_nil, Nat.zero_add, List.nil_append] at this
  exact this
end Pl
end Go.Proofs.Ytffjgcpiamgejaa
