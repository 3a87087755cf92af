
/- A signature's own field: it can be written. Laws of no program. -/
import Derived.Test.YtgabjiamabbheaaGreatDoorSgPlain2
import Derived.Test.YtgabjiamabbheaaGreatDoorFrontSpec2
import Derived.Test.YtgabjiamabbheaaGreatDoorSignBoth
import Derived.Lib.ItoaLen
namespace Go.Proofs.YtgabjiamabbheaaGreatDoor
open Go.RowKit Go.Lib
namespace Pl
set_option maxRecDepth 20000 in
theorem atom_lb_all : ∀ n, n < 256 → (atom (UInt8.ofNat n) = true → lb (UInt8.ofNat n) = true) := by decide +kernel
set_option maxRecDepth 20000 in
theorem atom_lb (c : UInt8) (h : atom c = true) : lb c = true := by
  have := atom_lb_all c.toNat (UInt8.toNat_lt c)
  rw [UInt8.ofNat_toNat] at this
  exact this h
set_option maxRecDepth 20000 in
theorem nb_lb_all : ∀ n, n < 256 → (nb (UInt8.ofNat n) = true → lb (UInt8.ofNat n) = true) := by decide +kernel
set_option maxRecDepth 20000 in
theorem nb_lb (c : UInt8) (h : nb c = true) : lb c = true := by
  have := nb_lb_all c.toNat (UInt8.toNat_lt c)
  rw [UInt8.ofNat_toNat] at this
  exact this h
set_option maxRecDepth 20000 in
theorem sel_lb_all : ∀ n, n < 256 → (selB (UInt8.ofNat n) = true → lb (UInt8.ofNat n) = true) := by decide +kernel
set_option maxRecDepth 20000 in
theorem sel_lb (c : UInt8) (h : selB c = true) : lb c = true := by
  have := sel_lb_all c.toNat (UInt8.toNat_lt c)
  rw [UInt8.ofNat_toNat] at this
  exact this h
set_option maxRecDepth 20000 in
theorem all_imp (K L : UInt8 → Bool) (l : List UInt8) (h : ∀ c, K c = true → L c = true) (hl : l.all K = true) : l.all L = true := by
  rw [List.all_eq_true] at hl ⊢
  exact fun x hx => h x (hl x hx)
set_option maxRecDepth 20000 in
theorem scan_lb : ∀ (l : List UInt8) (was : Bool), scan 46 was l = true → l.all lb = true
  | [], _, _ => rfl
  | c :: r, was, h => by
    rw [scan] at h
    rw [List.all_cons]
    split at h
    · rename_i ha
      rw [atom_lb c ha, Bool.true_and]
      exact scan_lb r true h
    · split at h
      · rename_i hc
        rw [Bool.and_eq_true] at hc
        have e : c = 46 := by simpa using hc.1
        subst e
        rw [show lb 46 = true from by decide, Bool.true_and]
        exact scan_lb r false h
      · cases h
set_option maxRecDepth 20000 in
theorem dom_lb (l : List UInt8) (h : domOk l = true) : l.all lb = true ∧ l.length ≤ 255 := by
  unfold domOk domI at h
  simp only [Bool.and_eq_true, Bool.or_eq_true, decide_eq_true_eq] at h
  obtain ⟨⟨h1, h2⟩, h3, h4⟩ := h
  refine ⟨?_, h1⟩
  rcases h2 with h2 | h2
  · exact scan_lb l false h2
  · exfalso
    unfold isLit at h2
    rw [Bool.and_eq_true] at h2
    have hp := h2.1
    unfold hasPrefix at hp
    match l, hp, h3 with
    | [], hp, _ => cases hp
    | c :: r, hp, h3 =>
      simp [List.isPrefixOf] at hp
      subst hp
      simp at h3
set_option maxRecDepth 20000 in
theorem dec_lb (n : Nat) : (decDigits n).all lb = true := by
  rw [decDigits_eq, List.all_map, List.all_eq_true]
  intro t _
  show lb (dg n _) = true
  generalize nDigits n - 1 - t = m
  unfold dg
  have h : n / 10 ^ m % 10 < 10 := Nat.mod_lt _ (by omega)
  generalize n / 10 ^ m % 10 = q at *
  revert q
  decide
set_option maxRecDepth 20000 in
theorem fold_none (l : List UInt8) (h : l.all lb = true) : fold l 0 = false := by
  cases hf : fold l 0 with
  | false => rfl
  | true =>
    have hc := crlf_b l 0 (fold_crlf l 0 hf)
    match l, h, hc with
    | [], _, hc => exact absurd hc.2.2 (by simp)
    | c :: r, h, hc =>
      have e : c = 13 := hc.1
      subst e
      rw [List.all_cons] at h
      simp [lb] at h
set_option maxRecDepth 20000 in
theorem unf_same : ∀ (l : List UInt8), l.all lb = true → unf false l = l
  | [], _ => rfl
  | c :: r, h => by
    rw [unf, if_neg (by rw [fold_none _ h]; simp)]
    rw [List.all_cons, Bool.and_eq_true] at h
    rw [unf_same r h.2]
set_option maxRecDepth 20000 in
theorem val_same (l : List UInt8) (h : l.all lb = true) : val l = true := by
  unfold val
  rw [unf_same l h]
  exact h
end Pl
set_option maxRecDepth 20000 in
theorem jc_lb : ∀ (F : List ByteArray), F.all nameB = true → (jc F).all Pl.lb = true
  | [], _ => rfl
  | [t], h => by
    simp only [List.all_cons, List.all_nil, Bool.and_true] at h
    have h1 : Pl.nameOk t.data.toList = true := by
      unfold nameB Pl.sNameOk at h
      exact (Bool.and_eq_true _ _ ▸ h).1
    unfold Pl.nameOk at h1
    simp only [Bool.and_eq_true] at h1
    have e : jc [t] = t.data.toList := by simp [jc]
    rw [e]
    exact Pl.all_imp _ _ _ Pl.nb_lb h1.2.2
  | t :: a :: q, h => by
    rw [List.all_cons, Bool.and_eq_true] at h
    have ih := jc_lb (a :: q) h.2
    have h1 : Pl.nameOk t.data.toList = true := by
      have := h.1
      unfold nameB Pl.sNameOk at this
      exact (Bool.and_eq_true _ _ ▸ this).1
    unfold Pl.nameOk at h1
    simp only [Bool.and_eq_true] at h1
    show (t.data.toList ++ 58 :: jc (a :: q)).all Pl.lb = true
    rw [List.all_append, List.all_cons, ih, Pl.all_imp _ _ _ Pl.nb_lb h1.2.2]
    rfl
set_option maxRecDepth 20000 in
theorem name_size (F : List ByteArray) (h : F.all nameB = true) : ∀ t ∈ F, t.size ≤ 70 := by
  intro t ht
  have := (List.all_eq_true.1 h) t ht
  unfold nameB Pl.sNameOk at this
  exact Pl.nameOk_size t (Bool.and_eq_true _ _ ▸ this).1
set_option maxRecDepth 20000 in
theorem form_lb (h : Int) : (formT h).data.toList.all Pl.lb = true ∧ (formT h).size ≤ 7 := by
  unfold formT
  split
  · exact ⟨by decide, by decide⟩
  · exact ⟨by decide, by decide⟩
set_option maxRecDepth 20000 in
theorem sumT_lb (x y : Nat) : (sumT x y).data.toList.all Pl.lb = true := by
  unfold sumT
  simp only [ByteArray.data_append, Array.toList_append, List.all_append, Pl.dec_lb]
  decide
set_option maxRecDepth 20000 in
theorem dec_short (n : Nat) (h : n < 2147483647) : (decDigits n).length ≤ 20 := by
  rw [decDigits_length]
  exact nDigits_le20 n (by omega)
set_option maxRecDepth 20000 in
theorem sumT_sz (x y : Nat) (hx : x < 2147483647) (hy : y < 2147483647) : (sumT x y).size ≤ 41 := by
  have a := dec_short x hx
  have b := dec_short y hy
  unfold sumT
  simp only [ByteArray.size_append]
  have e1 : (⟨(decDigits x).toArray⟩ : ByteArray).size = (decDigits x).length := by show ((decDigits x).toArray).size = _; rw [List.size_toArray]
  have e2 : (⟨(decDigits y).toArray⟩ : ByteArray).size = (decDigits y).length := by show ((decDigits y).toArray).size = _; rw [List.size_toArray]
  rw [e1, e2]
  show _ + 1 + _ ≤ 41
  omega
set_option maxRecDepth 20000 in
theorem front_lb (d s : ByteArray) (A B : Int) (F : List ByteArray) (h b : Int) (x y : Nat) (hok : signerOk d s A B F h b = true) (hx : x < 2147483647) (hy : y < 2147483647) :
    (frontT d s F h b x y).data.toList.all Pl.lb = true ∧ (frontT d s F h b x y).size ≤ 3000 := by
  unfold signerOk at hok
  simp only [Bool.and_eq_true, decide_eq_true_eq] at hok
  obtain ⟨h1, h2, -, -, -, h6, h7, h8⟩ := hok
  have a1 := Pl.dom_lb _ h1
  have a2 : s.data.toList.all Pl.lb = true ∧ s.size ≤ 60 := by
    unfold Pl.selOk at h2
    simp only [Bool.and_eq_true, decide_eq_true_eq] at h2
    have e : s.data.toList.length = s.size := by simp
    exact ⟨Pl.all_imp _ _ _ Pl.sel_lb h2.2.2, by rw [← e]; exact h2.2.1⟩
  have a3 := jc_lb F h8
  have a4 := jc_len F (name_size F h8)
  have f1 := form_lb h
  have f2 := form_lb b
  have s1 := sumT_lb x y
  have s2 := sumT_sz x y hx hy
  have ed : d.data.toList.length = d.size := by simp
  unfold frontT
  constructor
  · simp only [ByteArray.data_append, Array.toList_append, List.all_append, a1.1, a2.1, a3, f1.1, f2.1, s1]
    decide
  · have e1 : (⟨(jc F).toArray⟩ : ByteArray).size = (jc F).length := by show ((jc F).toArray).size = _; rw [List.size_toArray]
    simp only [ByteArray.size_append]
    rw [e1]
    show 3 + d.size + 4 + s.size + 4 + (formT h).size + 1 + (formT b).size + 4 + _ + 4 + _ + 4 ≤ 3000
    omega
/-- The field that is put ahead. -/
def sgName : ByteArray := ⟨#[83, 105, 103, 110, 97, 116, 117, 114, 101]⟩
set_option maxRecDepth 20000 in
theorem own_hd (v : ByteArray) (hv : v.data.toList.all Pl.lb = true) (hs : v.size ≤ 4000) : Pl.hd [] [(sgName, v)] = Pl.line (sgName, v) := by
  have ok : Pl.okF (sgName, v) = true := Pl.okF_mk _ (by show v.size ≤ 100000; omega) (by show Pl.nameOk sgName.data.toList = true; decide) (Pl.val_same _ hv)
  have hl := Pl.line_len (sgName, v)
  have e : sgName.size = 9 := rfl
  rw [Pl.hd, if_pos ok, if_neg (by rw [List.nil_append, hl]; show ¬ 100000 < sgName.size + v.size + 3; omega)]
  rfl
set_option maxRecDepth 20000 in
theorem own_hd_ne (v : ByteArray) (hv : v.data.toList.all Pl.lb = true) (hs : v.size ≤ 4000) : ¬ Pl.hd [] [(sgName, v)] = [] := by
  rw [own_hd v hv hs]
  intro h
  have := congrArg List.length h
  rw [Pl.line_len] at this
  simp at this
/-- The own field as it is signed, but for its line end. -/
def ownB (v : ByteArray) (h : Int) : ByteArray := (canonF sgName v h).extract 0 ((canonF sgName v h).size - 2)
set_option maxRecDepth 20000 in
theorem own_form (v : ByteArray) (h : Int) (hv : v.data.toList.all Pl.lb = true) (hs : v.size ≤ 4000) (hh : h = 0 ∨ h = 1) :
    ∃ p : ByteArray, canonF sgName v h = p ++ ⟨#[13, 10]⟩ ∧ p.size ≤ 5000 := by
  have e : sgName.size = 9 := rfl
  have hc := canonF_size sgName v h
  unfold fsz at hc
  have key : ∃ p : ByteArray, canonF sgName v h = p ++ ⟨#[13, 10]⟩ := by
    unfold canonF
    rw [if_neg (own_hd_ne v hv hs)]
    rcases hh with rfl | rfl
    · rw [if_pos rfl]; exact ⟨_, rfl⟩
    · rw [if_neg (by omega), if_pos rfl]; exact ⟨_, rfl⟩
  obtain ⟨p, hp⟩ := key
  refine ⟨p, hp, ?_⟩
  rw [hp, ByteArray.size_append] at hc
  simp only [e] at hc
  omega
set_option maxRecDepth 20000 in
theorem own_cut (p : ByteArray) : (p ++ (⟨#[13, 10]⟩ : ByteArray)).extract 0 ((p ++ (⟨#[13, 10]⟩ : ByteArray)).size - 2) = p := by
  have e : (p ++ (⟨#[13, 10]⟩ : ByteArray)).size - 2 = p.size := by
    rw [ByteArray.size_append]; show p.size + 2 - 2 = _; omega
  rw [e]
  apply ByteArray.ext
  apply Array.toList_inj.1
  rw [Pl.ext_data]
  simp
end Go.Proofs.YtgabjiamabbheaaGreatDoor
