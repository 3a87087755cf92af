
/- The tokens of a written date. -/
import Derived.Test.YtacmhofekdjobaaGreatDoorDateDays
import Derived.Test.YtacmhofekdjobaaGreatDoorDateWeekNo
namespace Go.Proofs.YtacmhofekdjobaaGreatDoor
open Go.RowKit Go.Lib
/-- A token with the blanks ahead of it. -/
structure Pc where
  bl : List UInt8
  kind : Nat
  text : List UInt8
def flatP : List Pc → List UInt8
  | [] => []
  | p :: r => p.bl ++ (p.text ++ flatP r)
def tkP (n : Nat) : List Pc → List Tk
  | [] => []
  | p :: r => ⟨p.kind, ⟨p.text.toArray⟩, n + p.bl.length⟩ :: tkP (n + p.bl.length + p.text.length) r
def headOk (l : List UInt8) : Bool := match l with | [] => true | c :: _ => !Pl.atom c
def pcOk (p : Pc) (r : List UInt8) : Bool := p.bl.all Pl.blank && ((decide (p.kind = 1) && (decide (0 < p.text.length) && (p.text.all Pl.atom && headOk r))) || (decide (p.kind = 5) && (p.text == [44] || p.text == [58])))
def okP : List Pc → Bool
  | [] => true
  | p :: r => pcOk p (flatP r) && okP r
set_option maxRecDepth 20000 in
theorem getD_mid (a x c : List UInt8) (j : Nat) (h1 : a.length ≤ j) (h2 : j < a.length + x.length) : Pl.b (a ++ (x ++ c)) j = x[j - a.length]'(by omega) := by
  unfold Pl.b
  rw [List.getD_eq_getElem?_getD, List.getElem?_append_right h1, List.getElem?_append_left (by omega), List.getElem?_eq_getElem (by omega), Option.getD_some]
set_option maxRecDepth 20000 in
theorem stop_mid (K : UInt8 → Bool) (a x c : List UInt8) (hx : x.all K = true) (hc : ∀ d r, c = d :: r → K d = false) : Pl.stop K (a ++ (x ++ c)) a.length = a.length + x.length := by
  refine Pl.stop_eq K _ _ _ (by omega) (by simp) ?_ ?_
  · intro j h1 h2
    rw [getD_mid a x c j h1 h2]
    exact (List.all_eq_true.1 hx) _ (List.getElem_mem _)
  · intro h
    cases c with
    | nil => simp at h
    | cons d r =>
      unfold Pl.b
      rw [List.getD_eq_getElem?_getD, List.getElem?_append_right (by omega), List.getElem?_append_right (by omega), show a.length + x.length - a.length - x.length = 0 by omega, List.getElem?_cons_zero, Option.getD_some]
      exact hc d r rfl
set_option maxRecDepth 20000 in
theorem atom_noblank : ∀ n : Fin 256, Pl.atom (UInt8.ofNat n.val) = true → Pl.blank (UInt8.ofNat n.val) = false := by decide +kernel
set_option maxRecDepth 20000 in
theorem atom_nb (c : UInt8) (h : Pl.atom c = true) : Pl.blank c = false := by
  have := atom_noblank ⟨c.toNat, UInt8.toNat_lt c⟩
  simp only [UInt8.ofNat_toNat] at this
  exact this h
set_option maxRecDepth 20000 in
theorem extract_mid (s : ByteArray) (a x c : List UInt8) (hs : s.data.toList = a ++ (x ++ c)) : s.extract a.length (a.length + x.length) = ⟨x.toArray⟩ := by
  apply ByteArray.ext
  rw [ByteArray.data_extract]
  apply Array.toList_inj.1
  rw [Array.toList_extract, hs]
  simp [List.extract_eq_take_drop]
set_option maxRecDepth 20000 in
theorem at_mid (s : ByteArray) (a : List UInt8) (d : UInt8) (r : List UInt8) (hs : s.data.toList = a ++ d :: r) (h : a.length < s.size) : s[a.length] = d := by
  have : s.data.toList[a.length]? = some d := by rw [hs]; simp
  have h2 : a.length < s.data.toList.length := by simpa using h
  rw [List.getElem?_eq_getElem h2, Option.some_inj] at this
  exact this
set_option maxRecDepth 20000 in
theorem toks_pieces (s : ByteArray) : ∀ (P : List Pc) (pre : List UInt8), s.data.toList = pre ++ flatP P → okP P = true → Toks s pre.length (tkP pre.length P)
  | [], pre, hs, _ => by
    have hl : s.size = pre.length := by
      have := congrArg List.length hs
      simpa [flatP] using this
    refine .nil _ (.fin ?_)
    have := stop_mid Pl.blank pre [] [] rfl (fun _ _ h => by cases h)
    rw [hs, flatP]
    simp only [List.append_nil, List.length_nil, Nat.add_zero] at this ⊢
    rw [this, hl]
  | p :: r, pre, hs, hok => by
    rw [okP, Bool.and_eq_true] at hok
    obtain ⟨h1, h2⟩ := hok
    rw [pcOk, Bool.and_eq_true, Bool.or_eq_true] at h1
    obtain ⟨hbl, hk⟩ := h1
    rw [flatP] at hs
    have hl : s.size = pre.length + (p.bl.length + (p.text.length + (flatP r).length)) := by
      have := congrArg List.length hs
      simpa using this
    have ht : 0 < p.text.length := by
      rcases hk with hk | hk
      · simp only [Bool.and_eq_true, decide_eq_true_eq] at hk
        exact hk.2.1
      · simp only [Bool.and_eq_true, Bool.or_eq_true, beq_iff_eq] at hk
        rcases hk.2 with e | e <;> rw [e] <;> decide
    obtain ⟨c, tr, hct⟩ : ∃ c tr, p.text = c :: tr := by
      cases h : p.text with
      | nil => rw [h] at ht; simp at ht
      | cons c tr => exact ⟨c, tr, rfl⟩
    have hs2 : s.data.toList = (pre ++ p.bl) ++ (p.text ++ flatP r) := by rw [hs, List.append_assoc]
    have hs3 : s.data.toList = (pre ++ p.bl) ++ c :: (tr ++ flatP r) := by rw [hs2, hct]; rfl
    have hs4 : s.data.toList = (pre ++ p.bl ++ p.text) ++ flatP r := by rw [hs2, ← List.append_assoc]
    have hcnb : Pl.blank c = false := by
      rcases hk with hk | hk
      · simp only [Bool.and_eq_true, decide_eq_true_eq, hct, List.all_cons] at hk
        exact atom_nb c hk.2.2.1.1
      · simp only [Bool.and_eq_true, Bool.or_eq_true, beq_iff_eq, hct] at hk
        rcases hk.2 with e | e <;> injection e with e _ <;> subst e <;> decide
    have hst : Pl.stop Pl.blank s.data.toList pre.length = (pre ++ p.bl).length := by
      rw [hs, stop_mid Pl.blank pre p.bl _ hbl (fun d q h => by rw [hct] at h; injection h with h _; rw [← h]; exact hcnb), List.length_append]
    have hz : (pre ++ p.bl).length < s.size := by rw [hl, List.length_append]; omega
    have hat := at_mid s (pre ++ p.bl) c _ hs3 hz
    have hrec := toks_pieces s r (pre ++ p.bl ++ p.text) hs4 h2
    have hlen : (pre ++ p.bl ++ p.text).length = pre.length + p.bl.length + p.text.length := by simp [Nat.add_assoc]
    rw [hlen] at hrec
    rcases hk with hk | hk
    · simp only [Bool.and_eq_true, decide_eq_true_eq] at hk
      obtain ⟨e1, _, e3, e4⟩ := hk
      have hstop : Pl.stop Pl.atom s.data.toList (pre ++ p.bl).length = pre.length + p.bl.length + p.text.length := by
        rw [hs2, stop_mid Pl.atom (pre ++ p.bl) p.text _ e3 (fun d q h => by rw [h, headOk] at e4; simpa using e4), List.length_append]
      have hA := Step.atom (s := s) (a := pre.length) (pre ++ p.bl).length hst hz (by rw [hat]; rw [hct, List.all_cons, Bool.and_eq_true] at e3; exact e3.1)
      rw [hstop] at hA
      rw [show s.extract (pre ++ p.bl).length (pre.length + p.bl.length + p.text.length) = ⟨p.text.toArray⟩ by
        rw [← extract_mid s (pre ++ p.bl) p.text (flatP r) hs2, List.length_append]] at hA
      rw [tkP, e1]
      rw [List.length_append] at hA
      exact .cons _ _ _ _ hA (by omega) (by omega) hrec
    · simp only [Bool.and_eq_true, Bool.or_eq_true, beq_iff_eq, decide_eq_true_eq] at hk
      obtain ⟨e1, e2⟩ := hk
      have hone : p.text.length = 1 := by rcases e2 with e | e <;> rw [e] <;> rfl
      have hA := Step.spec (s := s) (a := pre.length) (pre ++ p.bl).length hst hz (by
        rw [hat]
        rcases e2 with e | e <;> rw [hct] at e <;> injection e with e _ <;> subst e <;> simp)
      have hx := extract_mid s (pre ++ p.bl) p.text (flatP r) hs2
      rw [hone] at hx
      rw [hx, List.length_append] at hA
      rw [hone] at hrec
      rw [tkP, e1, hone]
      exact .cons _ _ _ _ hA (by omega) (by omega) hrec
end Go.Proofs.YtacmhofekdjobaaGreatDoor
