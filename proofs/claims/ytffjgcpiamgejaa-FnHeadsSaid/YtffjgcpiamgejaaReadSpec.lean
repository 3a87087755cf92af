
/- The walk of the model's ReadHead. -/
import Derived.Test.YtffjgcpiamgejaaOwnF
import Derived.Deep.CutBlock
import Derived.Deep.DeepCutAuto
namespace Go.Proofs.Ytffjgcpiamgejaa
open Go.RowKit Go.Lib
structure HR where
  code : Nat
  at_ : Nat
  body : Nat
  fields : List Fl
namespace Pl
/-- A head, read from a place on, behind the fields that are read. -/
def rd (l : List UInt8) : Nat → Nat → List Fl → HR
  | 0, _, _ => ⟨0, 0, 0, []⟩
  | f + 1, k, fs =>
    if l.length ≤ k then ⟨0, 0, l.length, fs⟩ else if crlf l k then ⟨0, 0, k + 2, fs⟩ else
    match implF l k with
    | .inl p => ⟨3, p, 0, []⟩
    | .inr (n, v, x) => if fs.length = 200 then ⟨4, k, 0, []⟩ else rd l f x (fs ++ [(n, v)])
def readHead (l : List UInt8) : HR := rd l (l.length + 1) 0 []
theorem rd_end (l : List UInt8) (k : Nat) (fs : List Fl) (R : HR) (h : l.length ≤ k) (hr : ∃ g, l.length + 1 ≤ g + k ∧ rd l g k fs = R) (hk : k ≤ l.length) : R = ⟨0, 0, l.length, fs⟩ := by
  obtain ⟨g, h1, h2⟩ := hr
  obtain ⟨g', rfl⟩ : ∃ g', g = g' + 1 := ⟨g - 1, by omega⟩
  rw [rd, if_pos h] at h2
  exact h2.symm
theorem rd_crlf (l : List UInt8) (k : Nat) (fs : List Fl) (R : HR) (h : k < l.length) (hc : crlf l k = true) (hr : ∃ g, l.length + 1 ≤ g + k ∧ rd l g k fs = R) : R = ⟨0, 0, k + 2, fs⟩ := by
  obtain ⟨g, h1, h2⟩ := hr
  obtain ⟨g', rfl⟩ : ∃ g', g = g' + 1 := ⟨g - 1, by omega⟩
  rw [rd, if_neg (by omega), if_pos hc] at h2
  exact h2.symm
theorem rd_fault (l : List UInt8) (k p : Nat) (fs : List Fl) (R : HR) (h : k < l.length) (hc : crlf l k = false) (hf : implF l k = .inl p) (hr : ∃ g, l.length + 1 ≤ g + k ∧ rd l g k fs = R) : R = ⟨3, p, 0, []⟩ := by
  obtain ⟨g, h1, h2⟩ := hr
  obtain ⟨g', rfl⟩ : ∃ g', g = g' + 1 := ⟨g - 1, by omega⟩
  rw [rd, if_neg (by omega), if_neg (by rw [hc]; simp), hf] at h2
  exact h2.symm
theorem rd_many (l : List UInt8) (k x : Nat) (n v : List UInt8) (fs : List Fl) (R : HR) (h : k < l.length) (hc : crlf l k = false) (hf : implF l k = .inr (n, v, x)) (hl : fs.length = 200) (hr : ∃ g, l.length + 1 ≤ g + k ∧ rd l g k fs = R) : R = ⟨4, k, 0, []⟩ := by
  obtain ⟨g, h1, h2⟩ := hr
  obtain ⟨g', rfl⟩ : ∃ g', g = g' + 1 := ⟨g - 1, by omega⟩
  rw [rd, if_neg (by omega), if_neg (by rw [hc]; simp), hf] at h2
  simp only [hl, if_true] at h2
  exact h2.symm
theorem rd_step (l : List UInt8) (k x : Nat) (n v : List UInt8) (fs : List Fl) (R : HR) (h : k < l.length) (hc : crlf l k = false) (hf : implF l k = .inr (n, v, x)) (hx : k < x) (hl : fs.length ≠ 200) (hr : ∃ g, l.length + 1 ≤ g + k ∧ rd l g k fs = R) :
    ∃ g, l.length + 1 ≤ g + x ∧ rd l g x (fs ++ [(n, v)]) = R := by
  obtain ⟨g, h1, h2⟩ := hr
  obtain ⟨g', rfl⟩ : ∃ g', g = g' + 1 := ⟨g - 1, by omega⟩
  rw [rd, if_neg (by omega), if_neg (by rw [hc]; simp), hf] at h2
  simp only [hl, if_false] at h2
  exact ⟨g', by omega, h2⟩
theorem nx_lt (l : List UInt8) (k : Nat) (hk : k < l.length) : k < nx l (fe l k) ∧ nx l (fe l k) ≤ l.length := by
  have h0 := first_ge (fun j => crlf l j && !fold l j) l.length k (by omega)
  have h1 := first_le (fun j => crlf l j && !fold l j) l.length k (by omega)
  have h2 := first_is (fun j => crlf l j && !fold l j) l.length k (by omega)
  change k ≤ fe l k at h0
  change fe l k ≤ _ at h1
  change fe l k < _ → (crlf l (fe l k) && !fold l (fe l k)) = true at h2
  unfold nx
  split
  · rename_i h
    have h3 := h2 h
    rw [Bool.and_eq_true] at h3
    have := (crlf_b l _ h3.1).2.2
    omega
  · omega
end Pl
namespace Pl
theorem nx_cases (l : List UInt8) (E : Nat) (h : nx l E < l.length) : E < l.length ∧ nx l E = E + 2 := by
  unfold nx at h ⊢
  split
  · rename_i h1; exact ⟨h1, rfl⟩
  · rename_i h1; rw [if_neg h1] at h; omega
theorem fe_on (l : List UInt8) (E : Nat) (hN : nx l E < l.length) (hc : E < l.length → crlf l E = true) (hb : blank (b l (nx l E)) = true) : fe l E = fe l (nx l E) := by
  obtain ⟨h1, h2⟩ := nx_cases l E hN
  rw [h2] at hN hb ⊢
  have hcr := hc h1
  have hf : fold l E = true := by
    unfold fold
    rw [hcr, blankAt_lt l (E + 2) hN, ← b_lt l (E + 2) hN, hb]; rfl
  refine first_skip _ _ _ _ (by omega) (by omega) (fun j h3 h4 => ?_)
  by_cases hj : j = E
  · rw [hj, hf, Bool.not_true, Bool.and_false]
  · rw [show j = E + 1 by omega, no_crlf l (E + 1) (by rw [(crlf_b l E hcr).2.1]; decide)]; rfl
theorem fe_le (l : List UInt8) (N : Nat) (h : N ≤ l.length) : fe l N = fe l (le l N) :=
  first_skip _ _ _ _ (first_ge _ _ _ h) (first_le _ _ _ h) (fun j h1 h2 => by rw [first_none (crlf l) l.length N h j h1 h2]; rfl)
theorem fe_stop (l : List UInt8) (E : Nat) (hE : E ≤ l.length) (hc : E < l.length → crlf l E = true) (hb : nx l E < l.length → blank (b l (nx l E)) = false) : fe l E = E := by
  by_cases h : E < l.length
  · refine first_hit _ _ _ ?_
    have hcr := hc h
    rw [hcr, Bool.true_and, Bool.not_eq_true']
    have hnx : nx l E = E + 2 := by unfold nx; rw [if_pos h]
    rw [hnx] at hb
    unfold fold
    rw [hcr, Bool.true_and]
    by_cases h2 : E + 2 < l.length
    · rw [blankAt_lt l _ h2, ← b_lt l _ h2]; exact hb h2
    · exact blankAt_ge l _ (by omega)
  · exact first_end _ _ _ (by omega)
theorem le_facts (l : List UInt8) (N : Nat) (h : N ≤ l.length) : N ≤ le l N ∧ le l N ≤ l.length ∧ (le l N < l.length → crlf l (le l N) = true) := ⟨first_ge _ _ _ h, first_le _ _ _ h, first_is (crlf l) _ _ h⟩
theorem nx_facts (l : List UInt8) (N : Nat) (h : N < l.length) : N < nx l (le l N) ∧ nx l (le l N) ≤ l.length := by
  obtain ⟨h1, h2, h3⟩ := le_facts l N (by omega)
  unfold nx
  split
  · rename_i h4
    have := (crlf_b l _ (h3 h4)).2.2
    omega
  · omega
end Pl
namespace Pl
theorem trimR_front (t : ByteArray) (h : 0 < t.size) (hb : blank t[t.size - 1] = true) : trimR (t.extract 0 (t.size - 1)).data.toList = trimR t.data.toList := by
  have e : t.data.toList = t.data.toList.take (t.size - 1) ++ [t[t.size - 1]] := by
    have := List.take_append_drop (t.size - 1) t.data.toList
    rw [drop_cons _ _ (by simp; omega), List.drop_eq_nil_of_le (by simp; omega)] at this
    exact this.symm
  rw [ext_take]
  generalize t[t.size - 1] = c at e hb
  generalize t.data.toList.take (t.size - 1) = q at e ⊢
  rw [e]
  unfold trimR
  rw [List.reverse_append, List.reverse_singleton, List.singleton_append, List.dropWhile_cons_of_pos hb]
theorem trimR_last (t : ByteArray) (h : 0 < t.size) (hb : blank t[t.size - 1] = false) : trimR t.data.toList = t.data.toList := by
  have e : t.data.toList = t.data.toList.take (t.size - 1) ++ [t[t.size - 1]] := by
    have := List.take_append_drop (t.size - 1) t.data.toList
    rw [drop_cons _ _ (by simp; omega), List.drop_eq_nil_of_le (by simp; omega)] at this
    exact this.symm
  have := trimR_app t.data.toList [] rfl (fun x hx => by
    rw [e] at hx
    simp only [List.getLast?_append, List.getLast?_singleton, Option.some_or, Option.mem_some_iff] at hx
    rw [← hx]; exact hb)
  simpa using this
theorem trimR_none (t : ByteArray) (h : t.size = 0) : trimR t.data.toList = t.data.toList := by
  have : t.data.toList = [] := List.length_eq_zero_iff.1 (by rw [len_list]; exact h)
  rw [this]; rfl
end Pl
theorem OwnF.shape {B : Nat} {v : Value} {F : List Fl} {w : World} (h : OwnF B v F w) : ∃ o cap, v = .slice o F.length cap := by
  rcases h.form with ⟨rfl, rfl⟩ | ⟨g, cap, rfl⟩
  · exact ⟨none, 0, rfl⟩
  · exact ⟨_, cap, rfl⟩
theorem txt_eta (t : ByteArray) : txt t.data.toList = .string t := by unfold txt; simp
/-- The result's variable: its four cells. -/
theorem res_cells {w : World} {g : Nat} {a b c d : Value} {t : TypeId} (h : w.heap[g]? = some (.cells #[a, b, c, d] t (0, 0))) :
    (w.cell? ⟨g, 0, none⟩ = some a ∧ w.cell? ⟨g, 1, none⟩ = some b ∧ w.cell? ⟨g, 2, none⟩ = some c ∧ w.cell? ⟨g, 3, none⟩ = some d) ∧
    w.frozen? ⟨g, 0, none⟩ = false ∧ w.frozen? ⟨g, 1, none⟩ = false ∧ w.frozen? ⟨g, 2, none⟩ = false ∧ w.frozen? ⟨g, 3, none⟩ = false := by
  refine ⟨⟨?_, ?_, ?_, ?_⟩, ?_, ?_, ?_, ?_⟩ <;> simp [World.cell?, World.frozen?, h]
theorem OwnF.setOther {B : Nat} {v : Value} {F : List Fl} {w : World} (h : OwnF B v F w) (a : Addr) (u : Value) (hne : v.ownBlock ≠ some a.block) : OwnF B v F (w.setCell a u) := by
  obtain ⟨h1, h2⟩ := h
  refine ⟨h1, ?_⟩
  rcases h2 with h2 | ⟨g, cap, cur, e1, e2, e3, e4⟩
  · exact .inl h2
  · refine .inr ⟨g, cap, cur, e1, e2, ?_, e4⟩
    rw [Below.heap_setCell w a u g (fun e => hne (by rw [e1, ← e]; rfl))]
    exact e3
theorem Try.info32 : (Try.prog.info? 28).map (fun i => i.size) = some 4 := by kernel_rfl
end Go.Proofs.Ytffjgcpiamgejaa
