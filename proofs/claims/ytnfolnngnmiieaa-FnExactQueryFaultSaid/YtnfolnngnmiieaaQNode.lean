
/- The program's test of a query's node. (By a program in session 15.) -/
import Derived.Test.YtnfolnngnmiieaaQDepth
import Derived.Test.YtnfolnngnmiieaaImplFlagFault
namespace Go.Proofs.Ytnfolnngnmiieaa
open Go.RowKit Go.Lib Go.Maps
set_option linter.unusedVariables false
namespace St
def within (z a b : Int) : Bool := decide (a ≤ z) && decide (z ≤ b)
end St
theorem implFromTo (z a b : Int) (w : World) : Calls Try.prog 33 #[.int .i64 z, .int .i64 a, .int .i64 b] w fun e w' => e = .returned (.bool (St.within z a b)) ∧ w = w' := by
  unfold St.within
  cases h1 : decide (a ≤ z) <;> cases h2 : decide (z ≤ b)
  all_goals
    go_enter Try.func33, Try.ntmps33
    go_wp2
    go_ret
    exact ⟨rfl, rfl⟩
namespace Qu
def qb (c : UInt8) : Bool := decide (33 ≤ c.toNat) && (decide (c.toNat ≤ 126) && (!(c.toNat == 34) && (!(c.toNat == 40) && !(c.toNat == 41))))
def bNum (k : Int) : Int := if k = 7 ∨ k = 8 ∨ k = 9 then 2932896 else if k = 10 ∨ k = 11 ∨ k = 13 then 9999999999 else 0
def bText (k : Int) : Int := if k = 4 ∨ k = 5 ∨ k = 6 then 200 else 0
def bLeast (k : Int) : Int := if k = 14 then 1 else if k = 15 then 2 else if k = 16 then 2 else 0
def bMost (k : Int) : Int := if k = 14 then 1 else if k = 15 then 2 else if k = 16 then 100 else 0
theorem indexByte_none_iff (l : List UInt8) (c : UInt8) : indexByte l c = -1 ↔ c ∉ l := by
  induction l with
  | nil => simp [indexByte]
  | cons b r ih =>
    have hg := indexByte_ge r c
    unfold indexByte
    by_cases hb : b = c
    · rw [if_pos (by simpa using hb)]
      simp [hb]
    · rw [if_neg (by simpa using hb)]
      by_cases hr : indexByte r c = -1
      · rw [if_pos (by simpa using hr)]
        have := ih.1 hr
        simp [this]
        exact fun e => hb e.symm
      · rw [if_neg (by simpa using hr)]
        constructor
        · intro h; omega
        · intro h
          exfalso
          exact hr (ih.2 (fun hm => h (List.mem_cons_of_mem _ hm)))
theorem noB_iff (t : ByteArray) (c : UInt8) : noB t c = t.data.toList.all (fun x => !(x == c)) := by
  unfold noB
  rw [ix_zero]
  rw [Bool.eq_iff_iff]
  have hg := indexByte_ge t.data.toList c
  constructor
  · intro h
    have h' : indexByte t.data.toList c = -1 := by simp at h; omega
    rw [List.all_eq_true]
    intro x hx
    have := (indexByte_none_iff t.data.toList c).1 h'
    simp
    intro e
    exact this (e ▸ hx)
  · intro h
    rw [List.all_eq_true] at h
    have : indexByte t.data.toList c = -1 := (indexByte_none_iff t.data.toList c).2 (fun hm => by have := h c hm; simp at this)
    rw [this]
    rfl
theorem qb_iff (c : UInt8) (h : Pl.nb c = true) : qb c = (!(c == 34) && (!(c == 40) && !(c == 41))) := by
  unfold Pl.nb at h
  simp only [Bool.and_eq_true, decide_eq_true_eq] at h
  have e : ∀ (a : UInt8), (c == a) = (c.toNat == a.toNat) := fun a => by
    rw [Bool.eq_iff_iff]
    simp only [beq_iff_eq]
    exact ⟨fun h => by rw [h], fun h => UInt8.toNat_inj.1 h⟩
  unfold qb
  rw [decide_eq_true h.1, decide_eq_true h.2.1, e 34, e 40, e 41]
  rfl
theorem name_eq (t : ByteArray) : name t = (Pl.nameOk t.data.toList && t.data.toList.all qb) := by
  unfold name
  rw [noB_iff, noB_iff, noB_iff]
  cases hn : Pl.nameOk t.data.toList
  · rfl
  · rw [Bool.true_and, Bool.true_and]
    have hall : ∀ c ∈ t.data.toList, Pl.nb c = true := by
      unfold Pl.nameOk at hn
      simp only [Bool.and_eq_true] at hn
      exact List.all_eq_true.1 hn.2.2
    revert hall
    generalize t.data.toList = l
    intro hall
    induction l with
    | nil => rfl
    | cons c r ih =>
      have := ih (fun x hx => hall x (List.mem_cons_of_mem _ hx))
      simp only [List.all_cons]
      rw [← this, qb_iff c (hall c (List.mem_cons_self ..))]
      generalize r.all (fun x => !(x == 34)) = p
      generalize r.all (fun x => !(x == 40)) = q
      generalize r.all (fun x => !(x == 41)) = s
      generalize (c == 34) = x
      generalize (c == 40) = y
      generalize (c == 41) = z
      cases x <;> cases y <;> cases z <;> cases p <;> cases q <;> cases s <;> rfl
theorem emp_size (t : ByteArray) : emp t = decide ((t.size : Int) ≤ 0) := by
  unfold emp
  rw [ByteArray.toList_eq, Bool.eq_iff_iff]
  simp only [beq_iff_eq, decide_eq_true_eq]
  constructor
  · intro h
    have : t.data.toList.length = 0 := by rw [h]; rfl
    have e : t.size = t.data.toList.length := by simp
    omega
  · intro h
    exact List.length_eq_zero_iff.1 (by have e : t.size = t.data.toList.length := by simp
                                        omega)
theorem text_eq (n : GQueryNode) (k : Int) : (parts n k).2.1 = decide ((n.text.size : Int) ≤ bText k) := by
  show (if k = 4 ∨ k = 5 ∨ k = 6 then decide (n.text.size ≤ 200) else emp n.text) = _
  unfold bText
  split
  · rw [Bool.eq_iff_iff]; simp; omega
  · exact emp_size _
theorem num_eq (n : GQueryNode) (k : Int) : (parts n k).2.2.1 = St.within n.num 0 (bNum k) := by
  show (if k = 7 ∨ k = 8 ∨ k = 9 then decide (0 ≤ n.num) && decide (n.num ≤ 2932896) else if k = 10 ∨ k = 11 ∨ k = 13 then decide (0 ≤ n.num) && decide (n.num ≤ 9999999999) else (n.num == 0)) = _
  unfold bNum St.within
  split
  · rfl
  · split
    · rfl
    · rw [Bool.eq_iff_iff]; simp; omega
theorem kids_eq (n : GQueryNode) (k : Int) (h : n.kids.length ≤ 100) : (parts n k).2.2.2.2 = (decide (bLeast k ≤ (n.kids.length : Int)) && decide ((n.kids.length : Int) ≤ bMost k)) := by
  show (if k = 14 then decide (n.kids.length = 1) else if k = 15 then decide (n.kids.length = 2) else if k = 16 then decide (2 ≤ n.kids.length) else decide (n.kids.length = 0)) = _
  unfold bLeast bMost
  split
  · rw [Bool.eq_iff_iff]; simp; omega
  · split
    · rw [Bool.eq_iff_iff]; simp; omega
    · split
      · rw [Bool.eq_iff_iff]; simp; omega
      · rw [Bool.eq_iff_iff]; simp
end Qu
theorem implQB1 (w : World) : Calls Try.prog 36 #[.int .i64 1] w fun e w' => e = .returned (.agg #[.int .i64 0, .int .i64 0, .int .i64 0, .int .i64 0]) ∧ Below w.heap.size w w' := by
  go_enter Try.func36, Try.ntmps36
  go_wp2
  refine bodyPost_ret (v := .agg #[.int .i64 0, .int .i64 0, .int .i64 0, .int .i64 0]) (by simp [results, Try.results36, go_sem]) rfl ⟨rfl, (Below.refl _ _).alloc (Nat.le_refl _) _⟩
theorem implQB2 (w : World) : Calls Try.prog 36 #[.int .i64 2] w fun e w' => e = .returned (.agg #[.int .i64 0, .int .i64 0, .int .i64 0, .int .i64 0]) ∧ Below w.heap.size w w' := by
  go_enter Try.func36, Try.ntmps36
  go_wp2
  refine bodyPost_ret (v := .agg #[.int .i64 0, .int .i64 0, .int .i64 0, .int .i64 0]) (by simp [results, Try.results36, go_sem]) rfl ⟨rfl, (Below.refl _ _).alloc (Nat.le_refl _) _⟩
theorem implQB3 (w : World) : Calls Try.prog 36 #[.int .i64 3] w fun e w' => e = .returned (.agg #[.int .i64 0, .int .i64 0, .int .i64 0, .int .i64 0]) ∧ Below w.heap.size w w' := by
  go_enter Try.func36, Try.ntmps36
  go_wp2
  refine bodyPost_ret (v := .agg #[.int .i64 0, .int .i64 0, .int .i64 0, .int .i64 0]) (by simp [results, Try.results36, go_sem]) rfl ⟨rfl, (Below.refl _ _).alloc (Nat.le_refl _) _⟩
theorem implQB4 (w : World) : Calls Try.prog 36 #[.int .i64 4] w fun e w' => e = .returned (.agg #[.int .i64 0, .int .i64 200, .int .i64 0, .int .i64 0]) ∧ Below w.heap.size w w' := by
  go_enter Try.func36, Try.ntmps36
  go_wp2
  refine bodyPost_ret (v := .agg #[.int .i64 0, .int .i64 200, .int .i64 0, .int .i64 0]) (by simp [results, Try.results36, go_sem]) rfl ⟨rfl, (Below.refl _ _).alloc (Nat.le_refl _) _⟩
theorem implQB5 (w : World) : Calls Try.prog 36 #[.int .i64 5] w fun e w' => e = .returned (.agg #[.int .i64 0, .int .i64 200, .int .i64 0, .int .i64 0]) ∧ Below w.heap.size w w' := by
  go_enter Try.func36, Try.ntmps36
  go_wp2
  refine bodyPost_ret (v := .agg #[.int .i64 0, .int .i64 200, .int .i64 0, .int .i64 0]) (by simp [results, Try.results36, go_sem]) rfl ⟨rfl, (Below.refl _ _).alloc (Nat.le_refl _) _⟩
theorem implQB6 (w : World) : Calls Try.prog 36 #[.int .i64 6] w fun e w' => e = .returned (.agg #[.int .i64 0, .int .i64 200, .int .i64 0, .int .i64 0]) ∧ Below w.heap.size w w' := by
  go_enter Try.func36, Try.ntmps36
  go_wp2
  refine bodyPost_ret (v := .agg #[.int .i64 0, .int .i64 200, .int .i64 0, .int .i64 0]) (by simp [results, Try.results36, go_sem]) rfl ⟨rfl, (Below.refl _ _).alloc (Nat.le_refl _) _⟩
theorem implQB7 (w : World) : Calls Try.prog 36 #[.int .i64 7] w fun e w' => e = .returned (.agg #[.int .i64 2932896, .int .i64 0, .int .i64 0, .int .i64 0]) ∧ Below w.heap.size w w' := by
  go_enter Try.func36, Try.ntmps36
  go_wp2
  refine bodyPost_ret (v := .agg #[.int .i64 2932896, .int .i64 0, .int .i64 0, .int .i64 0]) (by simp [results, Try.results36, go_sem]) rfl ⟨rfl, (Below.refl _ _).alloc (Nat.le_refl _) _⟩
theorem implQB8 (w : World) : Calls Try.prog 36 #[.int .i64 8] w fun e w' => e = .returned (.agg #[.int .i64 2932896, .int .i64 0, .int .i64 0, .int .i64 0]) ∧ Below w.heap.size w w' := by
  go_enter Try.func36, Try.ntmps36
  go_wp2
  refine bodyPost_ret (v := .agg #[.int .i64 2932896, .int .i64 0, .int .i64 0, .int .i64 0]) (by simp [results, Try.results36, go_sem]) rfl ⟨rfl, (Below.refl _ _).alloc (Nat.le_refl _) _⟩
theorem implQB9 (w : World) : Calls Try.prog 36 #[.int .i64 9] w fun e w' => e = .returned (.agg #[.int .i64 2932896, .int .i64 0, .int .i64 0, .int .i64 0]) ∧ Below w.heap.size w w' := by
  go_enter Try.func36, Try.ntmps36
  go_wp2
  refine bodyPost_ret (v := .agg #[.int .i64 2932896, .int .i64 0, .int .i64 0, .int .i64 0]) (by simp [results, Try.results36, go_sem]) rfl ⟨rfl, (Below.refl _ _).alloc (Nat.le_refl _) _⟩
theorem implQB10 (w : World) : Calls Try.prog 36 #[.int .i64 10] w fun e w' => e = .returned (.agg #[.int .i64 9999999999, .int .i64 0, .int .i64 0, .int .i64 0]) ∧ Below w.heap.size w w' := by
  go_enter Try.func36, Try.ntmps36
  go_wp2
  refine bodyPost_ret (v := .agg #[.int .i64 9999999999, .int .i64 0, .int .i64 0, .int .i64 0]) (by simp [results, Try.results36, go_sem]) rfl ⟨rfl, (Below.refl _ _).alloc (Nat.le_refl _) _⟩
theorem implQB11 (w : World) : Calls Try.prog 36 #[.int .i64 11] w fun e w' => e = .returned (.agg #[.int .i64 9999999999, .int .i64 0, .int .i64 0, .int .i64 0]) ∧ Below w.heap.size w w' := by
  go_enter Try.func36, Try.ntmps36
  go_wp2
  refine bodyPost_ret (v := .agg #[.int .i64 9999999999, .int .i64 0, .int .i64 0, .int .i64 0]) (by simp [results, Try.results36, go_sem]) rfl ⟨rfl, (Below.refl _ _).alloc (Nat.le_refl _) _⟩
theorem implQB12 (w : World) : Calls Try.prog 36 #[.int .i64 12] w fun e w' => e = .returned (.agg #[.int .i64 0, .int .i64 0, .int .i64 0, .int .i64 0]) ∧ Below w.heap.size w w' := by
  go_enter Try.func36, Try.ntmps36
  go_wp2
  refine bodyPost_ret (v := .agg #[.int .i64 0, .int .i64 0, .int .i64 0, .int .i64 0]) (by simp [results, Try.results36, go_sem]) rfl ⟨rfl, (Below.refl _ _).alloc (Nat.le_refl _) _⟩
theorem implQB13 (w : World) : Calls Try.prog 36 #[.int .i64 13] w fun e w' => e = .returned (.agg #[.int .i64 9999999999, .int .i64 0, .int .i64 0, .int .i64 0]) ∧ Below w.heap.size w w' := by
  go_enter Try.func36, Try.ntmps36
  go_wp2
  refine bodyPost_ret (v := .agg #[.int .i64 9999999999, .int .i64 0, .int .i64 0, .int .i64 0]) (by simp [results, Try.results36, go_sem]) rfl ⟨rfl, (Below.refl _ _).alloc (Nat.le_refl _) _⟩
theorem implQB14 (w : World) : Calls Try.prog 36 #[.int .i64 14] w fun e w' => e = .returned (.agg #[.int .i64 0, .int .i64 0, .int .i64 1, .int .i64 1]) ∧ Below w.heap.size w w' := by
  go_enter Try.func36, Try.ntmps36
  go_wp2
  refine bodyPost_ret (v := .agg #[.int .i64 0, .int .i64 0, .int .i64 1, .int .i64 1]) (by simp [results, Try.results36, go_sem]) rfl ⟨rfl, (Below.refl _ _).alloc (Nat.le_refl _) _⟩
theorem implQB15 (w : World) : Calls Try.prog 36 #[.int .i64 15] w fun e w' => e = .returned (.agg #[.int .i64 0, .int .i64 0, .int .i64 2, .int .i64 2]) ∧ Below w.heap.size w w' := by
  go_enter Try.func36, Try.ntmps36
  go_wp2
  refine bodyPost_ret (v := .agg #[.int .i64 0, .int .i64 0, .int .i64 2, .int .i64 2]) (by simp [results, Try.results36, go_sem]) rfl ⟨rfl, (Below.refl _ _).alloc (Nat.le_refl _) _⟩
theorem implQB16 (w : World) : Calls Try.prog 36 #[.int .i64 16] w fun e w' => e = .returned (.agg #[.int .i64 0, .int .i64 0, .int .i64 2, .int .i64 100]) ∧ Below w.heap.size w w' := by
  go_enter Try.func36, Try.ntmps36
  go_wp2
  refine bodyPost_ret (v := .agg #[.int .i64 0, .int .i64 0, .int .i64 2, .int .i64 100]) (by simp [results, Try.results36, go_sem]) rfl ⟨rfl, (Below.refl _ _).alloc (Nat.le_refl _) _⟩
theorem implQBounds (k : Int) (w : World) (h1 : 1 ≤ k) (h2 : k ≤ 16) : Calls Try.prog 36 #[.int .i64 k] w fun e w' => e = .returned (.agg #[.int .i64 (Qu.bNum k), .int .i64 (Qu.bText k), .int .i64 (Qu.bLeast k), .int .i64 (Qu.bMost k)]) ∧ Below w.heap.size w w' := by
  have h : k = 1 ∨ k = 2 ∨ k = 3 ∨ k = 4 ∨ k = 5 ∨ k = 6 ∨ k = 7 ∨ k = 8 ∨ k = 9 ∨ k = 10 ∨ k = 11 ∨ k = 12 ∨ k = 13 ∨ k = 14 ∨ k = 15 ∨ k = 16 := by omega
  rcases h with rfl | rfl | rfl | rfl | rfl | rfl | rfl | rfl | rfl | rfl | rfl | rfl | rfl | rfl | rfl | rfl
  · exact implQB1 w
  · exact implQB2 w
  · exact implQB3 w
  · exact implQB4 w
  · exact implQB5 w
  · exact implQB6 w
  · exact implQB7 w
  · exact implQB8 w
  · exact implQB9 w
  · exact implQB10 w
  · exact implQB11 w
  · exact implQB12 w
  · exact implQB13 w
  · exact implQB14 w
  · exact implQB15 w
  · exact implQB16 w
end Go.Proofs.Ytnfolnngnmiieaa
