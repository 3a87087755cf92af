
/- The program's test of a query's node. (By a program in session 15.) -/

/- The program's test of a query's node: its name, its ranges, all of it. -/

/- The program's test of a query's node, whole; of all nodes. -/

/- The program's QueryFault. -/
import Derived.Test.YtfaeckaeaeadeaaGreatDoorQDepth
import Derived.Test.YtfaeckaeaeadeaaGreatDoorImplFlagFault
namespace Go.Proofs.YtfaeckaeaeadeaaGreatDoor
open Go.RowKit Go.Lib Go.Maps
set_option linter.unusedVariables false
namespace St
def within (z a b : Int) : Bool := decide (a ≤ z) && decide (z ≤ b)
end St
set_option maxRecDepth 20000 in
theorem implFromTo (z a b : Int) (w : World) : Calls Tryz.prog 69 #[.int .i64 z, .int .i64 a, .int .i64 b] w fun e w' => e = .returned (.bool (St.within z a b)) ∧ w = w' := by
  unfold St.within
  cases h1 : decide (a ≤ z) <;> cases h2 : decide (z ≤ b)
  all_goals
    go_enter Tryz.func69, Tryz.ntmps69
    go_wp2
    go_ret
    exact ⟨rfl, rfl⟩
namespace Qu
def qb (c : UInt8) : Bool := decide (33 ≤ c.toNat) && (decide (c.toNat ≤ 126) && (!(c.toNat == 34) && (!(c.toNat == 40) && !(c.toNat == 41))))
def bNum (k : Int) : Int := if k = 7 ∨ k = 8 ∨ k = 9 then 2932896 else if k = 10 ∨ k = 11 ∨ k = 13 then 9999999999 else 0
def bText (k : Int) : Int := if k = 4 ∨ k = 5 ∨ k = 6 then 200 else 0
def bLeast (k : Int) : Int := if k = 14 then 1 else if k = 15 then 2 else if k = 16 then 2 else 0
def bMost (k : Int) : Int := if k = 14 then 1 else if k = 15 then 2 else if k = 16 then 100 else 0
set_option maxRecDepth 20000 in
theorem indexByte_none_iff (l : List UInt8) (c : UInt8) : indexByte l c = -1 ↔ c ∉ l := by
  induction l with
  | nil => simp [indexByte]
  | cons b r ih =>
    have hg := indexByte_ge r c
    unfold indexByte
    by_cases hb : b = c
    · rw [if_pos (by simpa using hb)]
      simp [hb]
    · rw [if_neg (by simpa using hb)]
      by_cases hr : indexByte r c = -1
      · rw [if_pos (by simpa using hr)]
        have := ih.1 hr
        simp [this]
        exact fun e => hb e.symm
      · rw [if_neg (by simpa using hr)]
        constructor
        · intro h; omega
        · intro h
          exfalso
          exact hr (ih.2 (fun hm => h (List.mem_cons_of_mem _ hm)))
set_option maxRecDepth 20000 in
theorem noB_iff (t : ByteArray) (c : UInt8) : noB t c = t.data.toList.all (fun x => !(x == c)) := by
  unfold noB
  rw [ix_zero]
  rw [Bool.eq_iff_iff]
  have hg := indexByte_ge t.data.toList c
  constructor
  · intro h
    have h' : indexByte t.data.toList c = -1 := by simp at h; omega
    rw [List.all_eq_true]
    intro x hx
    have := (indexByte_none_iff t.data.toList c).1 h'
    simp
    intro e
    exact this (e ▸ hx)
  · intro h
    rw [List.all_eq_true] at h
    have : indexByte t.data.toList c = -1 := (indexByte_none_iff t.data.toList c).2 (fun hm => by have := h c hm; simp at this)
    rw [this]
    rfl
set_option maxRecDepth 20000 in
theorem qb_iff (c : UInt8) (h : Pl.nb c = true) : qb c = (!(c == 34) && (!(c == 40) && !(c == 41))) := by
  unfold Pl.nb at h
  simp only [Bool.and_eq_true, decide_eq_true_eq] at h
  have e : ∀ (a : UInt8), (c == a) = (c.toNat == a.toNat) := fun a => by
    rw [Bool.eq_iff_iff]
    simp only [beq_iff_eq]
    exact ⟨fun h => by rw [h], fun h => UInt8.toNat_inj.1 h⟩
  unfold qb
  rw [decide_eq_true h.1, decide_eq_true h.2.1, e 34, e 40, e 41]
  rfl
set_option maxRecDepth 20000 in
theorem name_eq (t : ByteArray) : name t = (Pl.nameOk t.data.toList && t.data.toList.all qb) := by
  unfold name
  rw [noB_iff, noB_iff, noB_iff]
  cases hn : Pl.nameOk t.data.toList
  · rfl
  · rw [Bool.true_and, Bool.true_and]
    have hall : ∀ c ∈ t.data.toList, Pl.nb c = true := by
      unfold Pl.nameOk at hn
      simp only [Bool.and_eq_true] at hn
      exact List.all_eq_true.1 hn.2.2
    revert hall
    generalize t.data.toList = l
    intro hall
    induction l with
    | nil => rfl
    | cons c r ih =>
      have := ih (fun x hx => hall x (List.mem_cons_of_mem _ hx))
      simp only [List.all_cons]
      rw [← this, qb_iff c (hall c (List.mem_cons_self ..))]
      generalize r.all (fun x => !(x == 34)) = p
      generalize r.all (fun x => !(x == 40)) = q
      generalize r.all (fun x => !(x == 41)) = s
      generalize (c == 34) = x
      generalize (c == 40) = y
      generalize (c == 41) = z
      cases x <;> cases y <;> cases z <;> cases p <;> cases q <;> cases s <;> rfl
set_option maxRecDepth 20000 in
theorem emp_size (t : ByteArray) : emp t = decide ((t.size : Int) ≤ 0) := by
  unfold emp
  rw [ByteArray.toList_eq, Bool.eq_iff_iff]
  simp only [beq_iff_eq, decide_eq_true_eq]
  constructor
  · intro h
    have : t.data.toList.length = 0 := by rw [h]; rfl
    have e : t.size = t.data.toList.length := by simp
    omega
  · intro h
    exact List.length_eq_zero_iff.1 (by have e : t.size = t.data.toList.length := by simp
                                        omega)
set_option maxRecDepth 20000 in
theorem text_eq (n : GQueryNode) (k : Int) : (parts n k).2.1 = decide ((n.text.size : Int) ≤ bText k) := by
  show (if k = 4 ∨ k = 5 ∨ k = 6 then decide (n.text.size ≤ 200) else emp n.text) = _
  unfold bText
  split
  · rw [Bool.eq_iff_iff]; simp; omega
  · exact emp_size _
set_option maxRecDepth 20000 in
theorem num_eq (n : GQueryNode) (k : Int) : (parts n k).2.2.1 = St.within n.num 0 (bNum k) := by
  show (if k = 7 ∨ k = 8 ∨ k = 9 then decide (0 ≤ n.num) && decide (n.num ≤ 2932896) else if k = 10 ∨ k = 11 ∨ k = 13 then decide (0 ≤ n.num) && decide (n.num ≤ 9999999999) else (n.num == 0)) = _
  unfold bNum St.within
  split
  · rfl
  · split
    · rfl
    · rw [Bool.eq_iff_iff]; simp; omega
set_option maxRecDepth 20000 in
theorem kids_eq (n : GQueryNode) (k : Int) (h : n.kids.length ≤ 100) : (parts n k).2.2.2.2 = (decide (bLeast k ≤ (n.kids.length : Int)) && decide ((n.kids.length : Int) ≤ bMost k)) := by
  show (if k = 14 then decide (n.kids.length = 1) else if k = 15 then decide (n.kids.length = 2) else if k = 16 then decide (2 ≤ n.kids.length) else decide (n.kids.length = 0)) = _
  unfold bLeast bMost
  split
  · rw [Bool.eq_iff_iff]; simp; omega
  · split
    · rw [Bool.eq_iff_iff]; simp; omega
    · split
      · rw [Bool.eq_iff_iff]; simp; omega
      · rw [Bool.eq_iff_iff]; simp
end Qu
set_option maxRecDepth 20000 in
theorem implQB1 (w : World) : Calls Tryz.prog 72 #[.int .i64 1] w fun e w' => e = .returned (.agg #[.int .i64 0, .int .i64 0, .int .i64 0, .int .i64 0]) ∧ Below w.heap.size w w' := by
  go_enter Tryz.func72, Tryz.ntmps72
  go_wp2
  refine bodyPost_ret (v := .agg #[.int .i64 0, .int .i64 0, .int .i64 0, .int .i64 0]) (by simp [results, Tryz.results72, go_sem]) rfl ⟨rfl, (Below.refl _ _).alloc (Nat.le_refl _) _⟩
set_option maxRecDepth 20000 in
theorem implQB2 (w : World) : Calls Tryz.prog 72 #[.int .i64 2] w fun e w' => e = .returned (.agg #[.int .i64 0, .int .i64 0, .int .i64 0, .int .i64 0]) ∧ Below w.heap.size w w' := by
  go_enter Tryz.func72, Tryz.ntmps72
  go_wp2
  refine bodyPost_ret (v := .agg #[.int .i64 0, .int .i64 0, .int .i64 0, .int .i64 0]) (by simp [results, Tryz.results72, go_sem]) rfl ⟨rfl, (Below.refl _ _).alloc (Nat.le_refl _) _⟩
set_option maxRecDepth 20000 in
theorem implQB3 (w : World) : Calls Tryz.prog 72 #[.int .i64 3] w fun e w' => e = .returned (.agg #[.int .i64 0, .int .i64 0, .int .i64 0, .int .i64 0]) ∧ Below w.heap.size w w' := by
  go_enter Tryz.func72, Tryz.ntmps72
  go_wp2
  refine bodyPost_ret (v := .agg #[.int .i64 0, .int .i64 0, .int .i64 0, .int .i64 0]) (by simp [results, Tryz.results72, go_sem]) rfl ⟨rfl, (Below.refl _ _).alloc (Nat.le_refl _) _⟩
set_option maxRecDepth 20000 in
theorem implQB4 (w : World) : Calls Tryz.prog 72 #[.int .i64 4] w fun e w' => e = .returned (.agg #[.int .i64 0, .int .i64 200, .int .i64 0, .int .i64 0]) ∧ Below w.heap.size w w' := by
  go_enter Tryz.func72, Tryz.ntmps72
  go_wp2
  refine bodyPost_ret (v := .agg #[.int .i64 0, .int .i64 200, .int .i64 0, .int .i64 0]) (by simp [results, Tryz.results72, go_sem]) rfl ⟨rfl, (Below.refl _ _).alloc (Nat.le_refl _) _⟩
set_option maxRecDepth 20000 in
theorem implQB5 (w : World) : Calls Tryz.prog 72 #[.int .i64 5] w fun e w' => e = .returned (.agg #[.int .i64 0, .int .i64 200, .int .i64 0, .int .i64 0]) ∧ Below w.heap.size w w' := by
  go_enter Tryz.func72, Tryz.ntmps72
  go_wp2
  refine bodyPost_ret (v := .agg #[.int .i64 0, .int .i64 200, .int .i64 0, .int .i64 0]) (by simp [results, Tryz.results72, go_sem]) rfl ⟨rfl, (Below.refl _ _).alloc (Nat.le_refl _) _⟩
set_option maxRecDepth 20000 in
theorem implQB6 (w : World) : Calls Tryz.prog 72 #[.int .i64 6] w fun e w' => e = .returned (.agg #[.int .i64 0, .int .i64 200, .int .i64 0, .int .i64 0]) ∧ Below w.heap.size w w' := by
  go_enter Tryz.func72, Tryz.ntmps72
  go_wp2
  refine bodyPost_ret (v := .agg #[.int .i64 0, .int .i64 200, .int .i64 0, .int .i64 0]) (by simp [results, Tryz.results72, go_sem]) rfl ⟨rfl, (Below.refl _ _).alloc (Nat.le_refl _) _⟩
set_option maxRecDepth 20000 in
theorem implQB7 (w : World) : Calls Tryz.prog 72 #[.int .i64 7] w fun e w' => e = .returned (.agg #[.int .i64 2932896, .int .i64 0, .int .i64 0, .int .i64 0]) ∧ Below w.heap.size w w' := by
  go_enter Tryz.func72, Tryz.ntmps72
  go_wp2
  refine bodyPost_ret (v := .agg #[.int .i64 2932896, .int .i64 0, .int .i64 0, .int .i64 0]) (by simp [results, Tryz.results72, go_sem]) rfl ⟨rfl, (Below.refl _ _).alloc (Nat.le_refl _) _⟩
set_option maxRecDepth 20000 in
theorem implQB8 (w : World) : Calls Tryz.prog 72 #[.int .i64 8] w fun e w' => e = .returned (.agg #[.int .i64 2932896, .int .i64 0, .int .i64 0, .int .i64 0]) ∧ Below w.heap.size w w' := by
  go_enter Tryz.func72, Tryz.ntmps72
  go_wp2
  refine bodyPost_ret (v := .agg #[.int .i64 2932896, .int .i64 0, .int .i64 0, .int .i64 0]) (by simp [results, Tryz.results72, go_sem]) rfl ⟨rfl, (Below.refl _ _).alloc (Nat.le_refl _) _⟩
set_option maxRecDepth 20000 in
theorem implQB9 (w : World) : Calls Tryz.prog 72 #[.int .i64 9] w fun e w' => e = .returned (.agg #[.int .i64 2932896, .int .i64 0, .int .i64 0, .int .i64 0]) ∧ Below w.heap.size w w' := by
  go_enter Tryz.func72, Tryz.ntmps72
  go_wp2
  refine bodyPost_ret (v := .agg #[.int .i64 2932896, .int .i64 0, .int .i64 0, .int .i64 0]) (by simp [results, Tryz.results72, go_sem]) rfl ⟨rfl, (Below.refl _ _).alloc (Nat.le_refl _) _⟩
set_option maxRecDepth 20000 in
theorem implQB10 (w : World) : Calls Tryz.prog 72 #[.int .i64 10] w fun e w' => e = .returned (.agg #[.int .i64 9999999999, .int .i64 0, .int .i64 0, .int .i64 0]) ∧ Below w.heap.size w w' := by
  go_enter Tryz.func72, Tryz.ntmps72
  go_wp2
  refine bodyPost_ret (v := .agg #[.int .i64 9999999999, .int .i64 0, .int .i64 0, .int .i64 0]) (by simp [results, Tryz.results72, go_sem]) rfl ⟨rfl, (Below.refl _ _).alloc (Nat.le_refl _) _⟩
set_option maxRecDepth 20000 in
theorem implQB11 (w : World) : Calls Tryz.prog 72 #[.int .i64 11] w fun e w' => e = .returned (.agg #[.int .i64 9999999999, .int .i64 0, .int .i64 0, .int .i64 0]) ∧ Below w.heap.size w w' := by
  go_enter Tryz.func72, Tryz.ntmps72
  go_wp2
  refine bodyPost_ret (v := .agg #[.int .i64 9999999999, .int .i64 0, .int .i64 0, .int .i64 0]) (by simp [results, Tryz.results72, go_sem]) rfl ⟨rfl, (Below.refl _ _).alloc (Nat.le_refl _) _⟩
set_option maxRecDepth 20000 in
theorem implQB12 (w : World) : Calls Tryz.prog 72 #[.int .i64 12] w fun e w' => e = .returned (.agg #[.int .i64 0, .int .i64 0, .int .i64 0, .int .i64 0]) ∧ Below w.heap.size w w' := by
  go_enter Tryz.func72, Tryz.ntmps72
  go_wp2
  refine bodyPost_ret (v := .agg #[.int .i64 0, .int .i64 0, .int .i64 0, .int .i64 0]) (by simp [results, Tryz.results72, go_sem]) rfl ⟨rfl, (Below.refl _ _).alloc (Nat.le_refl _) _⟩
set_option maxRecDepth 20000 in
theorem implQB13 (w : World) : Calls Tryz.prog 72 #[.int .i64 13] w fun e w' => e = .returned (.agg #[.int .i64 9999999999, .int .i64 0, .int .i64 0, .int .i64 0]) ∧ Below w.heap.size w w' := by
  go_enter Tryz.func72, Tryz.ntmps72
  go_wp2
  refine bodyPost_ret (v := .agg #[.int .i64 9999999999, .int .i64 0, .int .i64 0, .int .i64 0]) (by simp [results, Tryz.results72, go_sem]) rfl ⟨rfl, (Below.refl _ _).alloc (Nat.le_refl _) _⟩
set_option maxRecDepth 20000 in
theorem implQB14 (w : World) : Calls Tryz.prog 72 #[.int .i64 14] w fun e w' => e = .returned (.agg #[.int .i64 0, .int .i64 0, .int .i64 1, .int .i64 1]) ∧ Below w.heap.size w w' := by
  go_enter Tryz.func72, Tryz.ntmps72
  go_wp2
  refine bodyPost_ret (v := .agg #[.int .i64 0, .int .i64 0, .int .i64 1, .int .i64 1]) (by simp [results, Tryz.results72, go_sem]) rfl ⟨rfl, (Below.refl _ _).alloc (Nat.le_refl _) _⟩
set_option maxRecDepth 20000 in
theorem implQB15 (w : World) : Calls Tryz.prog 72 #[.int .i64 15] w fun e w' => e = .returned (.agg #[.int .i64 0, .int .i64 0, .int .i64 2, .int .i64 2]) ∧ Below w.heap.size w w' := by
  go_enter Tryz.func72, Tryz.ntmps72
  go_wp2
  refine bodyPost_ret (v := .agg #[.int .i64 0, .int .i64 0, .int .i64 2, .int .i64 2]) (by simp [results, Tryz.results72, go_sem]) rfl ⟨rfl, (Below.refl _ _).alloc (Nat.le_refl _) _⟩
set_option maxRecDepth 20000 in
theorem implQB16 (w : World) : Calls Tryz.prog 72 #[.int .i64 16] w fun e w' => e = .returned (.agg #[.int .i64 0, .int .i64 0, .int .i64 2, .int .i64 100]) ∧ Below w.heap.size w w' := by
  go_enter Tryz.func72, Tryz.ntmps72
  go_wp2
  refine bodyPost_ret (v := .agg #[.int .i64 0, .int .i64 0, .int .i64 2, .int .i64 100]) (by simp [results, Tryz.results72, go_sem]) rfl ⟨rfl, (Below.refl _ _).alloc (Nat.le_refl _) _⟩
set_option maxRecDepth 20000 in
theorem implQBounds (k : Int) (w : World) (h1 : 1 ≤ k) (h2 : k ≤ 16) : Calls Tryz.prog 72 #[.int .i64 k] w fun e w' => e = .returned (.agg #[.int .i64 (Qu.bNum k), .int .i64 (Qu.bText k), .int .i64 (Qu.bLeast k), .int .i64 (Qu.bMost k)]) ∧ Below w.heap.size w w' := by
  have h : k = 1 ∨ k = 2 ∨ k = 3 ∨ k = 4 ∨ k = 5 ∨ k = 6 ∨ k = 7 ∨ k = 8 ∨ k = 9 ∨ k = 10 ∨ k = 11 ∨ k = 12 ∨ k = 13 ∨ k = 14 ∨ k = 15 ∨ k = 16 := by omega
  rcases h with rfl | rfl | rfl | rfl | rfl | rfl | rfl | rfl | rfl | rfl | rfl | rfl | rfl | rfl | rfl | rfl
  · exact implQB1 w
  · exact implQB2 w
  · exact implQB3 w
  · exact implQB4 w
  · exact implQB5 w
  · exact implQB6 w
  · exact implQB7 w
  · exact implQB8 w
  · exact implQB9 w
  · exact implQB10 w
  · exact implQB11 w
  · exact implQB12 w
  · exact implQB13 w
  · exact implQB14 w
  · exact implQB15 w
  · exact implQB16 w
end Go.Proofs.YtfaeckaeaeadeaaGreatDoor
namespace Go.Proofs.YtfaeckaeaeadeaaGreatDoor
open Go.RowKit Go.Lib Go.Maps
set_option linter.unusedVariables false
set_option maxRecDepth 20000 in
theorem implIsFlag (s : ByteArray) (w : World) (hs : s.size ≤ 1048576) : Calls Tryz.prog 89 #[.string s] w fun e w' => e = .returned (.bool (St.flag s)) ∧ Below w.heap.size w w' := by
  have c1 := mkHid (implFlagFault s w hs)
  unfold plFlagFault at c1
  generalize St.flag s = b at *
  go_enter Tryz.func89, Tryz.ntmps89
  go_wp2_with fail
  refine c1.out.mono ?_
  rintro e w1 ⟨rfl, hb⟩
  cases b
  · rw [show St.code false = 1 from rfl]
    go_wp2
    go_ret
    exact ⟨rfl, hb⟩
  · rw [show St.code true = 0 from rfl]
    go_wp2
    go_ret
    exact ⟨rfl, hb⟩
set_option maxRecDepth 20000 in
theorem implQueryByte (c : UInt8) (w : World) : Calls Tryz.prog 108 #[.int .u8 (c.toNat : Int)] w fun e w' => e = .returned (.bool (Qu.qb c)) ∧ w = w' := by
  have h8 : c.toNat < 256 := UInt8.toNat_lt _
  unfold Qu.qb
  generalize c.toNat = k at *
  have e1 : decide (33 ≤ k) = decide ((33 : Int) ≤ (k : Int)) := by rw [Bool.eq_iff_iff]; simp; omega
  have e2 : decide (k ≤ 126) = decide ((k : Int) ≤ 126) := by rw [Bool.eq_iff_iff]; simp; omega
  have e3 : (!(k == 34)) = ((k : Int) != 34) := by rw [bne, show ((k : Int) == 34) = (k == 34) by rw [Bool.eq_iff_iff]; simp; omega]
  have e4 : (!(k == 40)) = ((k : Int) != 40) := by rw [bne, show ((k : Int) == 40) = (k == 40) by rw [Bool.eq_iff_iff]; simp; omega]
  have e5 : (!(k == 41)) = ((k : Int) != 41) := by rw [bne, show ((k : Int) == 41) = (k == 41) by rw [Bool.eq_iff_iff]; simp; omega]
  rw [e1, e2, e3, e4, e5]
  clear e1 e2 e3 e4 e5
  cases x1 : decide ((33 : Int) ≤ (k : Int))
  · go_enter Tryz.func108, Tryz.ntmps108
    go_wp2
    go_ret
    exact ⟨rfl, rfl⟩
  cases x2 : decide ((k : Int) ≤ 126)
  · go_enter Tryz.func108, Tryz.ntmps108
    go_wp2
    go_ret
    exact ⟨rfl, rfl⟩
  cases x3 : ((k : Int) != 34)
  · go_enter Tryz.func108, Tryz.ntmps108
    go_wp2
    go_ret
    exact ⟨rfl, rfl⟩
  cases x4 : ((k : Int) != 40)
  · go_enter Tryz.func108, Tryz.ntmps108
    go_wp2
    go_ret
    exact ⟨rfl, rfl⟩
  cases x5 : ((k : Int) != 41)
  · go_enter Tryz.func108, Tryz.ntmps108
    go_wp2
    go_ret
    exact ⟨rfl, rfl⟩
  · go_enter Tryz.func108, Tryz.ntmps108
    go_wp2
    go_ret
    exact ⟨rfl, rfl⟩
set_option maxRecDepth 20000 in
theorem kindQuery : Kind 108 Qu.qb := ⟨Go.Proofs.enters_of Tryz.func108 (by kernel_rfl) rfl, implQueryByte⟩
set_option maxRecDepth 20000 in
theorem implQueryName (s : ByteArray) (w : World) (hs : s.size ≤ 1048576) : Calls Tryz.prog 90 #[.string s] w fun e w' => e = .returned (.bool (Qu.name s)) ∧ w = w' := by
  have c1 := mkHid (implFieldName s w (by omega))
  have c2 := mkHid (implAllOf kindQuery s w (by omega))
  rw [Qu.name_eq]
  generalize Pl.nameOk s.data.toList = a at *
  generalize s.data.toList.all Qu.qb = b at *
  cases a
  · clear c2
    go_enter Tryz.func90, Tryz.ntmps90
    go_wp2_with fail
    refine c1.out.mono ?_
    rintro e w1 ⟨rfl, rfl⟩
    go_wp2
    go_ret
    exact ⟨rfl, rfl⟩
  · go_enter Tryz.func90, Tryz.ntmps90
    go_wp2_with fail
    refine c1.out.mono ?_
    rintro e w1 ⟨rfl, rfl⟩
    go_wp2_with fail
    refine c2.out.mono ?_
    rintro e w1 ⟨rfl, rfl⟩
    go_wp2
    go_ret
    exact ⟨rfl, rfl⟩
namespace Qu
def rName (n : GQueryNode) : Bool := if n.kind = 2 ∨ n.kind = 3 then St.flag n.name else if n.kind = 4 then name n.name else emp n.name
def rUids (n : GQueryNode) : Bool := if n.kind = 12 then Rg.rsOk n.uids else decide (n.uids.length = 0)
end Qu
set_option maxRecDepth 20000 in
set_option maxHeartbeats 1000000 in
theorem implRightName (n : GQueryNode) (v4 v5 : Value) (w : World) (hs : n.name.size ≤ 1048576) : Calls Tryz.prog 70 #[GQueryNodeV n v4 v5] w fun e w' => e = .returned (.bool (Qu.rName n)) ∧ Below w.heap.size w w' := by
  obtain ⟨W, hW⟩ : ∃ W, W = w.alloc (.cells #[.int .i64 n.kind, .string n.name, .string n.text, .int .i64 n.num, v4, v5] 38) := ⟨_, rfl⟩
  have hb : Below w.heap.size w W := by rw [hW]; exact (Below.refl _ _).alloc (Nat.le_refl _) _
  have c1 := mkHid (implIsFlag n.name W hs)
  have c2 := mkHid (implQueryName n.name W hs)
  have HW := mkHid hW
  have Hb := mkHid hb
  unfold GQueryNodeV Qu.rName
  clear hW hb
  generalize hk : n.kind = k at *
  generalize St.flag n.name = fl at *
  generalize Qu.name n.name = nm at *
  have he : Qu.emp n.name = (n.name.toList == []) := rfl
  rw [he]
  by_cases k2 : k = 2
  · subst k2
    rw [if_pos (.inl rfl)]
    go_enter Tryz.func70, Tryz.ntmps70
    go_wp2_with (go_at_call 89; fail)
    rw [← HW.out]
    refine c1.out.mono ?_
    rintro e w1 ⟨rfl, hb1⟩
    have hbe := mkHid (Hb.out.trans (hb1.mono Hb.out.size))
    go_wp2
    go_ret
    exact ⟨rfl, hbe.out⟩
  by_cases k3 : k = 3
  · subst k3
    rw [if_pos (.inr rfl)]
    go_enter Tryz.func70, Tryz.ntmps70
    go_wp2_with (go_at_call 89; fail)
    rw [← HW.out]
    refine c1.out.mono ?_
    rintro e w1 ⟨rfl, hb1⟩
    have hbe := mkHid (Hb.out.trans (hb1.mono Hb.out.size))
    go_wp2
    go_ret
    exact ⟨rfl, hbe.out⟩
  rw [if_neg (fun h => h.elim k2 k3)]
  by_cases k4 : k = 4
  · subst k4
    rw [if_pos rfl]
    go_enter Tryz.func70, Tryz.ntmps70
    go_wp2_with (go_at_call 90; fail)
    rw [← HW.out]
    refine c2.out.mono ?_
    rintro e w1 ⟨rfl, rfl⟩
    go_wp2
    go_ret
    exact ⟨rfl, Hb.out⟩
  rw [if_neg k4]
  have x2 : (k == 2) = false := by simpa using k2
  have x3 : (k == 3) = false := by simpa using k3
  have x4 : (k == 4) = false := by simpa using k4
  clear c1 c2 k2 k3 k4 he
  obtain ⟨eb, heb⟩ : ∃ eb, (n.name.toList == []) = eb := ⟨_, rfl⟩
  rw [heb]
  go_enter Tryz.func70, Tryz.ntmps70
  go_wp2
  go_ret
  rw [← HW.out]
  exact ⟨by rw [← heb]; rfl, Hb.out⟩
set_option maxRecDepth 20000 in
set_option maxHeartbeats 1000000 in
theorem implRightUids (n : GQueryNode) (v4 v5 : Value) (lo : Nat) (w : World) (hI : GQueryNodeIn lo w.heap.size w n v4 v5) (hf : n.fits 1048576) : Calls Tryz.prog 71 #[GQueryNodeV n v4 v5] w fun e w' => e = .returned (.bool (Qu.rUids n)) ∧ Below w.heap.size w w' := by
  obtain ⟨⟨a4, c4, rfl, t4⟩, -⟩ := hI
  obtain ⟨W, hW⟩ : ∃ W, W = w.alloc (.cells #[.int .i64 n.kind, .string n.name, .string n.text, .int .i64 n.num, .slice a4 n.uids.length c4, v5] 38) := ⟨_, rfl⟩
  have hb : Below w.heap.size w W := by rw [hW]; exact (Below.refl _ _).alloc (Nat.le_refl _) _
  have c1 := mkHid (implAreRanges a4 n.uids c4 lo W ((t4.below hb (Nat.le_refl _)).mono (Nat.le_refl _) hb.size) hf.2.2.1)
  have hl := hf.2.2.1
  have HW := mkHid hW
  have Hb := mkHid hb
  unfold GQueryNodeV Qu.rUids
  clear hW hb t4 hf
  generalize hk : n.kind = k at *
  generalize Rg.rsOk n.uids = rs at *
  by_cases k2 : k = 12
  · subst k2
    rw [if_pos rfl]
    go_enter Tryz.func71, Tryz.ntmps71
    go_wp2_with (go_at_call 59; fail)
    rw [← HW.out]
    refine c1.out.mono ?_
    rintro e w1 ⟨rfl, hb1⟩
    have hbe := mkHid (Hb.out.trans (hb1.mono Hb.out.size))
    go_wp2
    go_ret
    exact ⟨rfl, hbe.out⟩
  rw [if_neg k2]
  have x2 : (k == 12) = false := by simpa using k2
  clear c1 k2
  have e1 : decide (n.uids.length = 0) = ((n.uids.length : Int) == 0) := by rw [Bool.eq_iff_iff]; simp
  rw [e1]
  obtain ⟨eb, heb⟩ : ∃ eb, ((n.uids.length : Int) == 0) = eb := ⟨_, rfl⟩
  rw [heb]
  go_enter Tryz.func71, Tryz.ntmps71
  go_wp2
  go_ret
  rw [← HW.out]
  exact ⟨by rw [← heb]; rfl, Hb.out⟩
end Go.Proofs.YtfaeckaeaeadeaaGreatDoor
namespace Go.Proofs.YtfaeckaeaeadeaaGreatDoor
open Go.RowKit Go.Lib Go.Maps
set_option linter.unusedVariables false
namespace Qu
set_option maxRecDepth 20000 in
theorem right_eq (n : GQueryNode) (h : n.kids.length ≤ 100) : right n = (St.within n.kind 1 16 && (rName n && (rUids n && ((decide (bLeast n.kind ≤ (n.kids.length : Int)) && decide ((n.kids.length : Int) ≤ bMost n.kind)) && (St.within n.num 0 (bNum n.kind) && decide ((n.text.size : Int) ≤ bText n.kind)))))) := by
  unfold right five
  have h1 : (parts n n.kind).1 = rName n := rfl
  have h4 : (parts n n.kind).2.2.2.1 = rUids n := rfl
  rw [text_eq, num_eq, kids_eq n _ h, h1, h4]
  by_cases hk : 1 ≤ n.kind ∧ n.kind ≤ 16
  · rw [if_pos hk, show St.within n.kind 1 16 = true by unfold St.within; rw [decide_eq_true hk.1, decide_eq_true hk.2]; rfl, Bool.true_and]
    generalize rName n = a
    generalize rUids n = b
    generalize (decide (bLeast n.kind ≤ (n.kids.length : Int)) && decide ((n.kids.length : Int) ≤ bMost n.kind)) = c
    generalize St.within n.num 0 (bNum n.kind) = d
    generalize decide ((n.text.size : Int) ≤ bText n.kind) = e
    cases a <;> cases b <;> cases c <;> cases d <;> cases e <;> rfl
  · rw [if_neg hk, show St.within n.kind 1 16 = false by
      unfold St.within
      rw [Bool.and_eq_false_iff]
      simp only [decide_eq_false_iff_not]
      omega]
    rfl
end Qu
set_option maxRecDepth 20000 in
set_option maxHeartbeats 4000000 in
theorem implNoNode (n : GQueryNode) (v4 v5 : Value) (lo : Nat) (w : World) (hI : GQueryNodeIn lo w.heap.size w n v4 v5) (hf : n.fits 1048576) (hkl : n.kids.length ≤ 100) :
    Calls Tryz.prog 52 #[GQueryNodeV n v4 v5] w fun e w' => e = .returned (.bool (!Qu.right n)) ∧ Below w.heap.size w w' := by
  obtain ⟨⟨a4, c4, rfl, t4⟩, ⟨a5, c5, rfl, t5⟩⟩ := hI
  obtain ⟨W, hW⟩ : ∃ W, W = w.alloc (.cells #[.int .i64 n.kind, .string n.name, .string n.text, .int .i64 n.num, .slice a4 n.uids.length c4, .slice a5 n.kids.length c5] 38) := ⟨_, rfl⟩
  have hb : Below w.heap.size w W := by rw [hW]; exact (Below.refl _ _).alloc (Nat.le_refl _) _
  have q0 : W.cell? ⟨w.heap.size, 0, none⟩ = some (.int .i64 n.kind) := by rw [hW]; simp
  have q1 : W.cell? ⟨w.heap.size, 1, none⟩ = some (.string n.name) := by rw [hW]; simp
  have q2 : W.cell? ⟨w.heap.size, 2, none⟩ = some (.string n.text) := by rw [hW]; simp
  have q3 : W.cell? ⟨w.heap.size, 3, none⟩ = some (.int .i64 n.num) := by rw [hW]; simp
  have q4 : W.cell? ⟨w.heap.size, 4, none⟩ = some (.slice a4 n.uids.length c4) := by rw [hW]; simp
  have q5 : W.cell? ⟨w.heap.size, 5, none⟩ = some (.slice a5 n.kids.length c5) := by rw [hW]; simp
  have sW : w.heap.size < W.heap.size := by rw [hW]; simp
  have cF := mkHid (implFromTo n.kind 1 16 W)
  have cN0 := implRightName n (.slice a4 n.uids.length c4) (.slice a5 n.kids.length c5) W hf.1
  have cU0 : ∀ W', Below W.heap.size W W' → Calls Tryz.prog 71 #[GQueryNodeV n (.slice a4 n.uids.length c4) (.slice a5 n.kids.length c5)] W' fun e w' => e = .returned (.bool (Qu.rUids n)) ∧ Below W'.heap.size W' w' := by
    intro W' hb'
    have hbb := hb.trans (hb'.mono hb.size)
    exact implRightUids n _ _ lo W' ⟨⟨a4, c4, rfl, (t4.below hbb (Nat.le_refl _)).mono (Nat.le_refl _) hbb.size⟩, ⟨a5, c5, rfl, (t5.below hbb (Nat.le_refl _)).mono (Nat.le_refl _) hbb.size⟩⟩ hf
  have htx := hf.2.1
  rw [Qu.right_eq n hkl]
  unfold GQueryNodeV at cN0 cU0 ⊢
  have cN := mkHid cN0
  have cU := mkHid cU0
  have cB := mkHid (fun (h1 : 1 ≤ n.kind) (h2 : n.kind ≤ 16) (w : World) => implQBounds n.kind w h1 h2)
  have cM := mkHid (fun (w : World) => implFromTo n.num 0 (Qu.bNum n.kind) w)
  have HW := mkHid hW
  have Hb := mkHid hb
  clear hW hb t4 t5 hf cN0 cU0
  cases hin : St.within n.kind 1 16
  · rw [hin] at cF
    rw [Bool.false_and]
    clear cN cU cB cM q1 q2 q3 q4 q5
    go_enter Tryz.func52, Tryz.ntmps52
    go_wp2_with (go_at_call 69; fail)
    rw [← HW.out]
    refine cF.out.mono ?_
    rintro e w1 ⟨rfl, rfl⟩
    go_wp2
    go_ret
    exact ⟨rfl, Hb.out⟩
  have hk1 : 1 ≤ n.kind ∧ n.kind ≤ 16 := by
    unfold St.within at hin
    simp only [Bool.and_eq_true, decide_eq_true_eq] at hin
    exact hin
  rw [hin] at cF
  rw [Bool.true_and]
  replace cB := mkHid (cB.out hk1.1 hk1.2)
  generalize n.kind = k at *
  generalize Qu.rName n = rn at *
  generalize Qu.rUids n = ru at *
  generalize Qu.bNum k = bn at *
  generalize Qu.bText k = bt at *
  generalize Qu.bLeast k = bl at *
  generalize Qu.bMost k = bm at *
  generalize St.within n.num 0 bn = bw at *
  clear hin hk1
  obtain ⟨R, hR⟩ : ∃ R, (rn && (ru && ((decide (bl ≤ (n.kids.length : Int)) && decide ((n.kids.length : Int) ≤ bm)) && (bw && decide ((n.text.size : Int) ≤ bt))))) = R := ⟨_, rfl⟩
  rw [hR]
  replace hR := mkHid hR
  go_enter Tryz.func52, Tryz.ntmps52
  cases rn
  · have hr : Hid (R = false) := by show _ = _; rw [← hR.out]; rfl
    go_wp2_with (go_at_call 69; fail)
    rw [← HW.out]
    refine cF.out.mono ?_
    rintro e w1 ⟨rfl, rfl⟩
    go_wp2_with (go_at_call 70; fail)
    refine cN.out.mono ?_
    rintro e w2 ⟨rfl, hb2⟩
    have hbe := mkHid (Hb.out.trans (hb2.mono Hb.out.size))
    clear cN cU cB cM cF q0 q1 q2 q3 q4 q5 HW Hb
    go_wp2
    go_ret
    rw [hr.out]
    exact ⟨rfl, hbe.out⟩
  go_wp2_with (go_at_call 69; fail)
  rw [← HW.out]
  refine cF.out.mono ?_
  rintro e w1 ⟨rfl, rfl⟩
  go_wp2_with (go_at_call 70; fail)
  refine cN.out.mono ?_
  rintro e w2 ⟨rfl, hb2⟩
  have r0 := (hb2.cell (p := ⟨w.heap.size, 0, none⟩) sW).trans q0
  have r1 := (hb2.cell (p := ⟨w.heap.size, 1, none⟩) sW).trans q1
  have r2 := (hb2.cell (p := ⟨w.heap.size, 2, none⟩) sW).trans q2
  have r3 := (hb2.cell (p := ⟨w.heap.size, 3, none⟩) sW).trans q3
  have r4 := (hb2.cell (p := ⟨w.heap.size, 4, none⟩) sW).trans q4
  have r5 := (hb2.cell (p := ⟨w.heap.size, 5, none⟩) sW).trans q5
  have cU2 := mkHid (cU.out w2 hb2)
  have hB2 := mkHid (Hb.out.trans (hb2.mono Hb.out.size))
  have s2 : w.heap.size < w2.heap.size := Nat.lt_of_lt_of_le sW hb2.size
  clear cN cU cF q0 q1 q2 q3 q4 q5 HW Hb hb2 sW
  go_wp2_with (go_at_call 71; fail)
  refine cU2.out.mono ?_
  rintro e w3 ⟨rfl, hb3⟩
  have p0 := (hb3.cell (p := ⟨w.heap.size, 0, none⟩) s2).trans r0
  have p2 := (hb3.cell (p := ⟨w.heap.size, 2, none⟩) s2).trans r2
  have p3 := (hb3.cell (p := ⟨w.heap.size, 3, none⟩) s2).trans r3
  have p5 := (hb3.cell (p := ⟨w.heap.size, 5, none⟩) s2).trans r5
  have hB3 := mkHid (hB2.out.trans (hb3.mono hB2.out.size))
  have s3 : w.heap.size < w3.heap.size := Nat.lt_of_lt_of_le s2 hb3.size
  have cB3 := mkHid (cB.out w3)
  clear cU2 r0 r1 r2 r3 r4 r5 hB2 hb3 s2 cB
  cases ru
  · have hr : Hid (R = false) := by show _ = _; rw [← hR.out]; rfl
    clear cB3 cM p0 p2 p3 p5
    go_wp2
    go_ret
    rw [hr.out]
    exact ⟨rfl, hB3.out⟩
  go_wp2_with (go_at_call 72; fail)
  refine cB3.out.mono ?_
  rintro e w4 ⟨rfl, hb4⟩
  have j2 := (hb4.cell (p := ⟨w.heap.size, 2, none⟩) s3).trans p2
  have j3 := (hb4.cell (p := ⟨w.heap.size, 3, none⟩) s3).trans p3
  have j5 := (hb4.cell (p := ⟨w.heap.size, 5, none⟩) s3).trans p5
  have hB4 := mkHid (hB3.out.trans (hb4.mono hB3.out.size))
  have s4 : w.heap.size < w4.heap.size := Nat.lt_of_lt_of_le s3 hb4.size
  clear cB3 p0 p2 p3 p5 hB3 hb4 s3
  have hb5 := mkHid (hB4.out.alloc (by omega) (.cells #[.int .i64 bn, .int .i64 bt, .int .i64 bl, .int .i64 bm] 91))
  obtain ⟨V, hV⟩ : ∃ V, V = w4.alloc (.cells #[.int .i64 bn, .int .i64 bt, .int .i64 bl, .int .i64 bm] 91) := ⟨_, rfl⟩
  rw [← hV] at hb5
  have cM4 := mkHid (cM.out V)
  replace hV := mkHid hV
  clear cM hB4
  cases hl1 : decide (bl ≤ (n.kids.length : Int))
  · have y1 : decide ((n.kids.length : Int) < bl) = true := by simp at hl1 ⊢; exact hl1
    have hr : Hid (R = false) := by show _ = _; rw [← hR.out, hl1]; rfl
    clear cM4
    go_wp2
    go_ret
    rw [← hV.out, hr.out]
    exact ⟨rfl, hb5.out⟩
  have y1 : decide ((n.kids.length : Int) < bl) = false := by simp at hl1 ⊢; exact hl1
  cases hl2 : decide ((n.kids.length : Int) ≤ bm)
  · have y2 : decide (bm < (n.kids.length : Int)) = true := by simp at hl2 ⊢; exact hl2
    have hr : Hid (R = false) := by show _ = _; rw [← hR.out, hl1, hl2]; rfl
    clear cM4
    go_wp2
    go_ret
    rw [← hV.out, hr.out]
    exact ⟨rfl, hb5.out⟩
  have y2 : decide (bm < (n.kids.length : Int)) = false := by simp at hl2 ⊢; exact hl2
  cases bw
  · have hr : Hid (R = false) := by show _ = _; rw [← hR.out, hl1, hl2]; rfl
    clear hl1 hl2
    go_wp2_with (go_at_call 69; fail)
    rw [← hV.out]
    refine cM4.out.mono ?_
    rintro e w5 ⟨rfl, rfl⟩
    go_wp2
    go_ret
    rw [hr.out]
    exact ⟨rfl, hb5.out⟩
  have g1 : V.cell? ⟨w4.heap.size, 1, none⟩ = some (.int .i64 bt) := by rw [hV.out]; simp
  have g2 : V.cell? ⟨w.heap.size, 2, none⟩ = some (.string n.text) := by
    rw [hV.out]
    exact (((Below.refl w4.heap.size w4).alloc (Nat.le_refl _) _).cell (p := ⟨w.heap.size, 2, none⟩) s4).trans j2
  cases hl3 : decide ((n.text.size : Int) ≤ bt)
  · have y3 : decide (bt < (n.text.size : Int)) = true := by simp at hl3 ⊢; exact hl3
    have hr : Hid (R = false) := by show _ = _; rw [← hR.out, hl1, hl2, hl3]; rfl
    clear hl3 hl1 hl2
    go_wp2_with (go_at_call 69; fail)
    rw [← hV.out]
    refine cM4.out.mono ?_
    rintro e w5 ⟨rfl, rfl⟩
    go_wp2
    go_ret
    rw [hr.out]
    exact ⟨rfl, hb5.out⟩
  · have y3 : decide (bt < (n.text.size : Int)) = false := by simp at hl3 ⊢; exact hl3
    have hr : Hid (R = true) := by show _ = _; rw [← hR.out, hl1, hl2, hl3]; rfl
    clear hl3 hl1 hl2
    go_wp2_with (go_at_call 69; fail)
    rw [← hV.out]
    refine cM4.out.mono ?_
    rintro e w5 ⟨rfl, rfl⟩
    go_wp2
    go_ret
    rw [hr.out]
    exact ⟨rfl, hb5.out⟩
set_option maxRecDepth 20000 in
set_option maxHeartbeats 1000000 in
theorem implIndexQ (o : Option Addr) (F : List GQueryNode) (cap lo : Nat) (w : World) (hF : GQueryNodesL lo w.heap.size w o F) (hl : F.length ≤ 1048576) (hf : ∀ n ∈ F, n.fits 1048576) (hk : ∀ n ∈ F, n.kids.length ≤ 100) :
    Calls Tryz.prog 68 #[.slice o F.length cap, .func (.func 52) #[] #[]] w fun e w' => ∃ i : Int, e = .returned (.int .i64 i) ∧ decide (0 ≤ i) = !F.all Qu.right ∧ Below w.heap.size w w' := by
  have hE : ∀ (args : Array Value) (w : World), (callFunc 52 args).run Tryz.prog w = .ok (.enter 52 args) w := Go.Proofs.enters_of Tryz.func52 (by kernel_rfl) rfl
  have HF := mkHid hF
  have Hf := mkHid hf
  have Hk := mkHid hk
  clear hF hf hk
  obtain ⟨R, hR⟩ : ∃ R, F.all Qu.right = R := ⟨_, rfl⟩
  have HR : Hid ((F.drop 0).all Qu.right = R) := hR
  rw [hR]
  clear hR
  go_enter Tryz.func68, Tryz.ntmps68
  go_wp2
  go_loopw [5, 8] (fun _ iv wr => ∃ k : Nat, k ≤ F.length ∧ iv = .int .i64 k ∧ Hid ((F.drop k).all Qu.right = R) ∧ Hid (Below w.heap.size w wr)) (fun _ iv _ => F.length - (Lib.intOf iv).toNat)
  case atStart => exact ⟨0, Nat.zero_le _, rfl, HR, Below.refl _ _⟩
  case round =>
    clear HR
    obtain ⟨k, hk, rfl, hp, hB⟩ := hrel
    by_cases hlt : k < F.length
    · obtain ⟨a, v4, v5, rfl, ha1, ha2, hAt, hIn⟩ := ((HF.out.below hB.out (Nat.le_refl _)).mono (Nat.le_refl _) hB.out.size) k hlt
      have hst := Rg.all_dropR Qu.right F k hlt
      rw [hp.out] at hst
      have cN := mkHid (implNoNode F[k] v4 v5 lo wr hIn (Hf.out _ (List.getElem_mem hlt)) (Hk.out _ (List.getElem_mem hlt)))
      obtain ⟨⟨a4, c4', rfl, -⟩, ⟨a5, c5', rfl, -⟩⟩ := hIn
      have d0 := hAt.c0
      have d1 := hAt.c1
      have d2 := hAt.c2
      have d3 := hAt.c3
      have d4 := hAt.c4
      have d5 := hAt.c5
      have Hst := mkHid hst
      clear hst hp hAt
      unfold GQueryNodeV at cN
      generalize Qu.right F[k] = nb at *
      generalize F[k] = x at *
      go_wp2_with fail
      refine cN.out.mono ?_
      rintro e w1 ⟨rfl, hb1⟩
      have hB1 := mkHid (hB.out.trans (hb1.mono hB.out.size))
      clear cN hb1 hB d0 d1 d2 d3 d4 d5
      cases nb
      · have hR : R = false := by rw [Hst.out, Bool.false_and]
        subst hR
        clear Hst
        go_wp2
        go_ret
        exact ⟨k, rfl, by simp, hB1.out⟩
      · have HN : Hid ((F.drop (k + 1)).all Qu.right = R) := by show _ = _; rw [Hst.out, Bool.true_and]
        clear Hst
        go_wp2
        go_roundw
        case rel => exact ⟨k + 1, by omega, by go_num, HN, hB1⟩
        case measure => simp [Lib.intOf]; omega
    · have hR : R = true := by rw [← hp.out, List.drop_eq_nil_of_le (by omega)]; rfl
      subst hR
      clear hp
      go_wp2
      go_ret
      exact ⟨-1, rfl, rfl, hB.out⟩
set_option maxRecDepth 20000 in
theorem implContainsQ (o : Option Addr) (F : List GQueryNode) (cap lo : Nat) (w : World) (hF : GQueryNodesL lo w.heap.size w o F) (hl : F.length ≤ 1048576) (hf : ∀ n ∈ F, n.fits 1048576) (hk : ∀ n ∈ F, n.kids.length ≤ 100) :
    Calls Tryz.prog 51 #[.slice o F.length cap, .func (.func 52) #[] #[]] w fun e w' => e = .returned (.bool (!F.all Qu.right)) ∧ Below w.heap.size w w' := by
  have hI := mkHid (implIndexQ o F cap lo w hF hl hf hk)
  clear hF hf hk
  go_enter Tryz.func51, Tryz.ntmps51
  go_wp2_with fail
  refine hI.out.mono ?_
  rintro e w2 ⟨i, rfl, hi, hb⟩
  go_wp2
  go_ret
  exact ⟨by rw [← hi]; rfl, hb⟩
end Go.Proofs.YtfaeckaeaeadeaaGreatDoor
namespace Go.Proofs.YtfaeckaeaeadeaaGreatDoor
open Go.RowKit Go.Lib Go.Maps
set_option linter.unusedVariables false
namespace Tr
variable {ok : Nat → Bool} {kids : Nat → List Int}
set_option maxRecDepth 20000 in
theorem run_klen : ∀ (n : Nat) (o : List Int), run ok kids n = some o → ∀ i, i < n → (kids i).length ≤ i
  | 0, o, _, i, hi => by omega
  | n + 1, o, h, i, hi => by
    unfold run at h
    split at h
    · cases h
    · rename_i p hp
      split at h
      · rename_i hc
        by_cases e : i = n
        · subst e
          have := run_len i p hp
          have := hc.1
          omega
        · exact run_klen n p hp i (by omega)
      · cases h
set_option maxRecDepth 20000 in
theorem oneT_klen (kids : Nat → List Int) (N : Nat) (h : oneT kids N = true) : ∀ i, i < N → (kids i).length ≤ i := by
  unfold oneT at h
  cases hr : run tt kids N with
  | none => rw [hr] at h; cases h
  | some o => exact run_klen N o hr
end Tr
namespace Qu
set_option maxRecDepth 20000 in
theorem ok_all (F : List GQueryNode) : (∀ i, i < F.length → ok F i = true) ↔ F.all right = true := by
  rw [List.all_eq_true]
  constructor
  · intro h n hn
    obtain ⟨i, hi, rfl⟩ := List.getElem_of_mem hn
    have := h i hi
    unfold ok at this
    rw [List.getElem?_eq_getElem hi] at this
    exact this
  · intro h i hi
    unfold ok
    rw [List.getElem?_eq_getElem hi]
    exact h _ (List.getElem_mem hi)
def great (F : List GQueryNode) : Bool := decide ((100 : Int) < (F.length : Int)) || decide ((10 : Int) < (Tr.depTo (kids F) F.length (F.length - 1) : Int))
set_option maxRecDepth 20000 in
theorem good_eq (F : List GQueryNode) : good F = (Tr.oneT (kids F) F.length && (!great F && F.all right)) := by
  unfold good great
  cases hn : F.length with
  | zero => rfl
  | succ n =>
    rw [show n + 1 - 1 = n by omega, decide_eq_true (show 1 ≤ n + 1 by omega), Bool.true_and, Bool.eq_iff_iff]
    simp only [Bool.and_eq_true, decide_eq_true_eq, beq_iff_eq, Bool.not_eq_true', Bool.or_eq_false_iff, decide_eq_false_iff_not]
    rw [Tr.span_oneT (ok := ok F) (kids := kids F) n 9, ← hn, ok_all F, hn]
    constructor
    · rintro ⟨a, b, c, d⟩
      exact ⟨b, ⟨by omega, by omega⟩, d⟩
    · rintro ⟨b, ⟨a, c⟩, d⟩
      exact ⟨by omega, b, by omega, d⟩
end Qu
set_option maxRecDepth 20000 in
theorem implTooGreat (o : Option Addr) (F : List GQueryNode) (cap lo : Nat) (w : World) (hF : GQueryNodesL lo w.heap.size w o F) (hl : F.length ≤ 1048576) (hf : ∀ n ∈ F, n.fits 1048576) (h1 : Tr.oneT (Qu.kids F) F.length = true) :
    Calls Tryz.prog 50 #[.slice o F.length cap] w fun e w' => e = .returned (.bool (Qu.great F)) ∧ Below w.heap.size w w' := by
  have hpos : 1 ≤ F.length := by
    cases hn : F.length with
    | zero => rw [hn] at h1; cases h1
    | succ n => omega
  unfold Qu.great
  by_cases hbig : 100 < F.length
  · have x1 : decide ((100 : Int) < (F.length : Int)) = true := decide_eq_true (by omega)
    rw [x1, Bool.true_or]
    clear hF hf
    go_enter Tryz.func50, Tryz.ntmps50
    go_wp2
    go_ret
    exact ⟨rfl, Below.refl _ _⟩
  · have x1 : decide ((100 : Int) < (F.length : Int)) = false := decide_eq_false (by omega)
    have cD := mkHid (implDepth o F cap lo w hF (by omega) hpos hf (Tr.oneT_kids _ _ h1))
    rw [x1, Bool.false_or]
    generalize Tr.depTo (Qu.kids F) F.length (F.length - 1) = dd at *
    clear hF hf h1
    obtain ⟨bd, hbd⟩ : ∃ bd, decide ((10 : Int) < (dd : Int)) = bd := ⟨_, rfl⟩
    rw [hbd]
    go_enter Tryz.func50, Tryz.ntmps50
    go_wp2_with fail
    refine cD.out.mono ?_
    rintro e w1 ⟨rfl, hb1⟩
    go_wp2
    go_ret
    exact ⟨rfl, hb1⟩
set_option maxRecDepth 20000 in
set_option maxHeartbeats 1000000 in
theorem implIsQuery (o : Option Addr) (F : List GQueryNode) (cap lo : Nat) (w : World) (hF : GQueryNodesL lo w.heap.size w o F) (hl : F.length ≤ 1048576) (hf : ∀ n ∈ F, n.fits 1048576) :
    Calls Tryz.prog 30 #[.slice o F.length cap] w fun e w' => e = .returned (.bool (Qu.good F)) ∧ Below w.heap.size w w' := by
  have c1 := mkHid (implOneTree o F cap lo w hF hl hf)
  rw [Qu.good_eq]
  cases h1 : Tr.oneT (Qu.kids F) F.length
  · rw [h1] at c1
    rw [Bool.false_and]
    clear hF hf
    go_enter Tryz.func30, Tryz.ntmps30
    go_wp2_with fail
    refine c1.out.mono ?_
    rintro e w1 ⟨rfl, hb1⟩
    go_wp2
    go_ret
    exact ⟨rfl, hb1⟩
  · rw [h1] at c1
    rw [Bool.true_and]
    have c2 : Hid (∀ w', Below w.heap.size w w' → Calls Tryz.prog 50 #[.slice o F.length cap] w' fun e w'' => e = .returned (.bool (Qu.great F)) ∧ Below w'.heap.size w' w'') := fun w' hb => implTooGreat o F cap lo w' ((hF.below hb (Nat.le_refl _)).mono (Nat.le_refl _) hb.size) hl hf h1
    cases h2 : Qu.great F
    · rw [h2] at c2
      have hkl : ∀ n ∈ F, n.kids.length ≤ 100 := by
        intro n hn
        obtain ⟨i, hi, rfl⟩ := List.getElem_of_mem hn
        have := Tr.oneT_klen _ _ h1 i hi
        have e : Qu.kids F i = F[i].kids := by unfold Qu.kids; rw [List.getElem?_eq_getElem hi]; rfl
        rw [e] at this
        unfold Qu.great at h2
        rw [Bool.or_eq_false_iff] at h2
        have := of_decide_eq_false h2.1
        omega
      have c3 : Hid (∀ w', Below w.heap.size w w' → Calls Tryz.prog 51 #[.slice o F.length cap, .func (.func 52) #[] #[]] w' fun e w'' => e = .returned (.bool (!F.all Qu.right)) ∧ Below w'.heap.size w' w'') := fun w' hb => implContainsQ o F cap lo w' ((hF.below hb (Nat.le_refl _)).mono (Nat.le_refl _) hb.size) hl hf hkl
      generalize F.all Qu.right = z at *
      clear hF hf hkl
      cases z
      all_goals
        go_enter Tryz.func30, Tryz.ntmps30
        go_wp2_with fail
        refine c1.out.mono ?_
        rintro e w1 ⟨rfl, hb1⟩
        have c2' := mkHid (c2.out w1 hb1)
        go_wp2_with fail
        refine c2'.out.mono ?_
        rintro e w2 ⟨rfl, hb2⟩
        have hB2 := hb1.trans (hb2.mono hb1.size)
        have c3' := mkHid (c3.out w2 hB2)
        clear c1 c2 c3 c2'
        go_wp2_with fail
        refine c3'.out.mono ?_
        rintro e w3 ⟨rfl, hb3⟩
        have hB3 := mkHid (hB2.trans (hb3.mono hB2.size))
        go_wp2
        go_ret
        exact ⟨rfl, hB3.out⟩
    · rw [h2] at c2
      clear hF hf
      go_enter Tryz.func30, Tryz.ntmps30
      go_wp2_with fail
      refine c1.out.mono ?_
      rintro e w1 ⟨rfl, hb1⟩
      have c2' := mkHid (c2.out w1 hb1)
      clear c1 c2
      go_wp2_with fail
      refine c2'.out.mono ?_
      rintro e w2 ⟨rfl, hb2⟩
      have hB2 := mkHid (hb1.trans (hb2.mono hb1.size))
      go_wp2
      go_ret
      exact ⟨rfl, hB2.out⟩
set_option maxRecDepth 20000 in
theorem implQueryFault (o : Option Addr) (F : List GQueryNode) (cap lo : Nat) (w : World) (hF : GQueryNodesL lo w.heap.size w o F) (hl : F.length ≤ 1048576) (hf : ∀ n ∈ F, n.fits 1048576) :
    Calls Tryz.prog 13 #[.slice o F.length cap] w fun e w' => e = .returned (.int .i64 (plQueryFault F)) ∧ Below w.heap.size w w' := by
  have c1 := mkHid (implIsQuery o F cap lo w hF hl hf)
  unfold plQueryFault
  generalize Qu.good F = z at *
  clear hF hf
  go_enter Tryz.func13, Tryz.ntmps13
  go_wp2_with fail
  refine c1.out.mono ?_
  rintro e w1 ⟨rfl, hb1⟩
  have c2 := mkHid (implForm z w1)
  go_wp2_with fail
  refine c2.out.mono ?_
  rintro e w2 ⟨rfl, rfl⟩
  go_wp2
  go_ret
  exact ⟨rfl, hb1⟩
end Go.Proofs.YtfaeckaeaeadeaaGreatDoor
