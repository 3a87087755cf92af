
/- A region that draws its order, by an invariant: one case an operation, whatever the order. Laws of no program. -/

/- A region that draws its order, by what its operations yield: one case an operation, whatever the order. Laws of no program. -/
import Derived.WalkKit
import Derived.RegionTactic
namespace Go.Proofs.YtgabjiamabbheaaGreatDoor
open Go.RowKit
section
variable {P : Program} {ops : Array Oper} {Q : Exit → Act → World → Prop} {md : Region.Mode}
set_option maxRecDepth 20000 in
theorem wpAny_inv (S : Nat → Array Bool → Act → World → Prop)
    (h0 : ∀ L a w, S 0 L a w → Region.ready md ops L = [] ∧ Q .normal a w)
    (h1 : ∀ n L a w, S (n + 1) L a w → (Region.ready md ops L = [] → Q .normal a w) ∧ ∀ i ∈ Region.ready md ops L, wpOp P ops Q i (S n (L.setIfInBounds i true)) a w) :
    ∀ n L a w, S n L a w → wpAny P md ops Q n L a w
  | 0, L, a, w, h => h0 L a w h
  | n + 1, L, a, w, h => ⟨(h1 n L a w h).1, fun i hi => wpOp_mono (fun a w => wpAny_inv S h0 h1 n _ a w) ((h1 n L a w h).2 i hi)⟩
set_option maxRecDepth 20000 in
theorem mem_ready {L : Array Bool} {i : Nat} (h : i ∈ Region.ready md ops L) : i < ops.size ∧ L.getD i true = false := by
  unfold Region.ready at h
  rw [List.mem_filter, List.mem_range, Bool.and_eq_true] at h
  exact ⟨h.1, by simpa using h.2.1⟩
set_option maxRecDepth 20000 in
theorem ready_dep {L : Array Bool} {i : Nat} {o : Oper} (h : i ∈ Region.ready md ops L) (ho : ops[i]? = some o) (k : Nat) (hk : (o.after.toList.any fun e => e.on == k && Region.binds md e) = true) : L.getD k false = true := by
  unfold Region.ready at h
  rw [List.mem_filter, Bool.and_eq_true, ho] at h
  have h2 : (o.after.all fun e => !Region.binds md e || L.getD e.on false) = true := h.2.2
  rw [List.any_eq_true] at hk
  obtain ⟨e, he, hb⟩ := hk
  rw [Bool.and_eq_true, beq_iff_eq] at hb
  have h3 := Array.all_eq_true'.1 h2 e (Array.mem_toList_iff.1 he)
  rw [hb.2, hb.1] at h3
  simpa using h3
/-- No operation waits for one behind it. -/
def afterLow (ops : Array Oper) : Bool := (List.range ops.size).all fun i => ((ops[i]?).map fun o => o.after.toList.all fun e => decide (e.on < i)).getD false
set_option maxRecDepth 20000 in
theorem getD_false {L : Array Bool} {i : Nat} (h : i < L.size) : L.getD i true = L.getD i false := by simp [Array.getD, h]
set_option maxRecDepth 20000 in
theorem all_done {L : Array Bool} (hs : L.size = ops.size) (hA : afterLow ops = true) (hr : Region.ready md ops L = []) : ∀ m i, i < m → i < ops.size → L.getD i false = true
  | 0, i, h, _ => by omega
  | m + 1, i, h, hi => by
    by_cases hm : i < m
    · exact all_done hs hA hr m i hm hi
    · cases hd : L.getD i false with
      | true => rfl
      | false =>
        exfalso
        have hin : i ∈ Region.ready md ops L := by
          unfold Region.ready
          rw [List.mem_filter, List.mem_range, Bool.and_eq_true]
          refine ⟨hi, by rw [getD_false (by omega), hd]; rfl, ?_⟩
          have ha := List.all_eq_true.1 hA i (List.mem_range.2 hi)
          obtain ⟨o, ho⟩ : ∃ o, ops[i]? = some o := ⟨ops[i], by simp⟩
          rw [ho] at ha ⊢
          have ha2 : (o.after.toList.all fun e => decide (e.on < i)) = true := ha
          show (o.after.all fun e => !Region.binds md e || L.getD e.on false) = true
          refine Array.all_eq_true'.2 fun e he => ?_
          have hlt := List.all_eq_true.1 ha2 e (Array.mem_toList_iff.2 he)
          rw [decide_eq_true_eq] at hlt
          rw [all_done hs hA hr m e.on (by omega) (by omega), Bool.or_true]
        rw [hr] at hin
        cases hin
def left (L : Array Bool) : Nat := L.toList.count false
set_option maxRecDepth 20000 in
theorem left_set {L : Array Bool} {i n : Nat} (h : L.getD i true = false) (hn : left L = n + 1) : left (L.setIfInBounds i true) = n := by
  have hi : i < L.size := by
    by_cases hi : i < L.size
    · exact hi
    · simp [Array.getD, hi] at h
  have hv : L[i] = false := by simpa [Array.getD, hi] using h
  unfold left at hn ⊢
  rw [Array.toList_setIfInBounds, List.count_set (by simpa using hi), hn]
  simp [hv]
set_option maxRecDepth 20000 in
theorem left_zero {L : Array Bool} (h : left L = 0) (i : Nat) (hi : i < L.size) : L.getD i true = true := by
  unfold left at h
  have := List.count_eq_zero.1 h
  have hm : L[i] ∈ L.toList := by simp
  cases hv : L[i] with
  | true => simp [Array.getD, hi, hv]
  | false => rw [hv] at hm; exact absurd hm this
set_option maxRecDepth 20000 in
theorem ready_zero {L : Array Bool} (hs : L.size = ops.size) (h : left L = 0) : Region.ready md ops L = [] := by
  unfold Region.ready
  rw [List.filter_eq_nil_iff]
  intro i hi
  rw [left_zero h i (by rw [hs]; exact List.mem_range.1 hi)]
  simp
set_option maxRecDepth 20000 in
theorem done_set {L : Array Bool} {i j : Nat} (h : j ≠ i) : (L.setIfInBounds i true).getD j false = L.getD j false := by
  simp only [Array.getD, Array.size_setIfInBounds]
  split
  · rename_i hj
    show (L.setIfInBounds i true)[j]'(by simpa using hj) = L[j]
    rw [Array.getElem_setIfInBounds hj, if_neg (Ne.symm h)]
  · rfl
set_option maxRecDepth 20000 in
theorem wpAny_by (S : Nat → Array Bool → Act → World → Prop) (hlow : afterLow ops = true) (hS : ∀ n L a w, S n L a w → L.size = ops.size ∧ left L = n)
    (hend : ∀ n L a w, S n L a w → (∀ i, i < ops.size → L.getD i false = true) → Q .normal a w)
    (hstep : ∀ n L a w, S (n + 1) L a w → ∀ i ∈ Region.ready md ops L, wpOp P ops Q i (S n (L.setIfInBounds i true)) a w) :
    ∀ n L a w, S n L a w → wpAny P md ops Q n L a w :=
  wpAny_inv S
    (fun L a w h => ⟨ready_zero (hS _ _ _ _ h).1 (hS _ _ _ _ h).2, hend _ _ _ _ h fun i hi => by
      have hs := (hS _ _ _ _ h).1
      rw [← getD_false (by omega)]
      exact left_zero (hS _ _ _ _ h).2 i (by omega)⟩)
    (fun n L a w h => ⟨fun hr => hend _ _ _ _ h fun i hi => all_done (hS _ _ _ _ h).1 hlow hr _ i (Nat.lt_succ_self i) hi, hstep n L a w h⟩)
end
end Go.Proofs.YtgabjiamabbheaaGreatDoor
namespace Go.Proofs.YtgabjiamabbheaaGreatDoor
open Go.RowKit
/-- A register's value put in. -/
def put (x : Nat → Value) (d : Nat) (v : Value) (j : Nat) : Value := if j = d then v else x j
section
variable {P : Program} {ops : Array Oper} {Q : Exit → Act → World → Prop} {md : Region.Mode}
structure ValS (ops : Array Oper) (dst : Nat → Nat) (A : (Nat → Value) → Act) (F : Nat → Value → World → Prop) (R : World → World → Prop) (W : World) (n : Nat) (L : Array Bool) (a : Act) (w : World) : Prop where
  size : L.size = ops.size
  left : Go.Proofs.YtgabjiamabbheaaGreatDoor.left L = n
  gr : R W w
  val : ∃ x, a = A x ∧ ∀ j, L.getD j false = true → F j (x (dst j)) w
set_option maxRecDepth 20000 in
theorem wpAny_vals (dst : Nat → Nat) (A : (Nat → Value) → Act) (F : Nat → Value → World → Prop) (R : World → World → Prop) (W : World)
    (hlow : afterLow ops = true) (hdst : ∀ i j, i < ops.size → j < ops.size → j ≠ i → dst j ≠ dst i) (htr : ∀ a b c, R a b → R b c → R a c) (hF : ∀ j v w w', F j v w → R w w' → F j v w')
    (hend : ∀ x w, R W w → (∀ i, i < ops.size → F i (x (dst i)) w) → Q .normal (A x) w)
    (hstep : ∀ x L w i, R W w → i ∈ Region.ready md ops L → (∀ j, L.getD j false = true → F j (x (dst j)) w) → wpOp P ops Q i (fun a' w' => ∃ v, a' = A (put x (dst i) v) ∧ F i v w' ∧ R w w') (A x) w)
    (n : Nat) (L : Array Bool) (a : Act) (w : World) (hs : L.size = ops.size) (hl : left L = n) (h0 : (L.toList.all fun b => !b) = true) (hR : R W w) (x : Nat → Value) (ha : a = A x) : wpAny P md ops Q n L a w := by
  refine wpAny_by (ValS ops dst A F R W) hlow (fun n L a w h => ⟨h.size, h.left⟩) ?_ ?_ n L a w ⟨hs, hl, hR, x, ha, fun j hj => ?_⟩
  · intro n L a w h hall
    obtain ⟨x, rfl, hx⟩ := h.val
    exact hend x w h.gr fun i hi => hx i (hall i hi)
  · intro n L a w h i hi
    obtain ⟨x, rfl, hx⟩ := h.val
    have hr := mem_ready hi
    refine wpOp_mono ?_ (hstep x L w i h.gr hi hx)
    rintro a' w' ⟨v, rfl, hv, hw⟩
    refine ⟨by simpa using h.size, left_set hr.2 h.left, htr _ _ _ h.gr hw, put x (dst i) v, rfl, fun j hj => ?_⟩
    by_cases hji : j = i
    · subst hji
      unfold put
      rw [if_pos rfl]
      exact hv
    · rw [done_set hji] at hj
      have hjs : j < ops.size := by
        rcases Nat.lt_or_ge j L.size with h1 | h1
        · rw [← h.size]; exact h1
        · rw [Array.getD_eq_getD_getElem?, Array.getElem?_eq_none h1] at hj; cases hj
      unfold put
      rw [if_neg (hdst i j hr.1 hjs hji)]
      exact hF j _ _ _ (hx j hj) hw
  · exfalso
    rcases Nat.lt_or_ge j L.size with h1 | h1
    · have := List.all_eq_true.1 h0 L[j] (by simp)
      simp [Array.getD, h1] at hj
      rw [hj] at this
      cases this
    · rw [Array.getD_eq_getD_getElem?, Array.getElem?_eq_none h1] at hj; cases hj
end
end Go.Proofs.YtgabjiamabbheaaGreatDoor
