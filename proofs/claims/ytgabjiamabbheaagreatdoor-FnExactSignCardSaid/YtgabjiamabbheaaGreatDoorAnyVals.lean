
/- A region that draws its order, by what its operations yield: one case an operation, whatever the order. Laws of no program. -/
import Derived.Test.YtgabjiamabbheaaGreatDoorAnyInv
namespace Go.Proofs.YtgabjiamabbheaaGreatDoor
open Go.RowKit
/-- A register's value put in. -/
def put (x : Nat → Value) (d : Nat) (v : Value) (j : Nat) : Value := if j = d then v else x j
section
variable {P : Program} {ops : Array Oper} {Q : Exit → Act → World → Prop} {md : Region.Mode}
structure ValS (ops : Array Oper) (dst : Nat → Nat) (A : (Nat → Value) → Act) (F : Nat → Value → World → Prop) (R : World → World → Prop) (W : World) (n : Nat) (L : Array Bool) (a : Act) (w : World) : Prop where
  size : L.size = ops.size
  left : Go.Proofs.YtgabjiamabbheaaGreatDoor.left L = n
  gr : R W w
  val : ∃ x, a = A x ∧ ∀ j, L.getD j false = true → F j (x (dst j)) w
set_option maxRecDepth 20000 in
theorem wpAny_vals (dst : Nat → Nat) (A : (Nat → Value) → Act) (F : Nat → Value → World → Prop) (R : World → World → Prop) (W : World)
    (hlow : afterLow ops = true) (hdst : ∀ i j, i < ops.size → j < ops.size → j ≠ i → dst j ≠ dst i) (htr : ∀ a b c, R a b → R b c → R a c) (hF : ∀ j v w w', F j v w → R w w' → F j v w')
    (hend : ∀ x w, R W w → (∀ i, i < ops.size → F i (x (dst i)) w) → Q .normal (A x) w)
    (hstep : ∀ x L w i, R W w → i ∈ Region.ready md ops L → (∀ j, L.getD j false = true → F j (x (dst j)) w) → wpOp P ops Q i (fun a' w' => ∃ v, a' = A (put x (dst i) v) ∧ F i v w' ∧ R w w') (A x) w)
    (n : Nat) (L : Array Bool) (a : Act) (w : World) (hs : L.size = ops.size) (hl : left L = n) (h0 : (L.toList.all fun b => !b) = true) (hR : R W w) (x : Nat → Value) (ha : a = A x) : wpAny P md ops Q n L a w := by
  refine wpAny_by (ValS ops dst A F R W) hlow (fun n L a w h => ⟨h.size, h.left⟩) ?_ ?_ n L a w ⟨hs, hl, hR, x, ha, fun j hj => ?_⟩
  · intro n L a w h hall
    obtain ⟨x, rfl, hx⟩ := h.val
    exact hend x w h.gr fun i hi => hx i (hall i hi)
  · intro n L a w h i hi
    obtain ⟨x, rfl, hx⟩ := h.val
    have hr := mem_ready hi
    refine wpOp_mono ?_ (hstep x L w i h.gr hi hx)
    rintro a' w' ⟨v, rfl, hv, hw⟩
    refine ⟨by simpa using h.size, left_set hr.2 h.left, htr _ _ _ h.gr hw, put x (dst i) v, rfl, fun j hj => ?_⟩
    by_cases hji : j = i
    · subst hji
      unfold put
      rw [if_pos rfl]
      exact hv
    · rw [done_set hji] at hj
      have hjs : j < ops.size := by
        rcases Nat.lt_or_ge j L.size with h1 | h1
        · rw [← h.size]; exact h1
        · rw [Array.getD_eq_getD_getElem?, Array.getElem?_eq_none h1] at hj; cases hj
      unfold put
      rw [if_neg (hdst i j hr.1 hjs hji)]
      exact hF j _ _ _ (hx j hj) hw
  · exfalso
    rcases Nat.lt_or_ge j L.size with h1 | h1
    · have := List.all_eq_true.1 h0 L[j] (by simp)
      simp [Array.getD, h1] at hj
      rw [hj] at this
      cases this
    · rw [Array.getD_eq_getD_getElem?, Array.getElem?_eq_none h1] at hj; cases hj
end
end Go.Proofs.YtgabjiamabbheaaGreatDoor
