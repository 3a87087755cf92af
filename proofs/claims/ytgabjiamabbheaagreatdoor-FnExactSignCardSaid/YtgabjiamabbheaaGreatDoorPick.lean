
/- The last one that is meant of those not taken yet: marks against a list that is cut. Laws of no program. -/
import Derived.Test.YtgabjiamabbheaaGreatDoorNamed
namespace Go.Proofs.YtgabjiamabbheaaGreatDoor
set_option maxRecDepth 20000 in
theorem lastTo_congr {p q : Nat → Bool} : ∀ n, (∀ i, i < n → p i = q i) → lastTo p n = lastTo q n
  | 0, _ => rfl
  | n + 1, h => by
    rw [lastTo, lastTo, h n (Nat.lt_succ_self n), lastTo_congr n fun i hi => h i (Nat.lt_succ_of_lt hi)]
set_option maxRecDepth 20000 in
theorem lastTo_lt {p : Nat → Bool} : ∀ n k, lastTo p n = some k → k < n
  | 0, k, h => by cases h
  | n + 1, k, h => by
    rw [lastTo] at h
    split at h
    · cases h; exact Nat.lt_succ_self _
    · exact Nat.lt_succ_of_lt (lastTo_lt n k h)
set_option maxRecDepth 20000 in
theorem snoc_ind {α : Type} {motive : List α → Prop} (h0 : motive []) (h1 : ∀ l a, motive l → motive (l ++ [a])) (l : List α) : motive l := by
  have : ∀ r : List α, motive r.reverse := by
    intro r
    induction r with
    | nil => exact h0
    | cons a r ih => rw [List.reverse_cons]; exact h1 _ _ ih
  have := this l.reverse
  rwa [List.reverse_reverse] at this
def keep {α : Type} (Z : List (α × Bool)) : List α := (Z.filter fun q => !q.2).map (·.1)
def mtAt {α : Type} (p : α → Bool) (L : List α) (i : Nat) : Bool := (L[i]?.map p).getD false
def unAt {α : Type} (p : α → Bool) (Z : List (α × Bool)) (i : Nat) : Bool := (Z[i]?.map fun q => !q.2 && p q.1).getD false
set_option maxRecDepth 20000 in
theorem keep_snoc {α : Type} (Z : List (α × Bool)) (f : α) (t : Bool) : keep (Z ++ [(f, t)]) = if t then keep Z else keep Z ++ [f] := by
  unfold keep
  cases t <;> simp
set_option maxRecDepth 20000 in
theorem mt_snoc {α : Type} (p : α → Bool) (L : List α) (f : α) : lastTo (mtAt p (L ++ [f])) (L ++ [f]).length = if p f then some L.length else lastTo (mtAt p L) L.length := by
  rw [List.length_append, List.length_singleton, lastTo]
  have e : mtAt p (L ++ [f]) L.length = p f := by simp [mtAt]
  rw [e]
  congr 1
  exact lastTo_congr _ fun i hi => by simp [mtAt, List.getElem?_append_left hi]
set_option maxRecDepth 20000 in
theorem un_snoc {α : Type} (p : α → Bool) (Z : List (α × Bool)) (f : α) (t : Bool) : lastTo (unAt p (Z ++ [(f, t)])) (Z ++ [(f, t)]).length = if !t && p f then some Z.length else lastTo (unAt p Z) Z.length := by
  rw [List.length_append, List.length_singleton, lastTo]
  have e : unAt p (Z ++ [(f, t)]) Z.length = (!t && p f) := by simp [unAt]
  rw [e]
  congr 1
  exact lastTo_congr _ fun i hi => by simp [unAt, List.getElem?_append_left hi]
set_option maxRecDepth 20000 in
theorem pick {α : Type} (p : α → Bool) (Z : List (α × Bool)) :
    (lastTo (unAt p Z) Z.length = none ∧ lastTo (mtAt p (keep Z)) (keep Z).length = none) ∨
    ∃ k f k', lastTo (unAt p Z) Z.length = some k ∧ Z[k]? = some (f, false) ∧ lastTo (mtAt p (keep Z)) (keep Z).length = some k' ∧ (keep Z)[k']? = some f ∧ (keep Z).eraseIdx k' = keep (Z.set k (f, true)) := by
  induction Z using snoc_ind with
  | h0 => exact .inl ⟨rfl, rfl⟩
  | h1 Z a ih =>
    obtain ⟨f, t⟩ := a
    rw [un_snoc, keep_snoc]
    cases t with
    | true =>
      rw [if_pos rfl]
      simp only [Bool.not_true, Bool.false_and, Bool.false_eq_true, if_false]
      rcases ih with ih | ⟨k, g, k', h1, h2, h3, h4, h5⟩
      · exact .inl ih
      · have hk := lastTo_lt _ _ h1
        refine .inr ⟨k, g, k', h1, by rw [List.getElem?_append_left hk]; exact h2, h3, h4, ?_⟩
        rw [h5, List.set_append_left _ _ hk, keep_snoc, if_pos rfl]
    | false =>
      simp only [Bool.false_eq_true, if_false]
      rw [mt_snoc]
      cases hp : p f with
      | true =>
        refine .inr ⟨Z.length, f, (keep Z).length, by simp, by simp, by simp, by simp, ?_⟩
        rw [List.set_append_right _ _ (Nat.le_refl _)]
        rw [List.eraseIdx_append_of_length_le (Nat.le_refl _)]
        simp [keep_snoc]
      | false =>
        simp only [Bool.not_false, Bool.true_and, Bool.false_eq_true, if_false]
        rcases ih with ih | ⟨k, g, k', h1, h2, h3, h4, h5⟩
        · exact .inl ih
        · have hk := lastTo_lt _ _ h1
          have hk' := lastTo_lt _ _ h3
          refine .inr ⟨k, g, k', h1, by rw [List.getElem?_append_left hk]; exact h2, h3, by rw [List.getElem?_append_left hk']; exact h4, ?_⟩
          rw [List.eraseIdx_append_of_lt_length hk', h5, List.set_append_left _ _ hk, keep_snoc, if_neg (by simp)]
end Go.Proofs.YtgabjiamabbheaaGreatDoor
