/- Both Wilds at texts of any length. -/
import Derived.Test.YtdlacoakimahkaaWildImpl
import Derived.Test.YtdlacoakimahkaaWildSpec
namespace Go.Proofs.Ytdlacoakimahkaa
open Go.RowKit Go.Lib
/-- What is told: nothing of what is too long. -/
def wildOf (p t : ByteArray) : List (List UInt8) := if p.size ≤ 200 ∧ t.size ≤ 2000 then Wi.wild p.data.toList t.data.toList else []
theorem wildOf_len (p t : ByteArray) : (wildOf p t).length ≤ 10 := by
  unfold wildOf Wi.wild
  split
  · split
    · exact Wi.told_len _ _ _ _
    · simp
  · simp
set_option maxHeartbeats 400000 in
set_option maxRecDepth 20000 in
theorem specWildAny (p t : ByteArray) (w : World) (hp : p.size ≤ 4000000000) (ht : t.size ≤ 4000000000) :
    Calls Try.prog 7 #[.string p, .string t] w fun e w' => ∃ v, e = .returned v ∧ OwnS w.heap.size v (wildOf p t) w' ∧ Below w.heap.size w w' := by
  unfold wildOf
  by_cases h : p.size ≤ 200 ∧ t.size ≤ 2000
  · rw [if_pos h]; exact specWild p t w h.1 h.2
  · rw [if_neg h]
    by_cases h1 : p.size ≤ 200
    · have h2 : 2000 < t.size := by omega
      clear h
      go_enter Try.func7, Try.ntmps7
      go_wp2
      go_ret
      exact ⟨_, rfl, OwnS.made _ _ (Nat.le_refl _), (Below.refl _ _).alloc (Nat.le_refl _) _⟩
    · have h2 : 200 < p.size := by omega
      clear h h1
      go_enter Try.func7, Try.ntmps7
      go_wp2
      go_ret
      exact ⟨_, rfl, OwnS.made _ _ (Nat.le_refl _), (Below.refl _ _).alloc (Nat.le_refl _) _⟩
set_option maxHeartbeats 400000 in
set_option maxRecDepth 20000 in
theorem implWildAny (p t : ByteArray) (w : World) (hp : p.size ≤ 4000000000) (ht : t.size ≤ 4000000000) :
    Calls Try.prog 5 #[.string p, .string t] w fun e w' => ∃ v, e = .returned v ∧ OwnS w.heap.size v (wildOf p t) w' ∧ Below w.heap.size w w' := by
  unfold wildOf
  by_cases h : p.size ≤ 200 ∧ t.size ≤ 2000
  · rw [if_pos h]; exact implWild p t w h.1 h.2
  · rw [if_neg h]
    by_cases h1 : p.size ≤ 200
    · have h2 : 2000 < t.size := by omega
      clear h
      go_enter Try.func5, Try.ntmps5
      go_wp2
      go_ret
      exact ⟨_, rfl, OwnS.nil _ _, Below.refl _ _⟩
    · have h2 : 200 < p.size := by omega
      clear h h1
      go_enter Try.func5, Try.ntmps5
      go_wp2
      go_ret
      exact ⟨_, rfl, OwnS.nil _ _, Below.refl _ _⟩
theorem wildOf_cases (p t : ByteArray) : wildOf p t = [] ∨ (p.size ≤ 200 ∧ t.size ≤ 2000 ∧ Wi.F (Wi.items p.data.toList) (lower t.data.toList) 0 0 = true ∧ wildOf p t = Wi.told (Wi.items p.data.toList) (lower t.data.toList) t.data.toList (Wi.items p.data.toList).length) := by
  unfold wildOf
  by_cases h : p.size ≤ 200 ∧ t.size ≤ 2000
  · rw [if_pos h]
    unfold Wi.wild
    cases hF : Wi.F (Wi.items p.data.toList) (lower t.data.toList) 0 0
    · exact .inl rfl
    · exact .inr ⟨h.1, h.2, rfl, rfl⟩
  · rw [if_neg h]; exact .inl rfl
end Go.Proofs.Ytdlacoakimahkaa
