/- The walk of the law on Wild. -/
import Derived.Test.YteelfejhedghfaaMarks
import Derived.Test.YteelfejhedghfaaWildImpl
import Derived.Test.YteelfejhedghfaaWildSpec
namespace Go.Proofs.Yteelfejhedghfaa
open Go.RowKit Go.Lib
/-- What is told: nothing of what is too long. -/
def wildOf (p t : ByteArray) : List (List UInt8) := if p.size ≤ 200 ∧ t.size ≤ 2000 then Wi.wild p.data.toList t.data.toList else []
theorem wildOf_len (p t : ByteArray) : (wildOf p t).length ≤ 10 := by
  unfold wildOf Wi.wild
  split
  · split
    · exact Wi.told_len _ _ _ _
    · simp
  · simp
set_option maxHeartbeats 400000 in
set_option maxRecDepth 20000 in
theorem specWildAny (p t : ByteArray) (w : World) (hp : p.size ≤ 1048576) (ht : t.size ≤ 1048576) :
    Calls Try.prog 4 #[.string p, .string t] w fun e w' => ∃ v, e = .returned v ∧ OwnS w.heap.size v (wildOf p t) w' ∧ Below w.heap.size w w' := by
  unfold wildOf
  by_cases h : p.size ≤ 200 ∧ t.size ≤ 2000
  · rw [if_pos h]; exact specWild p t w h.1 h.2
  · rw [if_neg h]
    by_cases h1 : p.size ≤ 200
    · have h2 : 2000 < t.size := by omega
      clear h
      go_enter Try.func4, Try.ntmps4
      go_wp2
      go_ret
      exact ⟨_, rfl, OwnS.made _ _ (Nat.le_refl _), (Below.refl _ _).alloc (Nat.le_refl _) _⟩
    · have h2 : 200 < p.size := by omega
      clear h h1
      go_enter Try.func4, Try.ntmps4
      go_wp2
      go_ret
      exact ⟨_, rfl, OwnS.made _ _ (Nat.le_refl _), (Below.refl _ _).alloc (Nat.le_refl _) _⟩
set_option maxHeartbeats 400000 in
set_option maxRecDepth 20000 in
theorem implWildAny (p t : ByteArray) (w : World) (hp : p.size ≤ 1048576) (ht : t.size ≤ 1048576) :
    Calls Try.prog 5 #[.string p, .string t] w fun e w' => ∃ v, e = .returned v ∧ OwnS w.heap.size v (wildOf p t) w' ∧ Below w.heap.size w w' := by
  unfold wildOf
  by_cases h : p.size ≤ 200 ∧ t.size ≤ 2000
  · rw [if_pos h]; exact implWild p t w h.1 h.2
  · rw [if_neg h]
    by_cases h1 : p.size ≤ 200
    · have h2 : 2000 < t.size := by omega
      clear h
      go_enter Try.func5, Try.ntmps5
      go_wp2
      go_ret
      exact ⟨_, rfl, OwnS.nil _ _, Below.refl _ _⟩
    · have h2 : 200 < p.size := by omega
      clear h h1
      go_enter Try.func5, Try.ntmps5
      go_wp2
      go_ret
      exact ⟨_, rfl, OwnS.nil _ _, Below.refl _ _⟩
set_option maxHeartbeats 1000000 in
theorem wildWalk (s t : ByteArray) (w : World) (hs : s.size ≤ maxLen) (ht : t.size ≤ maxLen) :
    Calls Try.prog 3 #[.string s, .string t] w fun e w' => e = .returned (.bool true) ∧ Below w.heap.size w w' := by
  unfold maxLen at hs ht
  by_cases hbig : 1048576 < s.size
  · go_enter Try.func3, Try.ntmps3
    go_wp2
    go_ret
    exact ⟨rfl, Below.refl _ _⟩
  · by_cases hbig2 : 1048576 < t.size
    · go_enter Try.func3, Try.ntmps3
      go_wp2
      go_ret
      exact ⟨rfl, Below.refl _ _⟩
    · have hlen := wildOf_len s t
      have hsp := mkHidL (fun W => specWildAny s t W (by omega) (by omega))
      have him := mkHidL (fun W => implWildAny s t W (by omega) (by omega))
      generalize wildOf s t = ls at *
      go_enter Try.func3, Try.ntmps3
      go_wp2_with fail
      refine (hsp.out _).mono ?_
      rintro e w1 ⟨v0, rfl, hown0, hb1⟩
      obtain ⟨a0, c0, hv0, hrow0⟩ := hown0.row
      rw [hv0] at hown0 ⊢
      clear hrow0 hv0
      go_wp2_with fail
      refine (him.out _).mono ?_
      rintro e w2 ⟨v1, rfl, hown1, hb2⟩
      obtain ⟨a1, c1, hv1, hrow1⟩ := hown1.row
      rw [hv1] at hown1 ⊢
      have hown0' := hown0.keep (Nat.le_refl _) hb2
      obtain ⟨a0', c0', hv0, hrow0⟩ := hown0'.row
      obtain ⟨rfl, rfl⟩ : a0 = a0' ∧ c0 = c0' := by simp only [Value.slice.injEq] at hv0; exact ⟨hv0.1, hv0.2.2⟩
      go_wp2_with fail
      refine (eqStrs a1 a0 c1 c0 ls _ (by omega) hrow1 hrow0).mono ?_
      rintro e w3 ⟨rfl, hb3⟩
      have hown1' := hown1.keep (Nat.le_refl _) hb3
      have hs1 := hb1.size
      have hs2 := hb2.size
      have hs3 := hb3.size
      clear hrow0 hrow1 hv1 hown0'
      go_wp2_with fail
      refine (markStrs a1 c1 w1.heap.size ls _ (by omega) hown1' (by omega)).mono ?_
      rintro e w4 ⟨rfl, hown4, hb4⟩
      obtain ⟨a1', c1', hv1, hrow1⟩ := hown4.row
      rw [Pl.marks_len] at hv1
      obtain ⟨rfl, rfl⟩ : a1 = a1' ∧ c1 = c1' := by simp only [Value.slice.injEq] at hv1; exact ⟨hv1.1, hv1.2.2⟩
      clear hv1
      go_wp2_with fail
      refine (heldStrs a1 ls.length c1 _ (by omega) hrow1).mono ?_
      rintro e w5 ⟨rfl, hb5⟩
      have hs4 := hb4.size
      have hs5 := hb5.size
      have hb14 : Below w1.heap.size w1 w4 := (hb2.trans (hb3.mono hs2)).trans hb4
      have hb15 : Below w1.heap.size w1 w5 := hb14.trans (hb5.mono (by omega))
      have hb05 : Below w.heap.size w w5 := hb1.trans (hb15.mono hs1)
      have hneg : decide ((1 + (ls.length : Int)) < 0) = false := by simp; omega
      clear hrow1 hb2 hb3 hb4
      go_wp2_with fail
      refine (him.out _).mono ?_
      rintro e w6 ⟨v2, rfl, hown2, hb6⟩
      obtain ⟨a2, c2, hv2, hrow2⟩ := hown2.row
      rw [hv2]
      have hs6 := hb6.size
      have hb16 : Below w1.heap.size w1 w6 := hb15.trans (hb6.mono (by omega))
      have hown0' := hown0.keep (Nat.le_refl _) hb16
      obtain ⟨a0', c0', hv0, hrow0⟩ := hown0'.row
      obtain ⟨rfl, rfl⟩ : a0 = a0' ∧ c0 = c0' := by simp only [Value.slice.injEq] at hv0; exact ⟨hv0.1, hv0.2.2⟩
      clear hv0 hown0'
      go_wp2_with fail
      refine (eqStrs a2 a0 c2 c0 ls _ (by omega) hrow2 hrow0).mono ?_
      rintro e w7 ⟨rfl, hb7⟩
      have hs7 := hb7.size
      have hb47 : Below w4.heap.size w4 w7 := (hb5.trans (hb6.mono hs5)).trans (hb7.mono (by omega))
      have hown4' := hown4.keep (Nat.le_refl _) hb47
      obtain ⟨a1', c1', hv1, hrow1⟩ := hown4'.row
      rw [Pl.marks_len] at hv1
      obtain ⟨rfl, rfl⟩ : a1 = a1' ∧ c1 = c1' := by simp only [Value.slice.injEq] at hv1; exact ⟨hv1.1, hv1.2.2⟩
      clear hv1 hown4' hrow0 hrow2
      go_wp2_with fail
      refine (heldStrs a1 ls.length c1 _ (by omega) hrow1).mono ?_
      rintro e w8 ⟨rfl, hb8⟩
      have hfin : Below w.heap.size w w8 := (hb05.trans (hb6.mono (by omega))).trans ((hb7.mono (by omega)).trans (hb8.mono (by omega)))
      clear hrow1
      go_wp2
      go_ret
      exact ⟨rfl, hfin⟩
end Go.Proofs.Yteelfejhedghfaa
