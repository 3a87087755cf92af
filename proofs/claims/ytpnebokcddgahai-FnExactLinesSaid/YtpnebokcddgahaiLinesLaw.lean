/- The walk of the law on Lines. -/
import Derived.Test.YtpnebokcddgahaiHeld
namespace Go.Proofs.Ytpnebokcddgahai
open Go.RowKit Go.Lib
/-- The lines that are told: none of a text that is too long. -/
def linesOf (s : ByteArray) : List (List UInt8) := if s.size ≤ 100000 then Pl.lines s.data.toList else []
theorem linesOf_len (s : ByteArray) : (linesOf s).length ≤ 100000 := by
  unfold linesOf
  split
  · obtain ⟨ls, rfl, h, -⟩ := lines_pack s
    omega
  · simp
set_option maxHeartbeats 400000 in
theorem specLinesAny (s : ByteArray) (w : World) (hs : s.size ≤ 1048576) :
    Calls Try.prog 7 #[.string s] w fun e w' => ∃ v, e = .returned v ∧ OwnS w.heap.size v (linesOf s) w' ∧ Below w.heap.size w w' := by
  unfold linesOf
  by_cases h : s.size ≤ 100000
  · rw [if_pos h]; exact specLines s w h
  · rw [if_neg h]
    go_enter Try.func7, Try.ntmps7
    go_wp2
    go_ret
    exact ⟨_, rfl, OwnS.made _ _ (Nat.le_refl _), (Below.refl _ _).alloc (Nat.le_refl _) _⟩
set_option maxHeartbeats 400000 in
theorem implLinesAny (s : ByteArray) (m : Int) (w : World) (hs : s.size ≤ 1048576) (hm : w.cell? ⟨0, 0, none⟩ = some (.int .i64 m)) :
    Calls Try.prog 8 #[.string s] w fun e w' => ∃ v, e = .returned v ∧ OwnS w.heap.size v (linesOf s) w' ∧ Below w.heap.size w w' := by
  unfold linesOf
  by_cases h : s.size ≤ 100000
  · rw [if_pos h]; exact implLines s m w h hm
  · rw [if_neg h]
    go_enter Try.func8, Try.ntmps8
    go_wp2
    go_ret
    exact ⟨_, rfl, OwnS.nil _ _, Below.refl _ _⟩
set_option maxHeartbeats 1000000 in
theorem linesWalk (s : ByteArray) (m : Int) (w : World) (hs : s.size ≤ maxLen) (hm : w.cell? ⟨0, 0, none⟩ = some (.int .i64 m)) :
    Calls Try.prog 3 #[.string s] w fun e w' => e = .returned (.bool true) ∧ Below w.heap.size w w' := by
  unfold maxLen at hs
  by_cases hbig : 1048576 < s.size
  · go_enter Try.func3, Try.ntmps3
    go_wp2
    go_ret
    exact ⟨rfl, Below.refl _ _⟩
  · have hz := zero_lt hm
    have hlen := linesOf_len s
    have hsp := mkHid (fun W => specLinesAny s W (by omega))
    have him := mkHid (fun m W => implLinesAny s m W (by omega))
    generalize linesOf s = ls at *
    have Hm : Hid (∀ W, Below w.heap.size w W → W.cell? ⟨0, 0, none⟩ = some (.int .i64 m)) := fun W hb => (hb.cell (p := ⟨0, 0, none⟩) hz).trans hm
    clear hm
    go_enter Try.func3, Try.ntmps3
    go_wp2_with fail
    refine (hsp.out _).mono ?_
    rintro e w1 ⟨v0, rfl, hown0, hb1⟩
    obtain ⟨a0, c0, hv0, hrow0⟩ := hown0.row
    rw [hv0] at hown0 ⊢
    clear hrow0 hv0
    go_wp2_with fail
    refine (him.out m _ (Hm.out _ hb1)).mono ?_
    rintro e w2 ⟨v1, rfl, hown1, hb2⟩
    obtain ⟨a1, c1, hv1, hrow1⟩ := hown1.row
    rw [hv1] at hown1 ⊢
    have hown0' := hown0.keep (Nat.le_refl _) hb2
    obtain ⟨a0', c0', hv0, hrow0⟩ := hown0'.row
    obtain ⟨rfl, rfl⟩ : a0 = a0' ∧ c0 = c0' := by simp only [Value.slice.injEq] at hv0; exact ⟨hv0.1, hv0.2.2⟩
    go_wp2_with fail
    refine (eqStrs a1 a0 c1 c0 ls _ (by omega) hrow1 hrow0).mono ?_
    rintro e w3 ⟨rfl, hb3⟩
    have hown1' := hown1.keep (Nat.le_refl _) hb3
    have hs1 := hb1.size
    have hs2 := hb2.size
    have hs3 := hb3.size
    clear hrow0 hrow1 hv1 hown0'
    go_wp2_with fail
    refine (markStrs a1 c1 w1.heap.size ls _ (by omega) hown1' (by omega)).mono ?_
    rintro e w4 ⟨rfl, hown4, hb4⟩
    obtain ⟨a1', c1', hv1, hrow1⟩ := hown4.row
    rw [Pl.marks_len] at hv1
    obtain ⟨rfl, rfl⟩ : a1 = a1' ∧ c1 = c1' := by simp only [Value.slice.injEq] at hv1; exact ⟨hv1.1, hv1.2.2⟩
    clear hv1
    go_wp2_with fail
    refine (heldStrs a1 ls.length c1 _ (by omega) hrow1).mono ?_
    rintro e w5 ⟨rfl, hb5⟩
    have hs4 := hb4.size
    have hs5 := hb5.size
    have hb14 : Below w1.heap.size w1 w4 := (hb2.trans (hb3.mono hs2)).trans hb4
    have hb15 : Below w1.heap.size w1 w5 := hb14.trans (hb5.mono (by omega))
    have hb05 : Below w.heap.size w w5 := hb1.trans (hb15.mono hs1)
    have hneg : decide ((1 + (ls.length : Int)) < 0) = false := by simp; omega
    clear hrow1 hb2 hb3 hb4
    go_wp2_with fail
    refine (him.out m _ (Hm.out _ hb05)).mono ?_
    rintro e w6 ⟨v2, rfl, hown2, hb6⟩
    obtain ⟨a2, c2, hv2, hrow2⟩ := hown2.row
    rw [hv2]
    have hs6 := hb6.size
    have hb16 : Below w1.heap.size w1 w6 := hb15.trans (hb6.mono (by omega))
    have hown0' := hown0.keep (Nat.le_refl _) hb16
    obtain ⟨a0', c0', hv0, hrow0⟩ := hown0'.row
    obtain ⟨rfl, rfl⟩ : a0 = a0' ∧ c0 = c0' := by simp only [Value.slice.injEq] at hv0; exact ⟨hv0.1, hv0.2.2⟩
    clear hv0 hown0'
    go_wp2_with fail
    refine (eqStrs a2 a0 c2 c0 ls _ (by omega) hrow2 hrow0).mono ?_
    rintro e w7 ⟨rfl, hb7⟩
    have hs7 := hb7.size
    have hb47 : Below w4.heap.size w4 w7 := (hb5.trans (hb6.mono hs5)).trans (hb7.mono (by omega))
    have hown4' := hown4.keep (Nat.le_refl _) hb47
    obtain ⟨a1', c1', hv1, hrow1⟩ := hown4'.row
    rw [Pl.marks_len] at hv1
    obtain ⟨rfl, rfl⟩ : a1 = a1' ∧ c1 = c1' := by simp only [Value.slice.injEq] at hv1; exact ⟨hv1.1, hv1.2.2⟩
    clear hv1 hown4' hrow0 hrow2
    go_wp2_with fail
    refine (heldStrs a1 ls.length c1 _ (by omega) hrow1).mono ?_
    rintro e w8 ⟨rfl, hb8⟩
    have hfin : Below w.heap.size w w8 := (hb05.trans (hb6.mono (by omega))).trans ((hb7.mono (by omega)).trans (hb8.mono (by omega)))
    clear hrow1
    go_wp2
    go_ret
    exact ⟨rfl, hfin⟩
end Go.Proofs.Ytpnebokcddgahai
