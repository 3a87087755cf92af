
/- The specification's test of an instruction. -/
import Derived.Test.YtopbokfloapbeaaCodeZero
namespace Go.Proofs.Ytopbokfloapbeaa
open Go.RowKit Go.Lib Go.Maps
set_option maxHeartbeats 4000000 in
set_option maxRecDepth 20000 in
theorem specR1 (to : Int) (nd : Nd) (a1 a2 a3 : Option Addr) (c1 c2 c3 N : Nat) (w : World) (hI : NdIn w.heap.size w nd (.slice a1 nd.names.length c1) (.slice a2 nd.keys.length c2) (.slice a3 nd.kids.length c3)) (hf : nd.fits 1048576) :
    Calls Try.prog 10 #[.agg #[.int .i64 1, .int .i64 to, .int .i64 nd.kind, .int .i64 nd.num, .int .i64 nd.mat, .string nd.text, .slice a1 nd.names.length c1, .slice a2 nd.keys.length c2, .slice a3 nd.kids.length c3], .int .i64 N] w fun e w' => e = .returned (.bool ((to == 0) && (Co.zero nd && (nd.num == 0)))) ∧ Below w.heap.size w w' := by
  obtain ⟨R, hR⟩ : ∃ R, ((to == 0) && (Co.zero nd && (nd.num == 0))) = R := ⟨_, rfl⟩
  rw [hR]
  replace hR := mkH hR
  obtain ⟨W, hW⟩ : ∃ W, W = w.alloc (.cells #[.int .i64 1, .int .i64 to, .int .i64 nd.kind, .int .i64 nd.num, .int .i64 nd.mat, .string nd.text, .slice a1 nd.names.length c1, .slice a2 nd.keys.length c2, .slice a3 nd.kids.length c3] 39) := ⟨_, rfl⟩
  have hbW : Below w.heap.size w W := by rw [hW]; exact (Below.refl _ _).alloc (Nat.le_refl _) _
  have hWs : w.heap.size < W.heap.size := by rw [hW]; simp
  have q0 : W.cell? ⟨w.heap.size, 0, none⟩ = some (.int .i64 1) := by rw [hW]; simp
  have q1 : W.cell? ⟨w.heap.size, 1, none⟩ = some (.int .i64 to) := by rw [hW]; simp
  have q2 : W.cell? ⟨w.heap.size, 2, none⟩ = some (.int .i64 nd.kind) := by rw [hW]; simp
  have q3 : W.cell? ⟨w.heap.size, 3, none⟩ = some (.int .i64 nd.num) := by rw [hW]; simp
  have q4 : W.cell? ⟨w.heap.size, 4, none⟩ = some (.int .i64 nd.mat) := by rw [hW]; simp
  have q5 : W.cell? ⟨w.heap.size, 5, none⟩ = some (.string nd.text) := by rw [hW]; simp
  have q6 : W.cell? ⟨w.heap.size, 6, none⟩ = some (.slice a1 nd.names.length c1) := by rw [hW]; simp
  have q7 : W.cell? ⟨w.heap.size, 7, none⟩ = some (.slice a2 nd.keys.length c2) := by rw [hW]; simp
  have q8 : W.cell? ⟨w.heap.size, 8, none⟩ = some (.slice a3 nd.kids.length c3) := by rw [hW]; simp
  have cZ := mkH fun (w' : World) => specZero nd a1 a2 a3 c1 c2 c3 w'
  have cF := mkH fun (w' : World) (hb : Below w.heap.size w w') => specFields nd _ _ _ w' ((hI.below hb).mono hb.size) hf
  unfold ndV at cF
  replace hW := mkH hW
  clear hI hf
  by_cases hz : Co.zero nd = true
  · rw [hz] at cZ
    have hs_W := hWs
    have hbw_W := hbW
    have q0_W := q0
    have q1_W := q1
    have q2_W := q2
    have q3_W := q3
    have q4_W := q4
    have q5_W := q5
    have q6_W := q6
    have q7_W := q7
    have q8_W := q8
    clear q0 q1 q2 q3 q4 q5 q6 q7 q8 hWs hbW
    go_enter Try.func10, Try.ntmps10
    go_wp2_with fail
    rw [← hW.out]
    refine (cZ.out W).mono ?_
    rintro e w1 ⟨rfl, hb_w1⟩
    have q0_w1 := (hb_w1.cell (p := ⟨w.heap.size, 0, none⟩) hs_W).trans q0_W
    have q1_w1 := (hb_w1.cell (p := ⟨w.heap.size, 1, none⟩) hs_W).trans q1_W
    have q2_w1 := (hb_w1.cell (p := ⟨w.heap.size, 2, none⟩) hs_W).trans q2_W
    have q3_w1 := (hb_w1.cell (p := ⟨w.heap.size, 3, none⟩) hs_W).trans q3_W
    have q4_w1 := (hb_w1.cell (p := ⟨w.heap.size, 4, none⟩) hs_W).trans q4_W
    have q5_w1 := (hb_w1.cell (p := ⟨w.heap.size, 5, none⟩) hs_W).trans q5_W
    have q6_w1 := (hb_w1.cell (p := ⟨w.heap.size, 6, none⟩) hs_W).trans q6_W
    have q7_w1 := (hb_w1.cell (p := ⟨w.heap.size, 7, none⟩) hs_W).trans q7_W
    have q8_w1 := (hb_w1.cell (p := ⟨w.heap.size, 8, none⟩) hs_W).trans q8_W
    have hs_w1 := Nat.lt_of_lt_of_le hs_W hb_w1.size
    have hbw_w1 := hbw_W.trans (hb_w1.mono (Nat.le_of_lt hs_W))
    clear q0_W q1_W q2_W q3_W q4_W q5_W q6_W q7_W q8_W hb_w1 hs_W hbw_W
    by_cases ht : (to == 0) = true
    · go_wp2
      go_ret
      have hr := hR.out
      rw [hz, ht] at hr
      clear hR
      subst hr
      exact ⟨rfl, hbw_w1⟩
    · replace ht : (to == 0) = false := by simpa only [Bool.not_eq_true] using ht
      go_wp2
      go_ret
      have hr := hR.out
      rw [hz, ht] at hr
      clear hR
      subst hr
      exact ⟨rfl, hbw_w1⟩
  · replace hz : Co.zero nd = false := by simpa only [Bool.not_eq_true] using hz
    rw [hz] at cZ
    have hs_W := hWs
    have hbw_W := hbW
    have q0_W := q0
    have q1_W := q1
    have q2_W := q2
    have q3_W := q3
    have q4_W := q4
    have q5_W := q5
    have q6_W := q6
    have q7_W := q7
    have q8_W := q8
    clear q0 q1 q2 q3 q4 q5 q6 q7 q8 hWs hbW
    go_enter Try.func10, Try.ntmps10
    go_wp2_with fail
    rw [← hW.out]
    refine (cZ.out W).mono ?_
    rintro e w1 ⟨rfl, hb_w1⟩
    have q0_w1 := (hb_w1.cell (p := ⟨w.heap.size, 0, none⟩) hs_W).trans q0_W
    have q1_w1 := (hb_w1.cell (p := ⟨w.heap.size, 1, none⟩) hs_W).trans q1_W
    have q2_w1 := (hb_w1.cell (p := ⟨w.heap.size, 2, none⟩) hs_W).trans q2_W
    have q3_w1 := (hb_w1.cell (p := ⟨w.heap.size, 3, none⟩) hs_W).trans q3_W
    have q4_w1 := (hb_w1.cell (p := ⟨w.heap.size, 4, none⟩) hs_W).trans q4_W
    have q5_w1 := (hb_w1.cell (p := ⟨w.heap.size, 5, none⟩) hs_W).trans q5_W
    have q6_w1 := (hb_w1.cell (p := ⟨w.heap.size, 6, none⟩) hs_W).trans q6_W
    have q7_w1 := (hb_w1.cell (p := ⟨w.heap.size, 7, none⟩) hs_W).trans q7_W
    have q8_w1 := (hb_w1.cell (p := ⟨w.heap.size, 8, none⟩) hs_W).trans q8_W
    have hs_w1 := Nat.lt_of_lt_of_le hs_W hb_w1.size
    have hbw_w1 := hbw_W.trans (hb_w1.mono (Nat.le_of_lt hs_W))
    clear q0_W q1_W q2_W q3_W q4_W q5_W q6_W q7_W q8_W hb_w1 hs_W hbw_W
    by_cases ht : (to == 0) = true
    · go_wp2
      go_ret
      have hr := hR.out
      rw [hz, ht] at hr
      clear hR
      subst hr
      exact ⟨rfl, hbw_w1⟩
    · replace ht : (to == 0) = false := by simpa only [Bool.not_eq_true] using ht
      go_wp2
      go_ret
      have hr := hR.out
      rw [hz, ht] at hr
      clear hR
      subst hr
      exact ⟨rfl, hbw_w1⟩
set_option maxHeartbeats 4000000 in
set_option maxRecDepth 20000 in
theorem specR10 (to : Int) (nd : Nd) (a1 a2 a3 : Option Addr) (c1 c2 c3 N : Nat) (w : World) (hI : NdIn w.heap.size w nd (.slice a1 nd.names.length c1) (.slice a2 nd.keys.length c2) (.slice a3 nd.kids.length c3)) (hf : nd.fits 1048576) :
    Calls Try.prog 10 #[.agg #[.int .i64 10, .int .i64 to, .int .i64 nd.kind, .int .i64 nd.num, .int .i64 nd.mat, .string nd.text, .slice a1 nd.names.length c1, .slice a2 nd.keys.length c2, .slice a3 nd.kids.length c3], .int .i64 N] w fun e w' => e = .returned (.bool ((to == 0) && (Co.zero nd && (nd.num == 0)))) ∧ Below w.heap.size w w' := by
  obtain ⟨R, hR⟩ : ∃ R, ((to == 0) && (Co.zero nd && (nd.num == 0))) = R := ⟨_, rfl⟩
  rw [hR]
  replace hR := mkH hR
  obtain ⟨W, hW⟩ : ∃ W, W = w.alloc (.cells #[.int .i64 10, .int .i64 to, .int .i64 nd.kind, .int .i64 nd.num, .int .i64 nd.mat, .string nd.text, .slice a1 nd.names.length c1, .slice a2 nd.keys.length c2, .slice a3 nd.kids.length c3] 39) := ⟨_, rfl⟩
  have hbW : Below w.heap.size w W := by rw [hW]; exact (Below.refl _ _).alloc (Nat.le_refl _) _
  have hWs : w.heap.size < W.heap.size := by rw [hW]; simp
  have q0 : W.cell? ⟨w.heap.size, 0, none⟩ = some (.int .i64 10) := by rw [hW]; simp
  have q1 : W.cell? ⟨w.heap.size, 1, none⟩ = some (.int .i64 to) := by rw [hW]; simp
  have q2 : W.cell? ⟨w.heap.size, 2, none⟩ = some (.int .i64 nd.kind) := by rw [hW]; simp
  have q3 : W.cell? ⟨w.heap.size, 3, none⟩ = some (.int .i64 nd.num) := by rw [hW]; simp
  have q4 : W.cell? ⟨w.heap.size, 4, none⟩ = some (.int .i64 nd.mat) := by rw [hW]; simp
  have q5 : W.cell? ⟨w.heap.size, 5, none⟩ = some (.string nd.text) := by rw [hW]; simp
  have q6 : W.cell? ⟨w.heap.size, 6, none⟩ = some (.slice a1 nd.names.length c1) := by rw [hW]; simp
  have q7 : W.cell? ⟨w.heap.size, 7, none⟩ = some (.slice a2 nd.keys.length c2) := by rw [hW]; simp
  have q8 : W.cell? ⟨w.heap.size, 8, none⟩ = some (.slice a3 nd.kids.length c3) := by rw [hW]; simp
  have cZ := mkH fun (w' : World) => specZero nd a1 a2 a3 c1 c2 c3 w'
  have cF := mkH fun (w' : World) (hb : Below w.heap.size w w') => specFields nd _ _ _ w' ((hI.below hb).mono hb.size) hf
  unfold ndV at cF
  replace hW := mkH hW
  clear hI hf
  by_cases hz : Co.zero nd = true
  · rw [hz] at cZ
    have hs_W := hWs
    have hbw_W := hbW
    have q0_W := q0
    have q1_W := q1
    have q2_W := q2
    have q3_W := q3
    have q4_W := q4
    have q5_W := q5
    have q6_W := q6
    have q7_W := q7
    have q8_W := q8
    clear q0 q1 q2 q3 q4 q5 q6 q7 q8 hWs hbW
    go_enter Try.func10, Try.ntmps10
    go_wp2_with fail
    rw [← hW.out]
    refine (cZ.out W).mono ?_
    rintro e w1 ⟨rfl, hb_w1⟩
    have q0_w1 := (hb_w1.cell (p := ⟨w.heap.size, 0, none⟩) hs_W).trans q0_W
    have q1_w1 := (hb_w1.cell (p := ⟨w.heap.size, 1, none⟩) hs_W).trans q1_W
    have q2_w1 := (hb_w1.cell (p := ⟨w.heap.size, 2, none⟩) hs_W).trans q2_W
    have q3_w1 := (hb_w1.cell (p := ⟨w.heap.size, 3, none⟩) hs_W).trans q3_W
    have q4_w1 := (hb_w1.cell (p := ⟨w.heap.size, 4, none⟩) hs_W).trans q4_W
    have q5_w1 := (hb_w1.cell (p := ⟨w.heap.size, 5, none⟩) hs_W).trans q5_W
    have q6_w1 := (hb_w1.cell (p := ⟨w.heap.size, 6, none⟩) hs_W).trans q6_W
    have q7_w1 := (hb_w1.cell (p := ⟨w.heap.size, 7, none⟩) hs_W).trans q7_W
    have q8_w1 := (hb_w1.cell (p := ⟨w.heap.size, 8, none⟩) hs_W).trans q8_W
    have hs_w1 := Nat.lt_of_lt_of_le hs_W hb_w1.size
    have hbw_w1 := hbw_W.trans (hb_w1.mono (Nat.le_of_lt hs_W))
    clear q0_W q1_W q2_W q3_W q4_W q5_W q6_W q7_W q8_W hb_w1 hs_W hbw_W
    by_cases ht : (to == 0) = true
    · go_wp2
      go_ret
      have hr := hR.out
      rw [hz, ht] at hr
      clear hR
      subst hr
      exact ⟨rfl, hbw_w1⟩
    · replace ht : (to == 0) = false := by simpa only [Bool.not_eq_true] using ht
      go_wp2
      go_ret
      have hr := hR.out
      rw [hz, ht] at hr
      clear hR
      subst hr
      exact ⟨rfl, hbw_w1⟩
  · replace hz : Co.zero nd = false := by simpa only [Bool.not_eq_true] using hz
    rw [hz] at cZ
    have hs_W := hWs
    have hbw_W := hbW
    have q0_W := q0
    have q1_W := q1
    have q2_W := q2
    have q3_W := q3
    have q4_W := q4
    have q5_W := q5
    have q6_W := q6
    have q7_W := q7
    have q8_W := q8
    clear q0 q1 q2 q3 q4 q5 q6 q7 q8 hWs hbW
    go_enter Try.func10, Try.ntmps10
    go_wp2_with fail
    rw [← hW.out]
    refine (cZ.out W).mono ?_
    rintro e w1 ⟨rfl, hb_w1⟩
    have q0_w1 := (hb_w1.cell (p := ⟨w.heap.size, 0, none⟩) hs_W).trans q0_W
    have q1_w1 := (hb_w1.cell (p := ⟨w.heap.size, 1, none⟩) hs_W).trans q1_W
    have q2_w1 := (hb_w1.cell (p := ⟨w.heap.size, 2, none⟩) hs_W).trans q2_W
    have q3_w1 := (hb_w1.cell (p := ⟨w.heap.size, 3, none⟩) hs_W).trans q3_W
    have q4_w1 := (hb_w1.cell (p := ⟨w.heap.size, 4, none⟩) hs_W).trans q4_W
    have q5_w1 := (hb_w1.cell (p := ⟨w.heap.size, 5, none⟩) hs_W).trans q5_W
    have q6_w1 := (hb_w1.cell (p := ⟨w.heap.size, 6, none⟩) hs_W).trans q6_W
    have q7_w1 := (hb_w1.cell (p := ⟨w.heap.size, 7, none⟩) hs_W).trans q7_W
    have q8_w1 := (hb_w1.cell (p := ⟨w.heap.size, 8, none⟩) hs_W).trans q8_W
    have hs_w1 := Nat.lt_of_lt_of_le hs_W hb_w1.size
    have hbw_w1 := hbw_W.trans (hb_w1.mono (Nat.le_of_lt hs_W))
    clear q0_W q1_W q2_W q3_W q4_W q5_W q6_W q7_W q8_W hb_w1 hs_W hbw_W
    by_cases ht : (to == 0) = true
    · go_wp2
      go_ret
      have hr := hR.out
      rw [hz, ht] at hr
      clear hR
      subst hr
      exact ⟨rfl, hbw_w1⟩
    · replace ht : (to == 0) = false := by simpa only [Bool.not_eq_true] using ht
      go_wp2
      go_ret
      have hr := hR.out
      rw [hz, ht] at hr
      clear hR
      subst hr
      exact ⟨rfl, hbw_w1⟩
set_option maxHeartbeats 4000000 in
set_option maxRecDepth 20000 in
theorem specR2 (to : Int) (nd : Nd) (a1 a2 a3 : Option Addr) (c1 c2 c3 N : Nat) (w : World) (hI : NdIn w.heap.size w nd (.slice a1 nd.names.length c1) (.slice a2 nd.keys.length c2) (.slice a3 nd.kids.length c3)) (hf : nd.fits 1048576) :
    Calls Try.prog 10 #[.agg #[.int .i64 2, .int .i64 to, .int .i64 nd.kind, .int .i64 nd.num, .int .i64 nd.mat, .string nd.text, .slice a1 nd.names.length c1, .slice a2 nd.keys.length c2, .slice a3 nd.kids.length c3], .int .i64 N] w fun e w' => e = .returned (.bool ((decide (0 ≤ to) && decide (to < (N : Int))) && (Co.zero nd && (nd.num == 0)))) ∧ Below w.heap.size w w' := by
  obtain ⟨R, hR⟩ : ∃ R, ((decide (0 ≤ to) && decide (to < (N : Int))) && (Co.zero nd && (nd.num == 0))) = R := ⟨_, rfl⟩
  rw [hR]
  replace hR := mkH hR
  obtain ⟨W, hW⟩ : ∃ W, W = w.alloc (.cells #[.int .i64 2, .int .i64 to, .int .i64 nd.kind, .int .i64 nd.num, .int .i64 nd.mat, .string nd.text, .slice a1 nd.names.length c1, .slice a2 nd.keys.length c2, .slice a3 nd.kids.length c3] 39) := ⟨_, rfl⟩
  have hbW : Below w.heap.size w W := by rw [hW]; exact (Below.refl _ _).alloc (Nat.le_refl _) _
  have hWs : w.heap.size < W.heap.size := by rw [hW]; simp
  have q0 : W.cell? ⟨w.heap.size, 0, none⟩ = some (.int .i64 2) := by rw [hW]; simp
  have q1 : W.cell? ⟨w.heap.size, 1, none⟩ = some (.int .i64 to) := by rw [hW]; simp
  have q2 : W.cell? ⟨w.heap.size, 2, none⟩ = some (.int .i64 nd.kind) := by rw [hW]; simp
  have q3 : W.cell? ⟨w.heap.size, 3, none⟩ = some (.int .i64 nd.num) := by rw [hW]; simp
  have q4 : W.cell? ⟨w.heap.size, 4, none⟩ = some (.int .i64 nd.mat) := by rw [hW]; simp
  have q5 : W.cell? ⟨w.heap.size, 5, none⟩ = some (.string nd.text) := by rw [hW]; simp
  have q6 : W.cell? ⟨w.heap.size, 6, none⟩ = some (.slice a1 nd.names.length c1) := by rw [hW]; simp
  have q7 : W.cell? ⟨w.heap.size, 7, none⟩ = some (.slice a2 nd.keys.length c2) := by rw [hW]; simp
  have q8 : W.cell? ⟨w.heap.size, 8, none⟩ = some (.slice a3 nd.kids.length c3) := by rw [hW]; simp
  have cZ := mkH fun (w' : World) => specZero nd a1 a2 a3 c1 c2 c3 w'
  have cF := mkH fun (w' : World) (hb : Below w.heap.size w w') => specFields nd _ _ _ w' ((hI.below hb).mono hb.size) hf
  unfold ndV at cF
  replace hW := mkH hW
  clear hI hf
  by_cases hz : Co.zero nd = true
  · rw [hz] at cZ
    have hs_W := hWs
    have hbw_W := hbW
    have q0_W := q0
    have q1_W := q1
    have q2_W := q2
    have q3_W := q3
    have q4_W := q4
    have q5_W := q5
    have q6_W := q6
    have q7_W := q7
    have q8_W := q8
    clear q0 q1 q2 q3 q4 q5 q6 q7 q8 hWs hbW
    go_enter Try.func10, Try.ntmps10
    go_wp2_with fail
    rw [← hW.out]
    refine (cZ.out W).mono ?_
    rintro e w1 ⟨rfl, hb_w1⟩
    have q0_w1 := (hb_w1.cell (p := ⟨w.heap.size, 0, none⟩) hs_W).trans q0_W
    have q1_w1 := (hb_w1.cell (p := ⟨w.heap.size, 1, none⟩) hs_W).trans q1_W
    have q2_w1 := (hb_w1.cell (p := ⟨w.heap.size, 2, none⟩) hs_W).trans q2_W
    have q3_w1 := (hb_w1.cell (p := ⟨w.heap.size, 3, none⟩) hs_W).trans q3_W
    have q4_w1 := (hb_w1.cell (p := ⟨w.heap.size, 4, none⟩) hs_W).trans q4_W
    have q5_w1 := (hb_w1.cell (p := ⟨w.heap.size, 5, none⟩) hs_W).trans q5_W
    have q6_w1 := (hb_w1.cell (p := ⟨w.heap.size, 6, none⟩) hs_W).trans q6_W
    have q7_w1 := (hb_w1.cell (p := ⟨w.heap.size, 7, none⟩) hs_W).trans q7_W
    have q8_w1 := (hb_w1.cell (p := ⟨w.heap.size, 8, none⟩) hs_W).trans q8_W
    have hs_w1 := Nat.lt_of_lt_of_le hs_W hb_w1.size
    have hbw_w1 := hbw_W.trans (hb_w1.mono (Nat.le_of_lt hs_W))
    clear q0_W q1_W q2_W q3_W q4_W q5_W q6_W q7_W q8_W hb_w1 hs_W hbw_W
    by_cases hl : decide (0 ≤ to) = true
    · by_cases hh : decide (to < (N : Int)) = true
      · go_wp2
        go_ret
        have hr := hR.out
        rw [hz, hl, hh] at hr
        clear hR
        subst hr
        exact ⟨rfl, hbw_w1⟩
      · replace hh : decide (to < (N : Int)) = false := by simpa only [Bool.not_eq_true] using hh
        go_wp2
        go_ret
        have hr := hR.out
        rw [hz, hl, hh] at hr
        clear hR
        subst hr
        exact ⟨rfl, hbw_w1⟩
    · replace hl : decide (0 ≤ to) = false := by simpa only [Bool.not_eq_true] using hl
      go_wp2
      go_ret
      have hr := hR.out
      rw [hz, hl] at hr
      clear hR
      subst hr
      exact ⟨rfl, hbw_w1⟩
  · replace hz : Co.zero nd = false := by simpa only [Bool.not_eq_true] using hz
    rw [hz] at cZ
    have hs_W := hWs
    have hbw_W := hbW
    have q0_W := q0
    have q1_W := q1
    have q2_W := q2
    have q3_W := q3
    have q4_W := q4
    have q5_W := q5
    have q6_W := q6
    have q7_W := q7
    have q8_W := q8
    clear q0 q1 q2 q3 q4 q5 q6 q7 q8 hWs hbW
    go_enter Try.func10, Try.ntmps10
    go_wp2_with fail
    rw [← hW.out]
    refine (cZ.out W).mono ?_
    rintro e w1 ⟨rfl, hb_w1⟩
    have q0_w1 := (hb_w1.cell (p := ⟨w.heap.size, 0, none⟩) hs_W).trans q0_W
    have q1_w1 := (hb_w1.cell (p := ⟨w.heap.size, 1, none⟩) hs_W).trans q1_W
    have q2_w1 := (hb_w1.cell (p := ⟨w.heap.size, 2, none⟩) hs_W).trans q2_W
    have q3_w1 := (hb_w1.cell (p := ⟨w.heap.size, 3, none⟩) hs_W).trans q3_W
    have q4_w1 := (hb_w1.cell (p := ⟨w.heap.size, 4, none⟩) hs_W).trans q4_W
    have q5_w1 := (hb_w1.cell (p := ⟨w.heap.size, 5, none⟩) hs_W).trans q5_W
    have q6_w1 := (hb_w1.cell (p := ⟨w.heap.size, 6, none⟩) hs_W).trans q6_W
    have q7_w1 := (hb_w1.cell (p := ⟨w.heap.size, 7, none⟩) hs_W).trans q7_W
    have q8_w1 := (hb_w1.cell (p := ⟨w.heap.size, 8, none⟩) hs_W).trans q8_W
    have hs_w1 := Nat.lt_of_lt_of_le hs_W hb_w1.size
    have hbw_w1 := hbw_W.trans (hb_w1.mono (Nat.le_of_lt hs_W))
    clear q0_W q1_W q2_W q3_W q4_W q5_W q6_W q7_W q8_W hb_w1 hs_W hbw_W
    by_cases hl : decide (0 ≤ to) = true
    · by_cases hh : decide (to < (N : Int)) = true
      · go_wp2
        go_ret
        have hr := hR.out
        rw [hz, hl, hh] at hr
        clear hR
        subst hr
        exact ⟨rfl, hbw_w1⟩
      · replace hh : decide (to < (N : Int)) = false := by simpa only [Bool.not_eq_true] using hh
        go_wp2
        go_ret
        have hr := hR.out
        rw [hz, hl, hh] at hr
        clear hR
        subst hr
        exact ⟨rfl, hbw_w1⟩
    · replace hl : decide (0 ≤ to) = false := by simpa only [Bool.not_eq_true] using hl
      go_wp2
      go_ret
      have hr := hR.out
      rw [hz, hl] at hr
      clear hR
      subst hr
      exact ⟨rfl, hbw_w1⟩
set_option maxHeartbeats 4000000 in
set_option maxRecDepth 20000 in
theorem specR3 (to : Int) (nd : Nd) (a1 a2 a3 : Option Addr) (c1 c2 c3 N : Nat) (w : World) (hI : NdIn w.heap.size w nd (.slice a1 nd.names.length c1) (.slice a2 nd.keys.length c2) (.slice a3 nd.kids.length c3)) (hf : nd.fits 1048576) :
    Calls Try.prog 10 #[.agg #[.int .i64 3, .int .i64 to, .int .i64 nd.kind, .int .i64 nd.num, .int .i64 nd.mat, .string nd.text, .slice a1 nd.names.length c1, .slice a2 nd.keys.length c2, .slice a3 nd.kids.length c3], .int .i64 N] w fun e w' => e = .returned (.bool ((decide (0 ≤ to) && decide (to < (N : Int))) && (Co.zero nd && (nd.num == 0)))) ∧ Below w.heap.size w w' := by
  obtain ⟨R, hR⟩ : ∃ R, ((decide (0 ≤ to) && decide (to < (N : Int))) && (Co.zero nd && (nd.num == 0))) = R := ⟨_, rfl⟩
  rw [hR]
  replace hR := mkH hR
  obtain ⟨W, hW⟩ : ∃ W, W = w.alloc (.cells #[.int .i64 3, .int .i64 to, .int .i64 nd.kind, .int .i64 nd.num, .int .i64 nd.mat, .string nd.text, .slice a1 nd.names.length c1, .slice a2 nd.keys.length c2, .slice a3 nd.kids.length c3] 39) := ⟨_, rfl⟩
  have hbW : Below w.heap.size w W := by rw [hW]; exact (Below.refl _ _).alloc (Nat.le_refl _) _
  have hWs : w.heap.size < W.heap.size := by rw [hW]; simp
  have q0 : W.cell? ⟨w.heap.size, 0, none⟩ = some (.int .i64 3) := by rw [hW]; simp
  have q1 : W.cell? ⟨w.heap.size, 1, none⟩ = some (.int .i64 to) := by rw [hW]; simp
  have q2 : W.cell? ⟨w.heap.size, 2, none⟩ = some (.int .i64 nd.kind) := by rw [hW]; simp
  have q3 : W.cell? ⟨w.heap.size, 3, none⟩ = some (.int .i64 nd.num) := by rw [hW]; simp
  have q4 : W.cell? ⟨w.heap.size, 4, none⟩ = some (.int .i64 nd.mat) := by rw [hW]; simp
  have q5 : W.cell? ⟨w.heap.size, 5, none⟩ = some (.string nd.text) := by rw [hW]; simp
  have q6 : W.cell? ⟨w.heap.size, 6, none⟩ = some (.slice a1 nd.names.length c1) := by rw [hW]; simp
  have q7 : W.cell? ⟨w.heap.size, 7, none⟩ = some (.slice a2 nd.keys.length c2) := by rw [hW]; simp
  have q8 : W.cell? ⟨w.heap.size, 8, none⟩ = some (.slice a3 nd.kids.length c3) := by rw [hW]; simp
  have cZ := mkH fun (w' : World) => specZero nd a1 a2 a3 c1 c2 c3 w'
  have cF := mkH fun (w' : World) (hb : Below w.heap.size w w') => specFields nd _ _ _ w' ((hI.below hb).mono hb.size) hf
  unfold ndV at cF
  replace hW := mkH hW
  clear hI hf
  by_cases hz : Co.zero nd = true
  · rw [hz] at cZ
    have hs_W := hWs
    have hbw_W := hbW
    have q0_W := q0
    have q1_W := q1
    have q2_W := q2
    have q3_W := q3
    have q4_W := q4
    have q5_W := q5
    have q6_W := q6
    have q7_W := q7
    have q8_W := q8
    clear q0 q1 q2 q3 q4 q5 q6 q7 q8 hWs hbW
    go_enter Try.func10, Try.ntmps10
    go_wp2_with fail
    rw [← hW.out]
    refine (cZ.out W).mono ?_
    rintro e w1 ⟨rfl, hb_w1⟩
    have q0_w1 := (hb_w1.cell (p := ⟨w.heap.size, 0, none⟩) hs_W).trans q0_W
    have q1_w1 := (hb_w1.cell (p := ⟨w.heap.size, 1, none⟩) hs_W).trans q1_W
    have q2_w1 := (hb_w1.cell (p := ⟨w.heap.size, 2, none⟩) hs_W).trans q2_W
    have q3_w1 := (hb_w1.cell (p := ⟨w.heap.size, 3, none⟩) hs_W).trans q3_W
    have q4_w1 := (hb_w1.cell (p := ⟨w.heap.size, 4, none⟩) hs_W).trans q4_W
    have q5_w1 := (hb_w1.cell (p := ⟨w.heap.size, 5, none⟩) hs_W).trans q5_W
    have q6_w1 := (hb_w1.cell (p := ⟨w.heap.size, 6, none⟩) hs_W).trans q6_W
    have q7_w1 := (hb_w1.cell (p := ⟨w.heap.size, 7, none⟩) hs_W).trans q7_W
    have q8_w1 := (hb_w1.cell (p := ⟨w.heap.size, 8, none⟩) hs_W).trans q8_W
    have hs_w1 := Nat.lt_of_lt_of_le hs_W hb_w1.size
    have hbw_w1 := hbw_W.trans (hb_w1.mono (Nat.le_of_lt hs_W))
    clear q0_W q1_W q2_W q3_W q4_W q5_W q6_W q7_W q8_W hb_w1 hs_W hbw_W
    by_cases hl : decide (0 ≤ to) = true
    · by_cases hh : decide (to < (N : Int)) = true
      · go_wp2
        go_ret
        have hr := hR.out
        rw [hz, hl, hh] at hr
        clear hR
        subst hr
        exact ⟨rfl, hbw_w1⟩
      · replace hh : decide (to < (N : Int)) = false := by simpa only [Bool.not_eq_true] using hh
        go_wp2
        go_ret
        have hr := hR.out
        rw [hz, hl, hh] at hr
        clear hR
        subst hr
        exact ⟨rfl, hbw_w1⟩
    · replace hl : decide (0 ≤ to) = false := by simpa only [Bool.not_eq_true] using hl
      go_wp2
      go_ret
      have hr := hR.out
      rw [hz, hl] at hr
      clear hR
      subst hr
      exact ⟨rfl, hbw_w1⟩
  · replace hz : Co.zero nd = false := by simpa only [Bool.not_eq_true] using hz
    rw [hz] at cZ
    have hs_W := hWs
    have hbw_W := hbW
    have q0_W := q0
    have q1_W := q1
    have q2_W := q2
    have q3_W := q3
    have q4_W := q4
    have q5_W := q5
    have q6_W := q6
    have q7_W := q7
    have q8_W := q8
    clear q0 q1 q2 q3 q4 q5 q6 q7 q8 hWs hbW
    go_enter Try.func10, Try.ntmps10
    go_wp2_with fail
    rw [← hW.out]
    refine (cZ.out W).mono ?_
    rintro e w1 ⟨rfl, hb_w1⟩
    have q0_w1 := (hb_w1.cell (p := ⟨w.heap.size, 0, none⟩) hs_W).trans q0_W
    have q1_w1 := (hb_w1.cell (p := ⟨w.heap.size, 1, none⟩) hs_W).trans q1_W
    have q2_w1 := (hb_w1.cell (p := ⟨w.heap.size, 2, none⟩) hs_W).trans q2_W
    have q3_w1 := (hb_w1.cell (p := ⟨w.heap.size, 3, none⟩) hs_W).trans q3_W
    have q4_w1 := (hb_w1.cell (p := ⟨w.heap.size, 4, none⟩) hs_W).trans q4_W
    have q5_w1 := (hb_w1.cell (p := ⟨w.heap.size, 5, none⟩) hs_W).trans q5_W
    have q6_w1 := (hb_w1.cell (p := ⟨w.heap.size, 6, none⟩) hs_W).trans q6_W
    have q7_w1 := (hb_w1.cell (p := ⟨w.heap.size, 7, none⟩) hs_W).trans q7_W
    have q8_w1 := (hb_w1.cell (p := ⟨w.heap.size, 8, none⟩) hs_W).trans q8_W
    have hs_w1 := Nat.lt_of_lt_of_le hs_W hb_w1.size
    have hbw_w1 := hbw_W.trans (hb_w1.mono (Nat.le_of_lt hs_W))
    clear q0_W q1_W q2_W q3_W q4_W q5_W q6_W q7_W q8_W hb_w1 hs_W hbw_W
    by_cases hl : decide (0 ≤ to) = true
    · by_cases hh : decide (to < (N : Int)) = true
      · go_wp2
        go_ret
        have hr := hR.out
        rw [hz, hl, hh] at hr
        clear hR
        subst hr
        exact ⟨rfl, hbw_w1⟩
      · replace hh : decide (to < (N : Int)) = false := by simpa only [Bool.not_eq_true] using hh
        go_wp2
        go_ret
        have hr := hR.out
        rw [hz, hl, hh] at hr
        clear hR
        subst hr
        exact ⟨rfl, hbw_w1⟩
    · replace hl : decide (0 ≤ to) = false := by simpa only [Bool.not_eq_true] using hl
      go_wp2
      go_ret
      have hr := hR.out
      rw [hz, hl] at hr
      clear hR
      subst hr
      exact ⟨rfl, hbw_w1⟩
set_option maxHeartbeats 4000000 in
set_option maxRecDepth 20000 in
theorem specR4 (to : Int) (nd : Nd) (a1 a2 a3 : Option Addr) (c1 c2 c3 N : Nat) (w : World) (hI : NdIn w.heap.size w nd (.slice a1 nd.names.length c1) (.slice a2 nd.keys.length c2) (.slice a3 nd.kids.length c3)) (hf : nd.fits 1048576) :
    Calls Try.prog 10 #[.agg #[.int .i64 4, .int .i64 to, .int .i64 nd.kind, .int .i64 nd.num, .int .i64 nd.mat, .string nd.text, .slice a1 nd.names.length c1, .slice a2 nd.keys.length c2, .slice a3 nd.kids.length c3], .int .i64 N] w fun e w' => e = .returned (.bool ((decide (0 ≤ to) && decide (to < (N : Int))) && (Co.zero nd && (nd.num == 0)))) ∧ Below w.heap.size w w' := by
  obtain ⟨R, hR⟩ : ∃ R, ((decide (0 ≤ to) && decide (to < (N : Int))) && (Co.zero nd && (nd.num == 0))) = R := ⟨_, rfl⟩
  rw [hR]
  replace hR := mkH hR
  obtain ⟨W, hW⟩ : ∃ W, W = w.alloc (.cells #[.int .i64 4, .int .i64 to, .int .i64 nd.kind, .int .i64 nd.num, .int .i64 nd.mat, .string nd.text, .slice a1 nd.names.length c1, .slice a2 nd.keys.length c2, .slice a3 nd.kids.length c3] 39) := ⟨_, rfl⟩
  have hbW : Below w.heap.size w W := by rw [hW]; exact (Below.refl _ _).alloc (Nat.le_refl _) _
  have hWs : w.heap.size < W.heap.size := by rw [hW]; simp
  have q0 : W.cell? ⟨w.heap.size, 0, none⟩ = some (.int .i64 4) := by rw [hW]; simp
  have q1 : W.cell? ⟨w.heap.size, 1, none⟩ = some (.int .i64 to) := by rw [hW]; simp
  have q2 : W.cell? ⟨w.heap.size, 2, none⟩ = some (.int .i64 nd.kind) := by rw [hW]; simp
  have q3 : W.cell? ⟨w.heap.size, 3, none⟩ = some (.int .i64 nd.num) := by rw [hW]; simp
  have q4 : W.cell? ⟨w.heap.size, 4, none⟩ = some (.int .i64 nd.mat) := by rw [hW]; simp
  have q5 : W.cell? ⟨w.heap.size, 5, none⟩ = some (.string nd.text) := by rw [hW]; simp
  have q6 : W.cell? ⟨w.heap.size, 6, none⟩ = some (.slice a1 nd.names.length c1) := by rw [hW]; simp
  have q7 : W.cell? ⟨w.heap.size, 7, none⟩ = some (.slice a2 nd.keys.length c2) := by rw [hW]; simp
  have q8 : W.cell? ⟨w.heap.size, 8, none⟩ = some (.slice a3 nd.kids.length c3) := by rw [hW]; simp
  have cZ := mkH fun (w' : World) => specZero nd a1 a2 a3 c1 c2 c3 w'
  have cF := mkH fun (w' : World) (hb : Below w.heap.size w w') => specFields nd _ _ _ w' ((hI.below hb).mono hb.size) hf
  unfold ndV at cF
  replace hW := mkH hW
  clear hI hf
  by_cases hz : Co.zero nd = true
  · rw [hz] at cZ
    have hs_W := hWs
    have hbw_W := hbW
    have q0_W := q0
    have q1_W := q1
    have q2_W := q2
    have q3_W := q3
    have q4_W := q4
    have q5_W := q5
    have q6_W := q6
    have q7_W := q7
    have q8_W := q8
    clear q0 q1 q2 q3 q4 q5 q6 q7 q8 hWs hbW
    go_enter Try.func10, Try.ntmps10
    go_wp2_with fail
    rw [← hW.out]
    refine (cZ.out W).mono ?_
    rintro e w1 ⟨rfl, hb_w1⟩
    have q0_w1 := (hb_w1.cell (p := ⟨w.heap.size, 0, none⟩) hs_W).trans q0_W
    have q1_w1 := (hb_w1.cell (p := ⟨w.heap.size, 1, none⟩) hs_W).trans q1_W
    have q2_w1 := (hb_w1.cell (p := ⟨w.heap.size, 2, none⟩) hs_W).trans q2_W
    have q3_w1 := (hb_w1.cell (p := ⟨w.heap.size, 3, none⟩) hs_W).trans q3_W
    have q4_w1 := (hb_w1.cell (p := ⟨w.heap.size, 4, none⟩) hs_W).trans q4_W
    have q5_w1 := (hb_w1.cell (p := ⟨w.heap.size, 5, none⟩) hs_W).trans q5_W
    have q6_w1 := (hb_w1.cell (p := ⟨w.heap.size, 6, none⟩) hs_W).trans q6_W
    have q7_w1 := (hb_w1.cell (p := ⟨w.heap.size, 7, none⟩) hs_W).trans q7_W
    have q8_w1 := (hb_w1.cell (p := ⟨w.heap.size, 8, none⟩) hs_W).trans q8_W
    have hs_w1 := Nat.lt_of_lt_of_le hs_W hb_w1.size
    have hbw_w1 := hbw_W.trans (hb_w1.mono (Nat.le_of_lt hs_W))
    clear q0_W q1_W q2_W q3_W q4_W q5_W q6_W q7_W q8_W hb_w1 hs_W hbw_W
    by_cases hl : decide (0 ≤ to) = true
    · by_cases hh : decide (to < (N : Int)) = true
      · go_wp2
        go_ret
        have hr := hR.out
        rw [hz, hl, hh] at hr
        clear hR
        subst hr
        exact ⟨rfl, hbw_w1⟩
      · replace hh : decide (to < (N : Int)) = false := by simpa only [Bool.not_eq_true] using hh
        go_wp2
        go_ret
        have hr := hR.out
        rw [hz, hl, hh] at hr
        clear hR
        subst hr
        exact ⟨rfl, hbw_w1⟩
    · replace hl : decide (0 ≤ to) = false := by simpa only [Bool.not_eq_true] using hl
      go_wp2
      go_ret
      have hr := hR.out
      rw [hz, hl] at hr
      clear hR
      subst hr
      exact ⟨rfl, hbw_w1⟩
  · replace hz : Co.zero nd = false := by simpa only [Bool.not_eq_true] using hz
    rw [hz] at cZ
    have hs_W := hWs
    have hbw_W := hbW
    have q0_W := q0
    have q1_W := q1
    have q2_W := q2
    have q3_W := q3
    have q4_W := q4
    have q5_W := q5
    have q6_W := q6
    have q7_W := q7
    have q8_W := q8
    clear q0 q1 q2 q3 q4 q5 q6 q7 q8 hWs hbW
    go_enter Try.func10, Try.ntmps10
    go_wp2_with fail
    rw [← hW.out]
    refine (cZ.out W).mono ?_
    rintro e w1 ⟨rfl, hb_w1⟩
    have q0_w1 := (hb_w1.cell (p := ⟨w.heap.size, 0, none⟩) hs_W).trans q0_W
    have q1_w1 := (hb_w1.cell (p := ⟨w.heap.size, 1, none⟩) hs_W).trans q1_W
    have q2_w1 := (hb_w1.cell (p := ⟨w.heap.size, 2, none⟩) hs_W).trans q2_W
    have q3_w1 := (hb_w1.cell (p := ⟨w.heap.size, 3, none⟩) hs_W).trans q3_W
    have q4_w1 := (hb_w1.cell (p := ⟨w.heap.size, 4, none⟩) hs_W).trans q4_W
    have q5_w1 := (hb_w1.cell (p := ⟨w.heap.size, 5, none⟩) hs_W).trans q5_W
    have q6_w1 := (hb_w1.cell (p := ⟨w.heap.size, 6, none⟩) hs_W).trans q6_W
    have q7_w1 := (hb_w1.cell (p := ⟨w.heap.size, 7, none⟩) hs_W).trans q7_W
    have q8_w1 := (hb_w1.cell (p := ⟨w.heap.size, 8, none⟩) hs_W).trans q8_W
    have hs_w1 := Nat.lt_of_lt_of_le hs_W hb_w1.size
    have hbw_w1 := hbw_W.trans (hb_w1.mono (Nat.le_of_lt hs_W))
    clear q0_W q1_W q2_W q3_W q4_W q5_W q6_W q7_W q8_W hb_w1 hs_W hbw_W
    by_cases hl : decide (0 ≤ to) = true
    · by_cases hh : decide (to < (N : Int)) = true
      · go_wp2
        go_ret
        have hr := hR.out
        rw [hz, hl, hh] at hr
        clear hR
        subst hr
        exact ⟨rfl, hbw_w1⟩
      · replace hh : decide (to < (N : Int)) = false := by simpa only [Bool.not_eq_true] using hh
        go_wp2
        go_ret
        have hr := hR.out
        rw [hz, hl, hh] at hr
        clear hR
        subst hr
        exact ⟨rfl, hbw_w1⟩
    · replace hl : decide (0 ≤ to) = false := by simpa only [Bool.not_eq_true] using hl
      go_wp2
      go_ret
      have hr := hR.out
      rw [hz, hl] at hr
      clear hR
      subst hr
      exact ⟨rfl, hbw_w1⟩
set_option maxHeartbeats 4000000 in
set_option maxRecDepth 20000 in
theorem specR9 (to : Int) (nd : Nd) (a1 a2 a3 : Option Addr) (c1 c2 c3 N : Nat) (w : World) (hI : NdIn w.heap.size w nd (.slice a1 nd.names.length c1) (.slice a2 nd.keys.length c2) (.slice a3 nd.kids.length c3)) (hf : nd.fits 1048576) :
    Calls Try.prog 10 #[.agg #[.int .i64 9, .int .i64 to, .int .i64 nd.kind, .int .i64 nd.num, .int .i64 nd.mat, .string nd.text, .slice a1 nd.names.length c1, .slice a2 nd.keys.length c2, .slice a3 nd.kids.length c3], .int .i64 N] w fun e w' => e = .returned (.bool ((decide (0 ≤ to) && decide (to < (N : Int))) && (Co.zero nd && (nd.num == 0)))) ∧ Below w.heap.size w w' := by
  obtain ⟨R, hR⟩ : ∃ R, ((decide (0 ≤ to) && decide (to < (N : Int))) && (Co.zero nd && (nd.num == 0))) = R := ⟨_, rfl⟩
  rw [hR]
  replace hR := mkH hR
  obtain ⟨W, hW⟩ : ∃ W, W = w.alloc (.cells #[.int .i64 9, .int .i64 to, .int .i64 nd.kind, .int .i64 nd.num, .int .i64 nd.mat, .string nd.text, .slice a1 nd.names.length c1, .slice a2 nd.keys.length c2, .slice a3 nd.kids.length c3] 39) := ⟨_, rfl⟩
  have hbW : Below w.heap.size w W := by rw [hW]; exact (Below.refl _ _).alloc (Nat.le_refl _) _
  have hWs : w.heap.size < W.heap.size := by rw [hW]; simp
  have q0 : W.cell? ⟨w.heap.size, 0, none⟩ = some (.int .i64 9) := by rw [hW]; simp
  have q1 : W.cell? ⟨w.heap.size, 1, none⟩ = some (.int .i64 to) := by rw [hW]; simp
  have q2 : W.cell? ⟨w.heap.size, 2, none⟩ = some (.int .i64 nd.kind) := by rw [hW]; simp
  have q3 : W.cell? ⟨w.heap.size, 3, none⟩ = some (.int .i64 nd.num) := by rw [hW]; simp
  have q4 : W.cell? ⟨w.heap.size, 4, none⟩ = some (.int .i64 nd.mat) := by rw [hW]; simp
  have q5 : W.cell? ⟨w.heap.size, 5, none⟩ = some (.string nd.text) := by rw [hW]; simp
  have q6 : W.cell? ⟨w.heap.size, 6, none⟩ = some (.slice a1 nd.names.length c1) := by rw [hW]; simp
  have q7 : W.cell? ⟨w.heap.size, 7, none⟩ = some (.slice a2 nd.keys.length c2) := by rw [hW]; simp
  have q8 : W.cell? ⟨w.heap.size, 8, none⟩ = some (.slice a3 nd.kids.length c3) := by rw [hW]; simp
  have cZ := mkH fun (w' : World) => specZero nd a1 a2 a3 c1 c2 c3 w'
  have cF := mkH fun (w' : World) (hb : Below w.heap.size w w') => specFields nd _ _ _ w' ((hI.below hb).mono hb.size) hf
  unfold ndV at cF
  replace hW := mkH hW
  clear hI hf
  by_cases hz : Co.zero nd = true
  · rw [hz] at cZ
    have hs_W := hWs
    have hbw_W := hbW
    have q0_W := q0
    have q1_W := q1
    have q2_W := q2
    have q3_W := q3
    have q4_W := q4
    have q5_W := q5
    have q6_W := q6
    have q7_W := q7
    have q8_W := q8
    clear q0 q1 q2 q3 q4 q5 q6 q7 q8 hWs hbW
    go_enter Try.func10, Try.ntmps10
    go_wp2_with fail
    rw [← hW.out]
    refine (cZ.out W).mono ?_
    rintro e w1 ⟨rfl, hb_w1⟩
    have q0_w1 := (hb_w1.cell (p := ⟨w.heap.size, 0, none⟩) hs_W).trans q0_W
    have q1_w1 := (hb_w1.cell (p := ⟨w.heap.size, 1, none⟩) hs_W).trans q1_W
    have q2_w1 := (hb_w1.cell (p := ⟨w.heap.size, 2, none⟩) hs_W).trans q2_W
    have q3_w1 := (hb_w1.cell (p := ⟨w.heap.size, 3, none⟩) hs_W).trans q3_W
    have q4_w1 := (hb_w1.cell (p := ⟨w.heap.size, 4, none⟩) hs_W).trans q4_W
    have q5_w1 := (hb_w1.cell (p := ⟨w.heap.size, 5, none⟩) hs_W).trans q5_W
    have q6_w1 := (hb_w1.cell (p := ⟨w.heap.size, 6, none⟩) hs_W).trans q6_W
    have q7_w1 := (hb_w1.cell (p := ⟨w.heap.size, 7, none⟩) hs_W).trans q7_W
    have q8_w1 := (hb_w1.cell (p := ⟨w.heap.size, 8, none⟩) hs_W).trans q8_W
    have hs_w1 := Nat.lt_of_lt_of_le hs_W hb_w1.size
    have hbw_w1 := hbw_W.trans (hb_w1.mono (Nat.le_of_lt hs_W))
    clear q0_W q1_W q2_W q3_W q4_W q5_W q6_W q7_W q8_W hb_w1 hs_W hbw_W
    by_cases hl : decide (0 ≤ to) = true
    · by_cases hh : decide (to < (N : Int)) = true
      · go_wp2
        go_ret
        have hr := hR.out
        rw [hz, hl, hh] at hr
        clear hR
        subst hr
        exact ⟨rfl, hbw_w1⟩
      · replace hh : decide (to < (N : Int)) = false := by simpa only [Bool.not_eq_true] using hh
        go_wp2
        go_ret
        have hr := hR.out
        rw [hz, hl, hh] at hr
        clear hR
        subst hr
        exact ⟨rfl, hbw_w1⟩
    · replace hl : decide (0 ≤ to) = false := by simpa only [Bool.not_eq_true] using hl
      go_wp2
      go_ret
      have hr := hR.out
      rw [hz, hl] at hr
      clear hR
      subst hr
      exact ⟨rfl, hbw_w1⟩
  · replace hz : Co.zero nd = false := by simpa only [Bool.not_eq_true] using hz
    rw [hz] at cZ
    have hs_W := hWs
    have hbw_W := hbW
    have q0_W := q0
    have q1_W := q1
    have q2_W := q2
    have q3_W := q3
    have q4_W := q4
    have q5_W := q5
    have q6_W := q6
    have q7_W := q7
    have q8_W := q8
    clear q0 q1 q2 q3 q4 q5 q6 q7 q8 hWs hbW
    go_enter Try.func10, Try.ntmps10
    go_wp2_with fail
    rw [← hW.out]
    refine (cZ.out W).mono ?_
    rintro e w1 ⟨rfl, hb_w1⟩
    have q0_w1 := (hb_w1.cell (p := ⟨w.heap.size, 0, none⟩) hs_W).trans q0_W
    have q1_w1 := (hb_w1.cell (p := ⟨w.heap.size, 1, none⟩) hs_W).trans q1_W
    have q2_w1 := (hb_w1.cell (p := ⟨w.heap.size, 2, none⟩) hs_W).trans q2_W
    have q3_w1 := (hb_w1.cell (p := ⟨w.heap.size, 3, none⟩) hs_W).trans q3_W
    have q4_w1 := (hb_w1.cell (p := ⟨w.heap.size, 4, none⟩) hs_W).trans q4_W
    have q5_w1 := (hb_w1.cell (p := ⟨w.heap.size, 5, none⟩) hs_W).trans q5_W
    have q6_w1 := (hb_w1.cell (p := ⟨w.heap.size, 6, none⟩) hs_W).trans q6_W
    have q7_w1 := (hb_w1.cell (p := ⟨w.heap.size, 7, none⟩) hs_W).trans q7_W
    have q8_w1 := (hb_w1.cell (p := ⟨w.heap.size, 8, none⟩) hs_W).trans q8_W
    have hs_w1 := Nat.lt_of_lt_of_le hs_W hb_w1.size
    have hbw_w1 := hbw_W.trans (hb_w1.mono (Nat.le_of_lt hs_W))
    clear q0_W q1_W q2_W q3_W q4_W q5_W q6_W q7_W q8_W hb_w1 hs_W hbw_W
    by_cases hl : decide (0 ≤ to) = true
    · by_cases hh : decide (to < (N : Int)) = true
      · go_wp2
        go_ret
        have hr := hR.out
        rw [hz, hl, hh] at hr
        clear hR
        subst hr
        exact ⟨rfl, hbw_w1⟩
      · replace hh : decide (to < (N : Int)) = false := by simpa only [Bool.not_eq_true] using hh
        go_wp2
        go_ret
        have hr := hR.out
        rw [hz, hl, hh] at hr
        clear hR
        subst hr
        exact ⟨rfl, hbw_w1⟩
    · replace hl : decide (0 ≤ to) = false := by simpa only [Bool.not_eq_true] using hl
      go_wp2
      go_ret
      have hr := hR.out
      rw [hz, hl] at hr
      clear hR
      subst hr
      exact ⟨rfl, hbw_w1⟩
set_option maxHeartbeats 4000000 in
set_option maxRecDepth 20000 in
theorem specR5 (to : Int) (nd : Nd) (a1 a2 a3 : Option Addr) (c1 c2 c3 N : Nat) (w : World) (hI : NdIn w.heap.size w nd (.slice a1 nd.names.length c1) (.slice a2 nd.keys.length c2) (.slice a3 nd.kids.length c3)) (hf : nd.fits 1048576) :
    Calls Try.prog 10 #[.agg #[.int .i64 5, .int .i64 to, .int .i64 nd.kind, .int .i64 nd.num, .int .i64 nd.mat, .string nd.text, .slice a1 nd.names.length c1, .slice a2 nd.keys.length c2, .slice a3 nd.kids.length c3], .int .i64 N] w fun e w' => e = .returned (.bool ((to == 0) && (Co.zero nd && ((nd.num == 0) || (nd.num == 1))))) ∧ Below w.heap.size w w' := by
  obtain ⟨R, hR⟩ : ∃ R, ((to == 0) && (Co.zero nd && ((nd.num == 0) || (nd.num == 1)))) = R := ⟨_, rfl⟩
  rw [hR]
  replace hR := mkH hR
  obtain ⟨W, hW⟩ : ∃ W, W = w.alloc (.cells #[.int .i64 5, .int .i64 to, .int .i64 nd.kind, .int .i64 nd.num, .int .i64 nd.mat, .string nd.text, .slice a1 nd.names.length c1, .slice a2 nd.keys.length c2, .slice a3 nd.kids.length c3] 39) := ⟨_, rfl⟩
  have hbW : Below w.heap.size w W := by rw [hW]; exact (Below.refl _ _).alloc (Nat.le_refl _) _
  have hWs : w.heap.size < W.heap.size := by rw [hW]; simp
  have q0 : W.cell? ⟨w.heap.size, 0, none⟩ = some (.int .i64 5) := by rw [hW]; simp
  have q1 : W.cell? ⟨w.heap.size, 1, none⟩ = some (.int .i64 to) := by rw [hW]; simp
  have q2 : W.cell? ⟨w.heap.size, 2, none⟩ = some (.int .i64 nd.kind) := by rw [hW]; simp
  have q3 : W.cell? ⟨w.heap.size, 3, none⟩ = some (.int .i64 nd.num) := by rw [hW]; simp
  have q4 : W.cell? ⟨w.heap.size, 4, none⟩ = some (.int .i64 nd.mat) := by rw [hW]; simp
  have q5 : W.cell? ⟨w.heap.size, 5, none⟩ = some (.string nd.text) := by rw [hW]; simp
  have q6 : W.cell? ⟨w.heap.size, 6, none⟩ = some (.slice a1 nd.names.length c1) := by rw [hW]; simp
  have q7 : W.cell? ⟨w.heap.size, 7, none⟩ = some (.slice a2 nd.keys.length c2) := by rw [hW]; simp
  have q8 : W.cell? ⟨w.heap.size, 8, none⟩ = some (.slice a3 nd.kids.length c3) := by rw [hW]; simp
  have cZ := mkH fun (w' : World) => specZero nd a1 a2 a3 c1 c2 c3 w'
  have cF := mkH fun (w' : World) (hb : Below w.heap.size w w') => specFields nd _ _ _ w' ((hI.below hb).mono hb.size) hf
  unfold ndV at cF
  replace hW := mkH hW
  clear hI hf
  by_cases hz : Co.zero nd = true
  · rw [hz] at cZ
    have hs_W := hWs
    have hbw_W := hbW
    have q0_W := q0
    have q1_W := q1
    have q2_W := q2
    have q3_W := q3
    have q4_W := q4
    have q5_W := q5
    have q6_W := q6
    have q7_W := q7
    have q8_W := q8
    clear q0 q1 q2 q3 q4 q5 q6 q7 q8 hWs hbW
    go_enter Try.func10, Try.ntmps10
    go_wp2_with fail
    rw [← hW.out]
    refine (cZ.out W).mono ?_
    rintro e w1 ⟨rfl, hb_w1⟩
    have q0_w1 := (hb_w1.cell (p := ⟨w.heap.size, 0, none⟩) hs_W).trans q0_W
    have q1_w1 := (hb_w1.cell (p := ⟨w.heap.size, 1, none⟩) hs_W).trans q1_W
    have q2_w1 := (hb_w1.cell (p := ⟨w.heap.size, 2, none⟩) hs_W).trans q2_W
    have q3_w1 := (hb_w1.cell (p := ⟨w.heap.size, 3, none⟩) hs_W).trans q3_W
    have q4_w1 := (hb_w1.cell (p := ⟨w.heap.size, 4, none⟩) hs_W).trans q4_W
    have q5_w1 := (hb_w1.cell (p := ⟨w.heap.size, 5, none⟩) hs_W).trans q5_W
    have q6_w1 := (hb_w1.cell (p := ⟨w.heap.size, 6, none⟩) hs_W).trans q6_W
    have q7_w1 := (hb_w1.cell (p := ⟨w.heap.size, 7, none⟩) hs_W).trans q7_W
    have q8_w1 := (hb_w1.cell (p := ⟨w.heap.size, 8, none⟩) hs_W).trans q8_W
    have hs_w1 := Nat.lt_of_lt_of_le hs_W hb_w1.size
    have hbw_w1 := hbw_W.trans (hb_w1.mono (Nat.le_of_lt hs_W))
    clear q0_W q1_W q2_W q3_W q4_W q5_W q6_W q7_W q8_W hb_w1 hs_W hbw_W
    go_wp2_with fail
    refine (cZ.out w1).mono ?_
    rintro e w2 ⟨rfl, hb_w2⟩
    have q0_w2 := (hb_w2.cell (p := ⟨w.heap.size, 0, none⟩) hs_w1).trans q0_w1
    have q1_w2 := (hb_w2.cell (p := ⟨w.heap.size, 1, none⟩) hs_w1).trans q1_w1
    have q2_w2 := (hb_w2.cell (p := ⟨w.heap.size, 2, none⟩) hs_w1).trans q2_w1
    have q3_w2 := (hb_w2.cell (p := ⟨w.heap.size, 3, none⟩) hs_w1).trans q3_w1
    have q4_w2 := (hb_w2.cell (p := ⟨w.heap.size, 4, none⟩) hs_w1).trans q4_w1
    have q5_w2 := (hb_w2.cell (p := ⟨w.heap.size, 5, none⟩) hs_w1).trans q5_w1
    have q6_w2 := (hb_w2.cell (p := ⟨w.heap.size, 6, none⟩) hs_w1).trans q6_w1
    have q7_w2 := (hb_w2.cell (p := ⟨w.heap.size, 7, none⟩) hs_w1).trans q7_w1
    have q8_w2 := (hb_w2.cell (p := ⟨w.heap.size, 8, none⟩) hs_w1).trans q8_w1
    have hs_w2 := Nat.lt_of_lt_of_le hs_w1 hb_w2.size
    have hbw_w2 := hbw_w1.trans (hb_w2.mono (Nat.le_of_lt hs_w1))
    clear q0_w1 q1_w1 q2_w1 q3_w1 q4_w1 q5_w1 q6_w1 q7_w1 q8_w1 hb_w2 hs_w1 hbw_w1
    by_cases hu : (nd.num == 0) = true
    · by_cases ht : (to == 0) = true
      · go_wp2
        go_ret
        have hr := hR.out
        rw [hz, hu, ht] at hr
        clear hR
        subst hr
        exact ⟨rfl, hbw_w2⟩
      · replace ht : (to == 0) = false := by simpa only [Bool.not_eq_true] using ht
        go_wp2
        go_ret
        have hr := hR.out
        rw [hz, hu, ht] at hr
        clear hR
        subst hr
        exact ⟨rfl, hbw_w2⟩
    · replace hu : (nd.num == 0) = false := by simpa only [Bool.not_eq_true] using hu
      by_cases ht : (to == 0) = true
      · go_wp2
        go_ret
        have hr := hR.out
        rw [hz, hu, ht] at hr
        clear hR
        subst hr
        exact ⟨rfl, hbw_w2⟩
      · replace ht : (to == 0) = false := by simpa only [Bool.not_eq_true] using ht
        go_wp2
        go_ret
        have hr := hR.out
        rw [hz, hu, ht] at hr
        clear hR
        subst hr
        exact ⟨rfl, hbw_w2⟩
  · replace hz : Co.zero nd = false := by simpa only [Bool.not_eq_true] using hz
    rw [hz] at cZ
    have hs_W := hWs
    have hbw_W := hbW
    have q0_W := q0
    have q1_W := q1
    have q2_W := q2
    have q3_W := q3
    have q4_W := q4
    have q5_W := q5
    have q6_W := q6
    have q7_W := q7
    have q8_W := q8
    clear q0 q1 q2 q3 q4 q5 q6 q7 q8 hWs hbW
    go_enter Try.func10, Try.ntmps10
    go_wp2_with fail
    rw [← hW.out]
    refine (cZ.out W).mono ?_
    rintro e w1 ⟨rfl, hb_w1⟩
    have q0_w1 := (hb_w1.cell (p := ⟨w.heap.size, 0, none⟩) hs_W).trans q0_W
    have q1_w1 := (hb_w1.cell (p := ⟨w.heap.size, 1, none⟩) hs_W).trans q1_W
    have q2_w1 := (hb_w1.cell (p := ⟨w.heap.size, 2, none⟩) hs_W).trans q2_W
    have q3_w1 := (hb_w1.cell (p := ⟨w.heap.size, 3, none⟩) hs_W).trans q3_W
    have q4_w1 := (hb_w1.cell (p := ⟨w.heap.size, 4, none⟩) hs_W).trans q4_W
    have q5_w1 := (hb_w1.cell (p := ⟨w.heap.size, 5, none⟩) hs_W).trans q5_W
    have q6_w1 := (hb_w1.cell (p := ⟨w.heap.size, 6, none⟩) hs_W).trans q6_W
    have q7_w1 := (hb_w1.cell (p := ⟨w.heap.size, 7, none⟩) hs_W).trans q7_W
    have q8_w1 := (hb_w1.cell (p := ⟨w.heap.size, 8, none⟩) hs_W).trans q8_W
    have hs_w1 := Nat.lt_of_lt_of_le hs_W hb_w1.size
    have hbw_w1 := hbw_W.trans (hb_w1.mono (Nat.le_of_lt hs_W))
    clear q0_W q1_W q2_W q3_W q4_W q5_W q6_W q7_W q8_W hb_w1 hs_W hbw_W
    go_wp2_with fail
    refine (cZ.out w1).mono ?_
    rintro e w2 ⟨rfl, hb_w2⟩
    have q0_w2 := (hb_w2.cell (p := ⟨w.heap.size, 0, none⟩) hs_w1).trans q0_w1
    have q1_w2 := (hb_w2.cell (p := ⟨w.heap.size, 1, none⟩) hs_w1).trans q1_w1
    have q2_w2 := (hb_w2.cell (p := ⟨w.heap.size, 2, none⟩) hs_w1).trans q2_w1
    have q3_w2 := (hb_w2.cell (p := ⟨w.heap.size, 3, none⟩) hs_w1).trans q3_w1
    have q4_w2 := (hb_w2.cell (p := ⟨w.heap.size, 4, none⟩) hs_w1).trans q4_w1
    have q5_w2 := (hb_w2.cell (p := ⟨w.heap.size, 5, none⟩) hs_w1).trans q5_w1
    have q6_w2 := (hb_w2.cell (p := ⟨w.heap.size, 6, none⟩) hs_w1).trans q6_w1
    have q7_w2 := (hb_w2.cell (p := ⟨w.heap.size, 7, none⟩) hs_w1).trans q7_w1
    have q8_w2 := (hb_w2.cell (p := ⟨w.heap.size, 8, none⟩) hs_w1).trans q8_w1
    have hs_w2 := Nat.lt_of_lt_of_le hs_w1 hb_w2.size
    have hbw_w2 := hbw_w1.trans (hb_w2.mono (Nat.le_of_lt hs_w1))
    clear q0_w1 q1_w1 q2_w1 q3_w1 q4_w1 q5_w1 q6_w1 q7_w1 q8_w1 hb_w2 hs_w1 hbw_w1
    by_cases ht : (to == 0) = true
    · go_wp2
      go_ret
      have hr := hR.out
      rw [hz, ht] at hr
      clear hR
      subst hr
      exact ⟨rfl, hbw_w2⟩
    · replace ht : (to == 0) = false := by simpa only [Bool.not_eq_true] using ht
      go_wp2
      go_ret
      have hr := hR.out
      rw [hz, ht] at hr
      clear hR
      subst hr
      exact ⟨rfl, hbw_w2⟩
set_option maxHeartbeats 4000000 in
set_option maxRecDepth 20000 in
theorem specR8 (to : Int) (nd : Nd) (a1 a2 a3 : Option Addr) (c1 c2 c3 N : Nat) (w : World) (hI : NdIn w.heap.size w nd (.slice a1 nd.names.length c1) (.slice a2 nd.keys.length c2) (.slice a3 nd.kids.length c3)) (hf : nd.fits 1048576) :
    Calls Try.prog 10 #[.agg #[.int .i64 8, .int .i64 to, .int .i64 nd.kind, .int .i64 nd.num, .int .i64 nd.mat, .string nd.text, .slice a1 nd.names.length c1, .slice a2 nd.keys.length c2, .slice a3 nd.kids.length c3], .int .i64 N] w fun e w' => e = .returned (.bool ((to == 0) && ((Co.zero nd && decide (0 ≤ nd.num)) && decide (nd.num ≤ 100)))) ∧ Below w.heap.size w w' := by
  obtain ⟨R, hR⟩ : ∃ R, ((to == 0) && ((Co.zero nd && decide (0 ≤ nd.num)) && decide (nd.num ≤ 100))) = R := ⟨_, rfl⟩
  rw [hR]
  replace hR := mkH hR
  obtain ⟨W, hW⟩ : ∃ W, W = w.alloc (.cells #[.int .i64 8, .int .i64 to, .int .i64 nd.kind, .int .i64 nd.num, .int .i64 nd.mat, .string nd.text, .slice a1 nd.names.length c1, .slice a2 nd.keys.length c2, .slice a3 nd.kids.length c3] 39) := ⟨_, rfl⟩
  have hbW : Below w.heap.size w W := by rw [hW]; exact (Below.refl _ _).alloc (Nat.le_refl _) _
  have hWs : w.heap.size < W.heap.size := by rw [hW]; simp
  have q0 : W.cell? ⟨w.heap.size, 0, none⟩ = some (.int .i64 8) := by rw [hW]; simp
  have q1 : W.cell? ⟨w.heap.size, 1, none⟩ = some (.int .i64 to) := by rw [hW]; simp
  have q2 : W.cell? ⟨w.heap.size, 2, none⟩ = some (.int .i64 nd.kind) := by rw [hW]; simp
  have q3 : W.cell? ⟨w.heap.size, 3, none⟩ = some (.int .i64 nd.num) := by rw [hW]; simp
  have q4 : W.cell? ⟨w.heap.size, 4, none⟩ = some (.int .i64 nd.mat) := by rw [hW]; simp
  have q5 : W.cell? ⟨w.heap.size, 5, none⟩ = some (.string nd.text) := by rw [hW]; simp
  have q6 : W.cell? ⟨w.heap.size, 6, none⟩ = some (.slice a1 nd.names.length c1) := by rw [hW]; simp
  have q7 : W.cell? ⟨w.heap.size, 7, none⟩ = some (.slice a2 nd.keys.length c2) := by rw [hW]; simp
  have q8 : W.cell? ⟨w.heap.size, 8, none⟩ = some (.slice a3 nd.kids.length c3) := by rw [hW]; simp
  have cZ := mkH fun (w' : World) => specZero nd a1 a2 a3 c1 c2 c3 w'
  have cF := mkH fun (w' : World) (hb : Below w.heap.size w w') => specFields nd _ _ _ w' ((hI.below hb).mono hb.size) hf
  unfold ndV at cF
  replace hW := mkH hW
  clear hI hf
  by_cases hz : Co.zero nd = true
  · rw [hz] at cZ
    have hs_W := hWs
    have hbw_W := hbW
    have q0_W := q0
    have q1_W := q1
    have q2_W := q2
    have q3_W := q3
    have q4_W := q4
    have q5_W := q5
    have q6_W := q6
    have q7_W := q7
    have q8_W := q8
    clear q0 q1 q2 q3 q4 q5 q6 q7 q8 hWs hbW
    go_enter Try.func10, Try.ntmps10
    go_wp2_with fail
    rw [← hW.out]
    refine (cZ.out W).mono ?_
    rintro e w1 ⟨rfl, hb_w1⟩
    have q0_w1 := (hb_w1.cell (p := ⟨w.heap.size, 0, none⟩) hs_W).trans q0_W
    have q1_w1 := (hb_w1.cell (p := ⟨w.heap.size, 1, none⟩) hs_W).trans q1_W
    have q2_w1 := (hb_w1.cell (p := ⟨w.heap.size, 2, none⟩) hs_W).trans q2_W
    have q3_w1 := (hb_w1.cell (p := ⟨w.heap.size, 3, none⟩) hs_W).trans q3_W
    have q4_w1 := (hb_w1.cell (p := ⟨w.heap.size, 4, none⟩) hs_W).trans q4_W
    have q5_w1 := (hb_w1.cell (p := ⟨w.heap.size, 5, none⟩) hs_W).trans q5_W
    have q6_w1 := (hb_w1.cell (p := ⟨w.heap.size, 6, none⟩) hs_W).trans q6_W
    have q7_w1 := (hb_w1.cell (p := ⟨w.heap.size, 7, none⟩) hs_W).trans q7_W
    have q8_w1 := (hb_w1.cell (p := ⟨w.heap.size, 8, none⟩) hs_W).trans q8_W
    have hs_w1 := Nat.lt_of_lt_of_le hs_W hb_w1.size
    have hbw_w1 := hbw_W.trans (hb_w1.mono (Nat.le_of_lt hs_W))
    clear q0_W q1_W q2_W q3_W q4_W q5_W q6_W q7_W q8_W hb_w1 hs_W hbw_W
    go_wp2_with fail
    refine (cZ.out w1).mono ?_
    rintro e w2 ⟨rfl, hb_w2⟩
    have q0_w2 := (hb_w2.cell (p := ⟨w.heap.size, 0, none⟩) hs_w1).trans q0_w1
    have q1_w2 := (hb_w2.cell (p := ⟨w.heap.size, 1, none⟩) hs_w1).trans q1_w1
    have q2_w2 := (hb_w2.cell (p := ⟨w.heap.size, 2, none⟩) hs_w1).trans q2_w1
    have q3_w2 := (hb_w2.cell (p := ⟨w.heap.size, 3, none⟩) hs_w1).trans q3_w1
    have q4_w2 := (hb_w2.cell (p := ⟨w.heap.size, 4, none⟩) hs_w1).trans q4_w1
    have q5_w2 := (hb_w2.cell (p := ⟨w.heap.size, 5, none⟩) hs_w1).trans q5_w1
    have q6_w2 := (hb_w2.cell (p := ⟨w.heap.size, 6, none⟩) hs_w1).trans q6_w1
    have q7_w2 := (hb_w2.cell (p := ⟨w.heap.size, 7, none⟩) hs_w1).trans q7_w1
    have q8_w2 := (hb_w2.cell (p := ⟨w.heap.size, 8, none⟩) hs_w1).trans q8_w1
    have hs_w2 := Nat.lt_of_lt_of_le hs_w1 hb_w2.size
    have hbw_w2 := hbw_w1.trans (hb_w2.mono (Nat.le_of_lt hs_w1))
    clear q0_w1 q1_w1 q2_w1 q3_w1 q4_w1 q5_w1 q6_w1 q7_w1 q8_w1 hb_w2 hs_w1 hbw_w1
    by_cases hu : decide (0 ≤ nd.num) = true
    · by_cases ht : (to == 0) = true
      · go_wp2
        go_ret
        have hr := hR.out
        rw [hz, hu, ht] at hr
        clear hR
        subst hr
        exact ⟨rfl, hbw_w2⟩
      · replace ht : (to == 0) = false := by simpa only [Bool.not_eq_true] using ht
        go_wp2
        go_ret
        have hr := hR.out
        rw [hz, hu, ht] at hr
        clear hR
        subst hr
        exact ⟨rfl, hbw_w2⟩
    · replace hu : decide (0 ≤ nd.num) = false := by simpa only [Bool.not_eq_true] using hu
      by_cases ht : (to == 0) = true
      · go_wp2
        go_ret
        have hr := hR.out
        rw [hz, hu, ht] at hr
        clear hR
        subst hr
        exact ⟨rfl, hbw_w2⟩
      · replace ht : (to == 0) = false := by simpa only [Bool.not_eq_true] using ht
        go_wp2
        go_ret
        have hr := hR.out
        rw [hz, hu, ht] at hr
        clear hR
        subst hr
        exact ⟨rfl, hbw_w2⟩
  · replace hz : Co.zero nd = false := by simpa only [Bool.not_eq_true] using hz
    rw [hz] at cZ
    have hs_W := hWs
    have hbw_W := hbW
    have q0_W := q0
    have q1_W := q1
    have q2_W := q2
    have q3_W := q3
    have q4_W := q4
    have q5_W := q5
    have q6_W := q6
    have q7_W := q7
    have q8_W := q8
    clear q0 q1 q2 q3 q4 q5 q6 q7 q8 hWs hbW
    go_enter Try.func10, Try.ntmps10
    go_wp2_with fail
    rw [← hW.out]
    refine (cZ.out W).mono ?_
    rintro e w1 ⟨rfl, hb_w1⟩
    have q0_w1 := (hb_w1.cell (p := ⟨w.heap.size, 0, none⟩) hs_W).trans q0_W
    have q1_w1 := (hb_w1.cell (p := ⟨w.heap.size, 1, none⟩) hs_W).trans q1_W
    have q2_w1 := (hb_w1.cell (p := ⟨w.heap.size, 2, none⟩) hs_W).trans q2_W
    have q3_w1 := (hb_w1.cell (p := ⟨w.heap.size, 3, none⟩) hs_W).trans q3_W
    have q4_w1 := (hb_w1.cell (p := ⟨w.heap.size, 4, none⟩) hs_W).trans q4_W
    have q5_w1 := (hb_w1.cell (p := ⟨w.heap.size, 5, none⟩) hs_W).trans q5_W
    have q6_w1 := (hb_w1.cell (p := ⟨w.heap.size, 6, none⟩) hs_W).trans q6_W
    have q7_w1 := (hb_w1.cell (p := ⟨w.heap.size, 7, none⟩) hs_W).trans q7_W
    have q8_w1 := (hb_w1.cell (p := ⟨w.heap.size, 8, none⟩) hs_W).trans q8_W
    have hs_w1 := Nat.lt_of_lt_of_le hs_W hb_w1.size
    have hbw_w1 := hbw_W.trans (hb_w1.mono (Nat.le_of_lt hs_W))
    clear q0_W q1_W q2_W q3_W q4_W q5_W q6_W q7_W q8_W hb_w1 hs_W hbw_W
    go_wp2_with fail
    refine (cZ.out w1).mono ?_
    rintro e w2 ⟨rfl, hb_w2⟩
    have q0_w2 := (hb_w2.cell (p := ⟨w.heap.size, 0, none⟩) hs_w1).trans q0_w1
    have q1_w2 := (hb_w2.cell (p := ⟨w.heap.size, 1, none⟩) hs_w1).trans q1_w1
    have q2_w2 := (hb_w2.cell (p := ⟨w.heap.size, 2, none⟩) hs_w1).trans q2_w1
    have q3_w2 := (hb_w2.cell (p := ⟨w.heap.size, 3, none⟩) hs_w1).trans q3_w1
    have q4_w2 := (hb_w2.cell (p := ⟨w.heap.size, 4, none⟩) hs_w1).trans q4_w1
    have q5_w2 := (hb_w2.cell (p := ⟨w.heap.size, 5, none⟩) hs_w1).trans q5_w1
    have q6_w2 := (hb_w2.cell (p := ⟨w.heap.size, 6, none⟩) hs_w1).trans q6_w1
    have q7_w2 := (hb_w2.cell (p := ⟨w.heap.size, 7, none⟩) hs_w1).trans q7_w1
    have q8_w2 := (hb_w2.cell (p := ⟨w.heap.size, 8, none⟩) hs_w1).trans q8_w1
    have hs_w2 := Nat.lt_of_lt_of_le hs_w1 hb_w2.size
    have hbw_w2 := hbw_w1.trans (hb_w2.mono (Nat.le_of_lt hs_w1))
    clear q0_w1 q1_w1 q2_w1 q3_w1 q4_w1 q5_w1 q6_w1 q7_w1 q8_w1 hb_w2 hs_w1 hbw_w1
    by_cases ht : (to == 0) = true
    · go_wp2
      go_ret
      have hr := hR.out
      rw [hz, ht] at hr
      clear hR
      subst hr
      exact ⟨rfl, hbw_w2⟩
    · replace ht : (to == 0) = false := by simpa only [Bool.not_eq_true] using ht
      go_wp2
      go_ret
      have hr := hR.out
      rw [hz, ht] at hr
      clear hR
      subst hr
      exact ⟨rfl, hbw_w2⟩
set_option maxHeartbeats 4000000 in
set_option maxRecDepth 20000 in
theorem specR6 (to : Int) (nd : Nd) (a1 a2 a3 : Option Addr) (c1 c2 c3 N : Nat) (w : World) (hI : NdIn w.heap.size w nd (.slice a1 nd.names.length c1) (.slice a2 nd.keys.length c2) (.slice a3 nd.kids.length c3)) (hf : nd.fits 1048576) :
    Calls Try.prog 10 #[.agg #[.int .i64 6, .int .i64 to, .int .i64 nd.kind, .int .i64 nd.num, .int .i64 nd.mat, .string nd.text, .slice a1 nd.names.length c1, .slice a2 nd.keys.length c2, .slice a3 nd.kids.length c3], .int .i64 N] w fun e w' => e = .returned (.bool ((to == 0) && ((Co.leafC nd.kind && Fn.fieldsOk nd) && Co.kid0 nd))) ∧ Below w.heap.size w w' := by
  obtain ⟨R, hR⟩ : ∃ R, ((to == 0) && ((Co.leafC nd.kind && Fn.fieldsOk nd) && Co.kid0 nd)) = R := ⟨_, rfl⟩
  rw [hR]
  unfold Co.leafC Co.kid0 at hR
  replace hR := mkH hR
  obtain ⟨W, hW⟩ : ∃ W, W = w.alloc (.cells #[.int .i64 6, .int .i64 to, .int .i64 nd.kind, .int .i64 nd.num, .int .i64 nd.mat, .string nd.text, .slice a1 nd.names.length c1, .slice a2 nd.keys.length c2, .slice a3 nd.kids.length c3] 39) := ⟨_, rfl⟩
  have hbW : Below w.heap.size w W := by rw [hW]; exact (Below.refl _ _).alloc (Nat.le_refl _) _
  have hWs : w.heap.size < W.heap.size := by rw [hW]; simp
  have q0 : W.cell? ⟨w.heap.size, 0, none⟩ = some (.int .i64 6) := by rw [hW]; simp
  have q1 : W.cell? ⟨w.heap.size, 1, none⟩ = some (.int .i64 to) := by rw [hW]; simp
  have q2 : W.cell? ⟨w.heap.size, 2, none⟩ = some (.int .i64 nd.kind) := by rw [hW]; simp
  have q3 : W.cell? ⟨w.heap.size, 3, none⟩ = some (.int .i64 nd.num) := by rw [hW]; simp
  have q4 : W.cell? ⟨w.heap.size, 4, none⟩ = some (.int .i64 nd.mat) := by rw [hW]; simp
  have q5 : W.cell? ⟨w.heap.size, 5, none⟩ = some (.string nd.text) := by rw [hW]; simp
  have q6 : W.cell? ⟨w.heap.size, 6, none⟩ = some (.slice a1 nd.names.length c1) := by rw [hW]; simp
  have q7 : W.cell? ⟨w.heap.size, 7, none⟩ = some (.slice a2 nd.keys.length c2) := by rw [hW]; simp
  have q8 : W.cell? ⟨w.heap.size, 8, none⟩ = some (.slice a3 nd.kids.length c3) := by rw [hW]; simp
  have cZ := mkH fun (w' : World) => specZero nd a1 a2 a3 c1 c2 c3 w'
  have cF := mkH fun (w' : World) (hb : Below w.heap.size w w') => specFields nd _ _ _ w' ((hI.below hb).mono hb.size) hf
  unfold ndV at cF
  replace hW := mkH hW
  clear hI hf
  by_cases hz : Co.zero nd = true
  · rw [hz] at cZ
    have hs_W := hWs
    have hbw_W := hbW
    have q0_W := q0
    have q1_W := q1
    have q2_W := q2
    have q3_W := q3
    have q4_W := q4
    have q5_W := q5
    have q6_W := q6
    have q7_W := q7
    have q8_W := q8
    clear q0 q1 q2 q3 q4 q5 q6 q7 q8 hWs hbW
    go_enter Try.func10, Try.ntmps10
    go_wp2_with fail
    rw [← hW.out]
    refine (cZ.out W).mono ?_
    rintro e w1 ⟨rfl, hb_w1⟩
    have q0_w1 := (hb_w1.cell (p := ⟨w.heap.size, 0, none⟩) hs_W).trans q0_W
    have q1_w1 := (hb_w1.cell (p := ⟨w.heap.size, 1, none⟩) hs_W).trans q1_W
    have q2_w1 := (hb_w1.cell (p := ⟨w.heap.size, 2, none⟩) hs_W).trans q2_W
    have q3_w1 := (hb_w1.cell (p := ⟨w.heap.size, 3, none⟩) hs_W).trans q3_W
    have q4_w1 := (hb_w1.cell (p := ⟨w.heap.size, 4, none⟩) hs_W).trans q4_W
    have q5_w1 := (hb_w1.cell (p := ⟨w.heap.size, 5, none⟩) hs_W).trans q5_W
    have q6_w1 := (hb_w1.cell (p := ⟨w.heap.size, 6, none⟩) hs_W).trans q6_W
    have q7_w1 := (hb_w1.cell (p := ⟨w.heap.size, 7, none⟩) hs_W).trans q7_W
    have q8_w1 := (hb_w1.cell (p := ⟨w.heap.size, 8, none⟩) hs_W).trans q8_W
    have hs_w1 := Nat.lt_of_lt_of_le hs_W hb_w1.size
    have hbw_w1 := hbw_W.trans (hb_w1.mono (Nat.le_of_lt hs_W))
    clear q0_W q1_W q2_W q3_W q4_W q5_W q6_W q7_W q8_W hb_w1 hs_W hbw_W
    by_cases k4 : (nd.kind == 4) = true
    · by_cases ho : Fn.fieldsOk nd = true
      · rw [ho] at cF
        go_wp2_with fail
        refine (cF.out w1 hbw_w1).mono ?_
        rintro e w2 ⟨rfl, hb_w2⟩
        have q0_w2 := (hb_w2.cell (p := ⟨w.heap.size, 0, none⟩) hs_w1).trans q0_w1
        have q1_w2 := (hb_w2.cell (p := ⟨w.heap.size, 1, none⟩) hs_w1).trans q1_w1
        have q2_w2 := (hb_w2.cell (p := ⟨w.heap.size, 2, none⟩) hs_w1).trans q2_w1
        have q3_w2 := (hb_w2.cell (p := ⟨w.heap.size, 3, none⟩) hs_w1).trans q3_w1
        have q4_w2 := (hb_w2.cell (p := ⟨w.heap.size, 4, none⟩) hs_w1).trans q4_w1
        have q5_w2 := (hb_w2.cell (p := ⟨w.heap.size, 5, none⟩) hs_w1).trans q5_w1
        have q6_w2 := (hb_w2.cell (p := ⟨w.heap.size, 6, none⟩) hs_w1).trans q6_w1
        have q7_w2 := (hb_w2.cell (p := ⟨w.heap.size, 7, none⟩) hs_w1).trans q7_w1
        have q8_w2 := (hb_w2.cell (p := ⟨w.heap.size, 8, none⟩) hs_w1).trans q8_w1
        have hs_w2 := Nat.lt_of_lt_of_le hs_w1 hb_w2.size
        have hbw_w2 := hbw_w1.trans (hb_w2.mono (Nat.le_of_lt hs_w1))
        clear q0_w1 q1_w1 q2_w1 q3_w1 q4_w1 q5_w1 q6_w1 q7_w1 q8_w1 hb_w2 hs_w1 hbw_w1
        by_cases ht : (to == 0) = true
        · go_wp2
          go_ret
          have hr := hR.out
          rw [k4, ho, ht] at hr
          clear hR
          subst hr
          exact ⟨rfl, hbw_w2⟩
        · replace ht : (to == 0) = false := by simpa only [Bool.not_eq_true] using ht
          go_wp2
          go_ret
          have hr := hR.out
          rw [k4, ho, ht] at hr
          clear hR
          subst hr
          exact ⟨rfl, hbw_w2⟩
      · replace ho : Fn.fieldsOk nd = false := by simpa only [Bool.not_eq_true] using ho
        rw [ho] at cF
        go_wp2_with fail
        refine (cF.out w1 hbw_w1).mono ?_
        rintro e w2 ⟨rfl, hb_w2⟩
        have q0_w2 := (hb_w2.cell (p := ⟨w.heap.size, 0, none⟩) hs_w1).trans q0_w1
        have q1_w2 := (hb_w2.cell (p := ⟨w.heap.size, 1, none⟩) hs_w1).trans q1_w1
        have q2_w2 := (hb_w2.cell (p := ⟨w.heap.size, 2, none⟩) hs_w1).trans q2_w1
        have q3_w2 := (hb_w2.cell (p := ⟨w.heap.size, 3, none⟩) hs_w1).trans q3_w1
        have q4_w2 := (hb_w2.cell (p := ⟨w.heap.size, 4, none⟩) hs_w1).trans q4_w1
        have q5_w2 := (hb_w2.cell (p := ⟨w.heap.size, 5, none⟩) hs_w1).trans q5_w1
        have q6_w2 := (hb_w2.cell (p := ⟨w.heap.size, 6, none⟩) hs_w1).trans q6_w1
        have q7_w2 := (hb_w2.cell (p := ⟨w.heap.size, 7, none⟩) hs_w1).trans q7_w1
        have q8_w2 := (hb_w2.cell (p := ⟨w.heap.size, 8, none⟩) hs_w1).trans q8_w1
        have hs_w2 := Nat.lt_of_lt_of_le hs_w1 hb_w2.size
        have hbw_w2 := hbw_w1.trans (hb_w2.mono (Nat.le_of_lt hs_w1))
        clear q0_w1 q1_w1 q2_w1 q3_w1 q4_w1 q5_w1 q6_w1 q7_w1 q8_w1 hb_w2 hs_w1 hbw_w1
        by_cases ht : (to == 0) = true
        · go_wp2
          go_ret
          have hr := hR.out
          rw [k4, ho, ht] at hr
          clear hR
          subst hr
          exact ⟨rfl, hbw_w2⟩
        · replace ht : (to == 0) = false := by simpa only [Bool.not_eq_true] using ht
          go_wp2
          go_ret
          have hr := hR.out
          rw [k4, ho, ht] at hr
          clear hR
          subst hr
          exact ⟨rfl, hbw_w2⟩
    · replace k4 : (nd.kind == 4) = false := by simpa only [Bool.not_eq_true] using k4
      by_cases k5 : (nd.kind == 5) = true
      · by_cases ho : Fn.fieldsOk nd = true
        · rw [ho] at cF
          go_wp2_with fail
          refine (cF.out w1 hbw_w1).mono ?_
          rintro e w2 ⟨rfl, hb_w2⟩
          have q0_w2 := (hb_w2.cell (p := ⟨w.heap.size, 0, none⟩) hs_w1).trans q0_w1
          have q1_w2 := (hb_w2.cell (p := ⟨w.heap.size, 1, none⟩) hs_w1).trans q1_w1
          have q2_w2 := (hb_w2.cell (p := ⟨w.heap.size, 2, none⟩) hs_w1).trans q2_w1
          have q3_w2 := (hb_w2.cell (p := ⟨w.heap.size, 3, none⟩) hs_w1).trans q3_w1
          have q4_w2 := (hb_w2.cell (p := ⟨w.heap.size, 4, none⟩) hs_w1).trans q4_w1
          have q5_w2 := (hb_w2.cell (p := ⟨w.heap.size, 5, none⟩) hs_w1).trans q5_w1
          have q6_w2 := (hb_w2.cell (p := ⟨w.heap.size, 6, none⟩) hs_w1).trans q6_w1
          have q7_w2 := (hb_w2.cell (p := ⟨w.heap.size, 7, none⟩) hs_w1).trans q7_w1
          have q8_w2 := (hb_w2.cell (p := ⟨w.heap.size, 8, none⟩) hs_w1).trans q8_w1
          have hs_w2 := Nat.lt_of_lt_of_le hs_w1 hb_w2.size
          have hbw_w2 := hbw_w1.trans (hb_w2.mono (Nat.le_of_lt hs_w1))
          clear q0_w1 q1_w1 q2_w1 q3_w1 q4_w1 q5_w1 q6_w1 q7_w1 q8_w1 hb_w2 hs_w1 hbw_w1
          by_cases ht : (to == 0) = true
          · go_wp2
            go_ret
            have hr := hR.out
            rw [k4, k5, ho, ht] at hr
            clear hR
            subst hr
            exact ⟨rfl, hbw_w2⟩
          · replace ht : (to == 0) = false := by simpa only [Bool.not_eq_true] using ht
            go_wp2
            go_ret
            have hr := hR.out
            rw [k4, k5, ho, ht] at hr
            clear hR
            subst hr
            exact ⟨rfl, hbw_w2⟩
        · replace ho : Fn.fieldsOk nd = false := by simpa only [Bool.not_eq_true] using ho
          rw [ho] at cF
          go_wp2_with fail
          refine (cF.out w1 hbw_w1).mono ?_
          rintro e w2 ⟨rfl, hb_w2⟩
          have q0_w2 := (hb_w2.cell (p := ⟨w.heap.size, 0, none⟩) hs_w1).trans q0_w1
          have q1_w2 := (hb_w2.cell (p := ⟨w.heap.size, 1, none⟩) hs_w1).trans q1_w1
          have q2_w2 := (hb_w2.cell (p := ⟨w.heap.size, 2, none⟩) hs_w1).trans q2_w1
          have q3_w2 := (hb_w2.cell (p := ⟨w.heap.size, 3, none⟩) hs_w1).trans q3_w1
          have q4_w2 := (hb_w2.cell (p := ⟨w.heap.size, 4, none⟩) hs_w1).trans q4_w1
          have q5_w2 := (hb_w2.cell (p := ⟨w.heap.size, 5, none⟩) hs_w1).trans q5_w1
          have q6_w2 := (hb_w2.cell (p := ⟨w.heap.size, 6, none⟩) hs_w1).trans q6_w1
          have q7_w2 := (hb_w2.cell (p := ⟨w.heap.size, 7, none⟩) hs_w1).trans q7_w1
          have q8_w2 := (hb_w2.cell (p := ⟨w.heap.size, 8, none⟩) hs_w1).trans q8_w1
          have hs_w2 := Nat.lt_of_lt_of_le hs_w1 hb_w2.size
          have hbw_w2 := hbw_w1.trans (hb_w2.mono (Nat.le_of_lt hs_w1))
          clear q0_w1 q1_w1 q2_w1 q3_w1 q4_w1 q5_w1 q6_w1 q7_w1 q8_w1 hb_w2 hs_w1 hbw_w1
          by_cases ht : (to == 0) = true
          · go_wp2
            go_ret
            have hr := hR.out
            rw [k4, k5, ho, ht] at hr
            clear hR
            subst hr
            exact ⟨rfl, hbw_w2⟩
          · replace ht : (to == 0) = false := by simpa only [Bool.not_eq_true] using ht
            go_wp2
            go_ret
            have hr := hR.out
            rw [k4, k5, ho, ht] at hr
            clear hR
            subst hr
            exact ⟨rfl, hbw_w2⟩
      · replace k5 : (nd.kind == 5) = false := by simpa only [Bool.not_eq_true] using k5
        by_cases k7 : decide (7 ≤ nd.kind) = true
        · by_cases k11 : decide (nd.kind ≤ 11) = true
          · by_cases ho : Fn.fieldsOk nd = true
            · rw [ho] at cF
              go_wp2_with fail
              refine (cF.out w1 hbw_w1).mono ?_
              rintro e w2 ⟨rfl, hb_w2⟩
              have q0_w2 := (hb_w2.cell (p := ⟨w.heap.size, 0, none⟩) hs_w1).trans q0_w1
              have q1_w2 := (hb_w2.cell (p := ⟨w.heap.size, 1, none⟩) hs_w1).trans q1_w1
              have q2_w2 := (hb_w2.cell (p := ⟨w.heap.size, 2, none⟩) hs_w1).trans q2_w1
              have q3_w2 := (hb_w2.cell (p := ⟨w.heap.size, 3, none⟩) hs_w1).trans q3_w1
              have q4_w2 := (hb_w2.cell (p := ⟨w.heap.size, 4, none⟩) hs_w1).trans q4_w1
              have q5_w2 := (hb_w2.cell (p := ⟨w.heap.size, 5, none⟩) hs_w1).trans q5_w1
              have q6_w2 := (hb_w2.cell (p := ⟨w.heap.size, 6, none⟩) hs_w1).trans q6_w1
              have q7_w2 := (hb_w2.cell (p := ⟨w.heap.size, 7, none⟩) hs_w1).trans q7_w1
              have q8_w2 := (hb_w2.cell (p := ⟨w.heap.size, 8, none⟩) hs_w1).trans q8_w1
              have hs_w2 := Nat.lt_of_lt_of_le hs_w1 hb_w2.size
              have hbw_w2 := hbw_w1.trans (hb_w2.mono (Nat.le_of_lt hs_w1))
              clear q0_w1 q1_w1 q2_w1 q3_w1 q4_w1 q5_w1 q6_w1 q7_w1 q8_w1 hb_w2 hs_w1 hbw_w1
              by_cases ht : (to == 0) = true
              · go_wp2
                go_ret
                have hr := hR.out
                rw [k4, k5, k7, k11, ho, ht] at hr
                clear hR
                subst hr
                exact ⟨rfl, hbw_w2⟩
              · replace ht : (to == 0) = false := by simpa only [Bool.not_eq_true] using ht
                go_wp2
                go_ret
                have hr := hR.out
                rw [k4, k5, k7, k11, ho, ht] at hr
                clear hR
                subst hr
                exact ⟨rfl, hbw_w2⟩
            · replace ho : Fn.fieldsOk nd = false := by simpa only [Bool.not_eq_true] using ho
              rw [ho] at cF
              go_wp2_with fail
              refine (cF.out w1 hbw_w1).mono ?_
              rintro e w2 ⟨rfl, hb_w2⟩
              have q0_w2 := (hb_w2.cell (p := ⟨w.heap.size, 0, none⟩) hs_w1).trans q0_w1
              have q1_w2 := (hb_w2.cell (p := ⟨w.heap.size, 1, none⟩) hs_w1).trans q1_w1
              have q2_w2 := (hb_w2.cell (p := ⟨w.heap.size, 2, none⟩) hs_w1).trans q2_w1
              have q3_w2 := (hb_w2.cell (p := ⟨w.heap.size, 3, none⟩) hs_w1).trans q3_w1
              have q4_w2 := (hb_w2.cell (p := ⟨w.heap.size, 4, none⟩) hs_w1).trans q4_w1
              have q5_w2 := (hb_w2.cell (p := ⟨w.heap.size, 5, none⟩) hs_w1).trans q5_w1
              have q6_w2 := (hb_w2.cell (p := ⟨w.heap.size, 6, none⟩) hs_w1).trans q6_w1
              have q7_w2 := (hb_w2.cell (p := ⟨w.heap.size, 7, none⟩) hs_w1).trans q7_w1
              have q8_w2 := (hb_w2.cell (p := ⟨w.heap.size, 8, none⟩) hs_w1).trans q8_w1
              have hs_w2 := Nat.lt_of_lt_of_le hs_w1 hb_w2.size
              have hbw_w2 := hbw_w1.trans (hb_w2.mono (Nat.le_of_lt hs_w1))
              clear q0_w1 q1_w1 q2_w1 q3_w1 q4_w1 q5_w1 q6_w1 q7_w1 q8_w1 hb_w2 hs_w1 hbw_w1
              by_cases ht : (to == 0) = true
              · go_wp2
                go_ret
                have hr := hR.out
                rw [k4, k5, k7, k11, ho, ht] at hr
                clear hR
                subst hr
                exact ⟨rfl, hbw_w2⟩
              · replace ht : (to == 0) = false := by simpa only [Bool.not_eq_true] using ht
                go_wp2
                go_ret
                have hr := hR.out
                rw [k4, k5, k7, k11, ho, ht] at hr
                clear hR
                subst hr
                exact ⟨rfl, hbw_w2⟩
          · replace k11 : decide (nd.kind ≤ 11) = false := by simpa only [Bool.not_eq_true] using k11
            by_cases ht : (to == 0) = true
            · go_wp2
              go_ret
              have hr := hR.out
              rw [k4, k5, k7, k11, ht] at hr
              clear hR
              subst hr
              exact ⟨rfl, hbw_w1⟩
            · replace ht : (to == 0) = false := by simpa only [Bool.not_eq_true] using ht
              go_wp2
              go_ret
              have hr := hR.out
              rw [k4, k5, k7, k11, ht] at hr
              clear hR
              subst hr
              exact ⟨rfl, hbw_w1⟩
        · replace k7 : decide (7 ≤ nd.kind) = false := by simpa only [Bool.not_eq_true] using k7
          by_cases ht : (to == 0) = true
          · go_wp2
            go_ret
            have hr := hR.out
            rw [k4, k5, k7, ht] at hr
            clear hR
            subst hr
            exact ⟨rfl, hbw_w1⟩
          · replace ht : (to == 0) = false := by simpa only [Bool.not_eq_true] using ht
            go_wp2
            go_ret
            have hr := hR.out
            rw [k4, k5, k7, ht] at hr
            clear hR
            subst hr
            exact ⟨rfl, hbw_w1⟩
  · replace hz : Co.zero nd = false := by simpa only [Bool.not_eq_true] using hz
    rw [hz] at cZ
    have hs_W := hWs
    have hbw_W := hbW
    have q0_W := q0
    have q1_W := q1
    have q2_W := q2
    have q3_W := q3
    have q4_W := q4
    have q5_W := q5
    have q6_W := q6
    have q7_W := q7
    have q8_W := q8
    clear q0 q1 q2 q3 q4 q5 q6 q7 q8 hWs hbW
    go_enter Try.func10, Try.ntmps10
    go_wp2_with fail
    rw [← hW.out]
    refine (cZ.out W).mono ?_
    rintro e w1 ⟨rfl, hb_w1⟩
    have q0_w1 := (hb_w1.cell (p := ⟨w.heap.size, 0, none⟩) hs_W).trans q0_W
    have q1_w1 := (hb_w1.cell (p := ⟨w.heap.size, 1, none⟩) hs_W).trans q1_W
    have q2_w1 := (hb_w1.cell (p := ⟨w.heap.size, 2, none⟩) hs_W).trans q2_W
    have q3_w1 := (hb_w1.cell (p := ⟨w.heap.size, 3, none⟩) hs_W).trans q3_W
    have q4_w1 := (hb_w1.cell (p := ⟨w.heap.size, 4, none⟩) hs_W).trans q4_W
    have q5_w1 := (hb_w1.cell (p := ⟨w.heap.size, 5, none⟩) hs_W).trans q5_W
    have q6_w1 := (hb_w1.cell (p := ⟨w.heap.size, 6, none⟩) hs_W).trans q6_W
    have q7_w1 := (hb_w1.cell (p := ⟨w.heap.size, 7, none⟩) hs_W).trans q7_W
    have q8_w1 := (hb_w1.cell (p := ⟨w.heap.size, 8, none⟩) hs_W).trans q8_W
    have hs_w1 := Nat.lt_of_lt_of_le hs_W hb_w1.size
    have hbw_w1 := hbw_W.trans (hb_w1.mono (Nat.le_of_lt hs_W))
    clear q0_W q1_W q2_W q3_W q4_W q5_W q6_W q7_W q8_W hb_w1 hs_W hbw_W
    by_cases k4 : (nd.kind == 4) = true
    · by_cases ho : Fn.fieldsOk nd = true
      · rw [ho] at cF
        go_wp2_with fail
        refine (cF.out w1 hbw_w1).mono ?_
        rintro e w2 ⟨rfl, hb_w2⟩
        have q0_w2 := (hb_w2.cell (p := ⟨w.heap.size, 0, none⟩) hs_w1).trans q0_w1
        have q1_w2 := (hb_w2.cell (p := ⟨w.heap.size, 1, none⟩) hs_w1).trans q1_w1
        have q2_w2 := (hb_w2.cell (p := ⟨w.heap.size, 2, none⟩) hs_w1).trans q2_w1
        have q3_w2 := (hb_w2.cell (p := ⟨w.heap.size, 3, none⟩) hs_w1).trans q3_w1
        have q4_w2 := (hb_w2.cell (p := ⟨w.heap.size, 4, none⟩) hs_w1).trans q4_w1
        have q5_w2 := (hb_w2.cell (p := ⟨w.heap.size, 5, none⟩) hs_w1).trans q5_w1
        have q6_w2 := (hb_w2.cell (p := ⟨w.heap.size, 6, none⟩) hs_w1).trans q6_w1
        have q7_w2 := (hb_w2.cell (p := ⟨w.heap.size, 7, none⟩) hs_w1).trans q7_w1
        have q8_w2 := (hb_w2.cell (p := ⟨w.heap.size, 8, none⟩) hs_w1).trans q8_w1
        have hs_w2 := Nat.lt_of_lt_of_le hs_w1 hb_w2.size
        have hbw_w2 := hbw_w1.trans (hb_w2.mono (Nat.le_of_lt hs_w1))
        clear q0_w1 q1_w1 q2_w1 q3_w1 q4_w1 q5_w1 q6_w1 q7_w1 q8_w1 hb_w2 hs_w1 hbw_w1
        by_cases ht : (to == 0) = true
        · go_wp2
          go_ret
          have hr := hR.out
          rw [k4, ho, ht] at hr
          clear hR
          subst hr
          exact ⟨rfl, hbw_w2⟩
        · replace ht : (to == 0) = false := by simpa only [Bool.not_eq_true] using ht
          go_wp2
          go_ret
          have hr := hR.out
          rw [k4, ho, ht] at hr
          clear hR
          subst hr
          exact ⟨rfl, hbw_w2⟩
      · replace ho : Fn.fieldsOk nd = false := by simpa only [Bool.not_eq_true] using ho
        rw [ho] at cF
        go_wp2_with fail
        refine (cF.out w1 hbw_w1).mono ?_
        rintro e w2 ⟨rfl, hb_w2⟩
        have q0_w2 := (hb_w2.cell (p := ⟨w.heap.size, 0, none⟩) hs_w1).trans q0_w1
        have q1_w2 := (hb_w2.cell (p := ⟨w.heap.size, 1, none⟩) hs_w1).trans q1_w1
        have q2_w2 := (hb_w2.cell (p := ⟨w.heap.size, 2, none⟩) hs_w1).trans q2_w1
        have q3_w2 := (hb_w2.cell (p := ⟨w.heap.size, 3, none⟩) hs_w1).trans q3_w1
        have q4_w2 := (hb_w2.cell (p := ⟨w.heap.size, 4, none⟩) hs_w1).trans q4_w1
        have q5_w2 := (hb_w2.cell (p := ⟨w.heap.size, 5, none⟩) hs_w1).trans q5_w1
        have q6_w2 := (hb_w2.cell (p := ⟨w.heap.size, 6, none⟩) hs_w1).trans q6_w1
        have q7_w2 := (hb_w2.cell (p := ⟨w.heap.size, 7, none⟩) hs_w1).trans q7_w1
        have q8_w2 := (hb_w2.cell (p := ⟨w.heap.size, 8, none⟩) hs_w1).trans q8_w1
        have hs_w2 := Nat.lt_of_lt_of_le hs_w1 hb_w2.size
        have hbw_w2 := hbw_w1.trans (hb_w2.mono (Nat.le_of_lt hs_w1))
        clear q0_w1 q1_w1 q2_w1 q3_w1 q4_w1 q5_w1 q6_w1 q7_w1 q8_w1 hb_w2 hs_w1 hbw_w1
        by_cases ht : (to == 0) = true
        · go_wp2
          go_ret
          have hr := hR.out
          rw [k4, ho, ht] at hr
          clear hR
          subst hr
          exact ⟨rfl, hbw_w2⟩
        · replace ht : (to == 0) = false := by simpa only [Bool.not_eq_true] using ht
          go_wp2
          go_ret
          have hr := hR.out
          rw [k4, ho, ht] at hr
          clear hR
          subst hr
          exact ⟨rfl, hbw_w2⟩
    · replace k4 : (nd.kind == 4) = false := by simpa only [Bool.not_eq_true] using k4
      by_cases k5 : (nd.kind == 5) = true
      · by_cases ho : Fn.fieldsOk nd = true
        · rw [ho] at cF
          go_wp2_with fail
          refine (cF.out w1 hbw_w1).mono ?_
          rintro e w2 ⟨rfl, hb_w2⟩
          have q0_w2 := (hb_w2.cell (p := ⟨w.heap.size, 0, none⟩) hs_w1).trans q0_w1
          have q1_w2 := (hb_w2.cell (p := ⟨w.heap.size, 1, none⟩) hs_w1).trans q1_w1
          have q2_w2 := (hb_w2.cell (p := ⟨w.heap.size, 2, none⟩) hs_w1).trans q2_w1
          have q3_w2 := (hb_w2.cell (p := ⟨w.heap.size, 3, none⟩) hs_w1).trans q3_w1
          have q4_w2 := (hb_w2.cell (p := ⟨w.heap.size, 4, none⟩) hs_w1).trans q4_w1
          have q5_w2 := (hb_w2.cell (p := ⟨w.heap.size, 5, none⟩) hs_w1).trans q5_w1
          have q6_w2 := (hb_w2.cell (p := ⟨w.heap.size, 6, none⟩) hs_w1).trans q6_w1
          have q7_w2 := (hb_w2.cell (p := ⟨w.heap.size, 7, none⟩) hs_w1).trans q7_w1
          have q8_w2 := (hb_w2.cell (p := ⟨w.heap.size, 8, none⟩) hs_w1).trans q8_w1
          have hs_w2 := Nat.lt_of_lt_of_le hs_w1 hb_w2.size
          have hbw_w2 := hbw_w1.trans (hb_w2.mono (Nat.le_of_lt hs_w1))
          clear q0_w1 q1_w1 q2_w1 q3_w1 q4_w1 q5_w1 q6_w1 q7_w1 q8_w1 hb_w2 hs_w1 hbw_w1
          by_cases ht : (to == 0) = true
          · go_wp2
            go_ret
            have hr := hR.out
            rw [k4, k5, ho, ht] at hr
            clear hR
            subst hr
            exact ⟨rfl, hbw_w2⟩
          · replace ht : (to == 0) = false := by simpa only [Bool.not_eq_true] using ht
            go_wp2
            go_ret
            have hr := hR.out
            rw [k4, k5, ho, ht] at hr
            clear hR
            subst hr
            exact ⟨rfl, hbw_w2⟩
        · replace ho : Fn.fieldsOk nd = false := by simpa only [Bool.not_eq_true] using ho
          rw [ho] at cF
          go_wp2_with fail
          refine (cF.out w1 hbw_w1).mono ?_
          rintro e w2 ⟨rfl, hb_w2⟩
          have q0_w2 := (hb_w2.cell (p := ⟨w.heap.size, 0, none⟩) hs_w1).trans q0_w1
          have q1_w2 := (hb_w2.cell (p := ⟨w.heap.size, 1, none⟩) hs_w1).trans q1_w1
          have q2_w2 := (hb_w2.cell (p := ⟨w.heap.size, 2, none⟩) hs_w1).trans q2_w1
          have q3_w2 := (hb_w2.cell (p := ⟨w.heap.size, 3, none⟩) hs_w1).trans q3_w1
          have q4_w2 := (hb_w2.cell (p := ⟨w.heap.size, 4, none⟩) hs_w1).trans q4_w1
          have q5_w2 := (hb_w2.cell (p := ⟨w.heap.size, 5, none⟩) hs_w1).trans q5_w1
          have q6_w2 := (hb_w2.cell (p := ⟨w.heap.size, 6, none⟩) hs_w1).trans q6_w1
          have q7_w2 := (hb_w2.cell (p := ⟨w.heap.size, 7, none⟩) hs_w1).trans q7_w1
          have q8_w2 := (hb_w2.cell (p := ⟨w.heap.size, 8, none⟩) hs_w1).trans q8_w1
          have hs_w2 := Nat.lt_of_lt_of_le hs_w1 hb_w2.size
          have hbw_w2 := hbw_w1.trans (hb_w2.mono (Nat.le_of_lt hs_w1))
          clear q0_w1 q1_w1 q2_w1 q3_w1 q4_w1 q5_w1 q6_w1 q7_w1 q8_w1 hb_w2 hs_w1 hbw_w1
          by_cases ht : (to == 0) = true
          · go_wp2
            go_ret
            have hr := hR.out
            rw [k4, k5, ho, ht] at hr
            clear hR
            subst hr
            exact ⟨rfl, hbw_w2⟩
          · replace ht : (to == 0) = false := by simpa only [Bool.not_eq_true] using ht
            go_wp2
            go_ret
            have hr := hR.out
            rw [k4, k5, ho, ht] at hr
            clear hR
            subst hr
            exact ⟨rfl, hbw_w2⟩
      · replace k5 : (nd.kind == 5) = false := by simpa only [Bool.not_eq_true] using k5
        by_cases k7 : decide (7 ≤ nd.kind) = true
        · by_cases k11 : decide (nd.kind ≤ 11) = true
          · by_cases ho : Fn.fieldsOk nd = true
            · rw [ho] at cF
              go_wp2_with fail
              refine (cF.out w1 hbw_w1).mono ?_
              rintro e w2 ⟨rfl, hb_w2⟩
              have q0_w2 := (hb_w2.cell (p := ⟨w.heap.size, 0, none⟩) hs_w1).trans q0_w1
              have q1_w2 := (hb_w2.cell (p := ⟨w.heap.size, 1, none⟩) hs_w1).trans q1_w1
              have q2_w2 := (hb_w2.cell (p := ⟨w.heap.size, 2, none⟩) hs_w1).trans q2_w1
              have q3_w2 := (hb_w2.cell (p := ⟨w.heap.size, 3, none⟩) hs_w1).trans q3_w1
              have q4_w2 := (hb_w2.cell (p := ⟨w.heap.size, 4, none⟩) hs_w1).trans q4_w1
              have q5_w2 := (hb_w2.cell (p := ⟨w.heap.size, 5, none⟩) hs_w1).trans q5_w1
              have q6_w2 := (hb_w2.cell (p := ⟨w.heap.size, 6, none⟩) hs_w1).trans q6_w1
              have q7_w2 := (hb_w2.cell (p := ⟨w.heap.size, 7, none⟩) hs_w1).trans q7_w1
              have q8_w2 := (hb_w2.cell (p := ⟨w.heap.size, 8, none⟩) hs_w1).trans q8_w1
              have hs_w2 := Nat.lt_of_lt_of_le hs_w1 hb_w2.size
              have hbw_w2 := hbw_w1.trans (hb_w2.mono (Nat.le_of_lt hs_w1))
              clear q0_w1 q1_w1 q2_w1 q3_w1 q4_w1 q5_w1 q6_w1 q7_w1 q8_w1 hb_w2 hs_w1 hbw_w1
              by_cases ht : (to == 0) = true
              · go_wp2
                go_ret
                have hr := hR.out
                rw [k4, k5, k7, k11, ho, ht] at hr
                clear hR
                subst hr
                exact ⟨rfl, hbw_w2⟩
              · replace ht : (to == 0) = false := by simpa only [Bool.not_eq_true] using ht
                go_wp2
                go_ret
                have hr := hR.out
                rw [k4, k5, k7, k11, ho, ht] at hr
                clear hR
                subst hr
                exact ⟨rfl, hbw_w2⟩
            · replace ho : Fn.fieldsOk nd = false := by simpa only [Bool.not_eq_true] using ho
              rw [ho] at cF
              go_wp2_with fail
              refine (cF.out w1 hbw_w1).mono ?_
              rintro e w2 ⟨rfl, hb_w2⟩
              have q0_w2 := (hb_w2.cell (p := ⟨w.heap.size, 0, none⟩) hs_w1).trans q0_w1
              have q1_w2 := (hb_w2.cell (p := ⟨w.heap.size, 1, none⟩) hs_w1).trans q1_w1
              have q2_w2 := (hb_w2.cell (p := ⟨w.heap.size, 2, none⟩) hs_w1).trans q2_w1
              have q3_w2 := (hb_w2.cell (p := ⟨w.heap.size, 3, none⟩) hs_w1).trans q3_w1
              have q4_w2 := (hb_w2.cell (p := ⟨w.heap.size, 4, none⟩) hs_w1).trans q4_w1
              have q5_w2 := (hb_w2.cell (p := ⟨w.heap.size, 5, none⟩) hs_w1).trans q5_w1
              have q6_w2 := (hb_w2.cell (p := ⟨w.heap.size, 6, none⟩) hs_w1).trans q6_w1
              have q7_w2 := (hb_w2.cell (p := ⟨w.heap.size, 7, none⟩) hs_w1).trans q7_w1
              have q8_w2 := (hb_w2.cell (p := ⟨w.heap.size, 8, none⟩) hs_w1).trans q8_w1
              have hs_w2 := Nat.lt_of_lt_of_le hs_w1 hb_w2.size
              have hbw_w2 := hbw_w1.trans (hb_w2.mono (Nat.le_of_lt hs_w1))
              clear q0_w1 q1_w1 q2_w1 q3_w1 q4_w1 q5_w1 q6_w1 q7_w1 q8_w1 hb_w2 hs_w1 hbw_w1
              by_cases ht : (to == 0) = true
              · go_wp2
                go_ret
                have hr := hR.out
                rw [k4, k5, k7, k11, ho, ht] at hr
                clear hR
                subst hr
                exact ⟨rfl, hbw_w2⟩
              · replace ht : (to == 0) = false := by simpa only [Bool.not_eq_true] using ht
                go_wp2
                go_ret
                have hr := hR.out
                rw [k4, k5, k7, k11, ho, ht] at hr
                clear hR
                subst hr
                exact ⟨rfl, hbw_w2⟩
          · replace k11 : decide (nd.kind ≤ 11) = false := by simpa only [Bool.not_eq_true] using k11
            by_cases ht : (to == 0) = true
            · go_wp2
              go_ret
              have hr := hR.out
              rw [k4, k5, k7, k11, ht] at hr
              clear hR
              subst hr
              exact ⟨rfl, hbw_w1⟩
            · replace ht : (to == 0) = false := by simpa only [Bool.not_eq_true] using ht
              go_wp2
              go_ret
              have hr := hR.out
              rw [k4, k5, k7, k11, ht] at hr
              clear hR
              subst hr
              exact ⟨rfl, hbw_w1⟩
        · replace k7 : decide (7 ≤ nd.kind) = false := by simpa only [Bool.not_eq_true] using k7
          by_cases ht : (to == 0) = true
          · go_wp2
            go_ret
            have hr := hR.out
            rw [k4, k5, k7, ht] at hr
            clear hR
            subst hr
            exact ⟨rfl, hbw_w1⟩
          · replace ht : (to == 0) = false := by simpa only [Bool.not_eq_true] using ht
            go_wp2
            go_ret
            have hr := hR.out
            rw [k4, k5, k7, ht] at hr
            clear hR
            subst hr
            exact ⟨rfl, hbw_w1⟩
set_option maxHeartbeats 4000000 in
set_option maxRecDepth 20000 in
theorem specR7 (to : Int) (nd : Nd) (a1 a2 a3 : Option Addr) (c1 c2 c3 N : Nat) (w : World) (hI : NdIn w.heap.size w nd (.slice a1 nd.names.length c1) (.slice a2 nd.keys.length c2) (.slice a3 nd.kids.length c3)) (hf : nd.fits 1048576) :
    Calls Try.prog 10 #[.agg #[.int .i64 7, .int .i64 to, .int .i64 nd.kind, .int .i64 nd.num, .int .i64 nd.mat, .string nd.text, .slice a1 nd.names.length c1, .slice a2 nd.keys.length c2, .slice a3 nd.kids.length c3], .int .i64 N] w fun e w' => e = .returned (.bool ((to == 0) && ((Co.leafT nd.kind && Fn.fieldsOk nd) && Co.kid0 nd))) ∧ Below w.heap.size w w' := by
  obtain ⟨R, hR⟩ : ∃ R, ((to == 0) && ((Co.leafT nd.kind && Fn.fieldsOk nd) && Co.kid0 nd)) = R := ⟨_, rfl⟩
  rw [hR]
  unfold Co.leafT Co.kid0 at hR
  replace hR := mkH hR
  obtain ⟨W, hW⟩ : ∃ W, W = w.alloc (.cells #[.int .i64 7, .int .i64 to, .int .i64 nd.kind, .int .i64 nd.num, .int .i64 nd.mat, .string nd.text, .slice a1 nd.names.length c1, .slice a2 nd.keys.length c2, .slice a3 nd.kids.length c3] 39) := ⟨_, rfl⟩
  have hbW : Below w.heap.size w W := by rw [hW]; exact (Below.refl _ _).alloc (Nat.le_refl _) _
  have hWs : w.heap.size < W.heap.size := by rw [hW]; simp
  have q0 : W.cell? ⟨w.heap.size, 0, none⟩ = some (.int .i64 7) := by rw [hW]; simp
  have q1 : W.cell? ⟨w.heap.size, 1, none⟩ = some (.int .i64 to) := by rw [hW]; simp
  have q2 : W.cell? ⟨w.heap.size, 2, none⟩ = some (.int .i64 nd.kind) := by rw [hW]; simp
  have q3 : W.cell? ⟨w.heap.size, 3, none⟩ = some (.int .i64 nd.num) := by rw [hW]; simp
  have q4 : W.cell? ⟨w.heap.size, 4, none⟩ = some (.int .i64 nd.mat) := by rw [hW]; simp
  have q5 : W.cell? ⟨w.heap.size, 5, none⟩ = some (.string nd.text) := by rw [hW]; simp
  have q6 : W.cell? ⟨w.heap.size, 6, none⟩ = some (.slice a1 nd.names.length c1) := by rw [hW]; simp
  have q7 : W.cell? ⟨w.heap.size, 7, none⟩ = some (.slice a2 nd.keys.length c2) := by rw [hW]; simp
  have q8 : W.cell? ⟨w.heap.size, 8, none⟩ = some (.slice a3 nd.kids.length c3) := by rw [hW]; simp
  have cZ := mkH fun (w' : World) => specZero nd a1 a2 a3 c1 c2 c3 w'
  have cF := mkH fun (w' : World) (hb : Below w.heap.size w w') => specFields nd _ _ _ w' ((hI.below hb).mono hb.size) hf
  unfold ndV at cF
  replace hW := mkH hW
  clear hI hf
  by_cases hz : Co.zero nd = true
  · rw [hz] at cZ
    have hs_W := hWs
    have hbw_W := hbW
    have q0_W := q0
    have q1_W := q1
    have q2_W := q2
    have q3_W := q3
    have q4_W := q4
    have q5_W := q5
    have q6_W := q6
    have q7_W := q7
    have q8_W := q8
    clear q0 q1 q2 q3 q4 q5 q6 q7 q8 hWs hbW
    go_enter Try.func10, Try.ntmps10
    go_wp2_with fail
    rw [← hW.out]
    refine (cZ.out W).mono ?_
    rintro e w1 ⟨rfl, hb_w1⟩
    have q0_w1 := (hb_w1.cell (p := ⟨w.heap.size, 0, none⟩) hs_W).trans q0_W
    have q1_w1 := (hb_w1.cell (p := ⟨w.heap.size, 1, none⟩) hs_W).trans q1_W
    have q2_w1 := (hb_w1.cell (p := ⟨w.heap.size, 2, none⟩) hs_W).trans q2_W
    have q3_w1 := (hb_w1.cell (p := ⟨w.heap.size, 3, none⟩) hs_W).trans q3_W
    have q4_w1 := (hb_w1.cell (p := ⟨w.heap.size, 4, none⟩) hs_W).trans q4_W
    have q5_w1 := (hb_w1.cell (p := ⟨w.heap.size, 5, none⟩) hs_W).trans q5_W
    have q6_w1 := (hb_w1.cell (p := ⟨w.heap.size, 6, none⟩) hs_W).trans q6_W
    have q7_w1 := (hb_w1.cell (p := ⟨w.heap.size, 7, none⟩) hs_W).trans q7_W
    have q8_w1 := (hb_w1.cell (p := ⟨w.heap.size, 8, none⟩) hs_W).trans q8_W
    have hs_w1 := Nat.lt_of_lt_of_le hs_W hb_w1.size
    have hbw_w1 := hbw_W.trans (hb_w1.mono (Nat.le_of_lt hs_W))
    clear q0_W q1_W q2_W q3_W q4_W q5_W q6_W q7_W q8_W hb_w1 hs_W hbw_W
    by_cases k25 : decide (25 ≤ nd.kind) = true
    · by_cases k31 : decide (nd.kind ≤ 31) = true
      · by_cases ho : Fn.fieldsOk nd = true
        · rw [ho] at cF
          go_wp2_with fail
          refine (cF.out w1 hbw_w1).mono ?_
          rintro e w2 ⟨rfl, hb_w2⟩
          have q0_w2 := (hb_w2.cell (p := ⟨w.heap.size, 0, none⟩) hs_w1).trans q0_w1
          have q1_w2 := (hb_w2.cell (p := ⟨w.heap.size, 1, none⟩) hs_w1).trans q1_w1
          have q2_w2 := (hb_w2.cell (p := ⟨w.heap.size, 2, none⟩) hs_w1).trans q2_w1
          have q3_w2 := (hb_w2.cell (p := ⟨w.heap.size, 3, none⟩) hs_w1).trans q3_w1
          have q4_w2 := (hb_w2.cell (p := ⟨w.heap.size, 4, none⟩) hs_w1).trans q4_w1
          have q5_w2 := (hb_w2.cell (p := ⟨w.heap.size, 5, none⟩) hs_w1).trans q5_w1
          have q6_w2 := (hb_w2.cell (p := ⟨w.heap.size, 6, none⟩) hs_w1).trans q6_w1
          have q7_w2 := (hb_w2.cell (p := ⟨w.heap.size, 7, none⟩) hs_w1).trans q7_w1
          have q8_w2 := (hb_w2.cell (p := ⟨w.heap.size, 8, none⟩) hs_w1).trans q8_w1
          have hs_w2 := Nat.lt_of_lt_of_le hs_w1 hb_w2.size
          have hbw_w2 := hbw_w1.trans (hb_w2.mono (Nat.le_of_lt hs_w1))
          clear q0_w1 q1_w1 q2_w1 q3_w1 q4_w1 q5_w1 q6_w1 q7_w1 q8_w1 hb_w2 hs_w1 hbw_w1
          by_cases ht : (to == 0) = true
          · go_wp2
            go_ret
            have hr := hR.out
            rw [k25, k31, ho, ht] at hr
            clear hR
            subst hr
            exact ⟨rfl, hbw_w2⟩
          · replace ht : (to == 0) = false := by simpa only [Bool.not_eq_true] using ht
            go_wp2
            go_ret
            have hr := hR.out
            rw [k25, k31, ho, ht] at hr
            clear hR
            subst hr
            exact ⟨rfl, hbw_w2⟩
        · replace ho : Fn.fieldsOk nd = false := by simpa only [Bool.not_eq_true] using ho
          rw [ho] at cF
          go_wp2_with fail
          refine (cF.out w1 hbw_w1).mono ?_
          rintro e w2 ⟨rfl, hb_w2⟩
          have q0_w2 := (hb_w2.cell (p := ⟨w.heap.size, 0, none⟩) hs_w1).trans q0_w1
          have q1_w2 := (hb_w2.cell (p := ⟨w.heap.size, 1, none⟩) hs_w1).trans q1_w1
          have q2_w2 := (hb_w2.cell (p := ⟨w.heap.size, 2, none⟩) hs_w1).trans q2_w1
          have q3_w2 := (hb_w2.cell (p := ⟨w.heap.size, 3, none⟩) hs_w1).trans q3_w1
          have q4_w2 := (hb_w2.cell (p := ⟨w.heap.size, 4, none⟩) hs_w1).trans q4_w1
          have q5_w2 := (hb_w2.cell (p := ⟨w.heap.size, 5, none⟩) hs_w1).trans q5_w1
          have q6_w2 := (hb_w2.cell (p := ⟨w.heap.size, 6, none⟩) hs_w1).trans q6_w1
          have q7_w2 := (hb_w2.cell (p := ⟨w.heap.size, 7, none⟩) hs_w1).trans q7_w1
          have q8_w2 := (hb_w2.cell (p := ⟨w.heap.size, 8, none⟩) hs_w1).trans q8_w1
          have hs_w2 := Nat.lt_of_lt_of_le hs_w1 hb_w2.size
          have hbw_w2 := hbw_w1.trans (hb_w2.mono (Nat.le_of_lt hs_w1))
          clear q0_w1 q1_w1 q2_w1 q3_w1 q4_w1 q5_w1 q6_w1 q7_w1 q8_w1 hb_w2 hs_w1 hbw_w1
          by_cases ht : (to == 0) = true
          · go_wp2
            go_ret
            have hr := hR.out
            rw [k25, k31, ho, ht] at hr
            clear hR
            subst hr
            exact ⟨rfl, hbw_w2⟩
          · replace ht : (to == 0) = false := by simpa only [Bool.not_eq_true] using ht
            go_wp2
            go_ret
            have hr := hR.out
            rw [k25, k31, ho, ht] at hr
            clear hR
            subst hr
            exact ⟨rfl, hbw_w2⟩
      · replace k31 : decide (nd.kind ≤ 31) = false := by simpa only [Bool.not_eq_true] using k31
        by_cases ht : (to == 0) = true
        · go_wp2
          go_ret
          have hr := hR.out
          rw [k25, k31, ht] at hr
          clear hR
          subst hr
          exact ⟨rfl, hbw_w1⟩
        · replace ht : (to == 0) = false := by simpa only [Bool.not_eq_true] using ht
          go_wp2
          go_ret
          have hr := hR.out
          rw [k25, k31, ht] at hr
          clear hR
          subst hr
          exact ⟨rfl, hbw_w1⟩
    · replace k25 : decide (25 ≤ nd.kind) = false := by simpa only [Bool.not_eq_true] using k25
      by_cases ht : (to == 0) = true
      · go_wp2
        go_ret
        have hr := hR.out
        rw [k25, ht] at hr
        clear hR
        subst hr
        exact ⟨rfl, hbw_w1⟩
      · replace ht : (to == 0) = false := by simpa only [Bool.not_eq_true] using ht
        go_wp2
        go_ret
        have hr := hR.out
        rw [k25, ht] at hr
        clear hR
        subst hr
        exact ⟨rfl, hbw_w1⟩
  · replace hz : Co.zero nd = false := by simpa only [Bool.not_eq_true] using hz
    rw [hz] at cZ
    have hs_W := hWs
    have hbw_W := hbW
    have q0_W := q0
    have q1_W := q1
    have q2_W := q2
    have q3_W := q3
    have q4_W := q4
    have q5_W := q5
    have q6_W := q6
    have q7_W := q7
    have q8_W := q8
    clear q0 q1 q2 q3 q4 q5 q6 q7 q8 hWs hbW
    go_enter Try.func10, Try.ntmps10
    go_wp2_with fail
    rw [← hW.out]
    refine (cZ.out W).mono ?_
    rintro e w1 ⟨rfl, hb_w1⟩
    have q0_w1 := (hb_w1.cell (p := ⟨w.heap.size, 0, none⟩) hs_W).trans q0_W
    have q1_w1 := (hb_w1.cell (p := ⟨w.heap.size, 1, none⟩) hs_W).trans q1_W
    have q2_w1 := (hb_w1.cell (p := ⟨w.heap.size, 2, none⟩) hs_W).trans q2_W
    have q3_w1 := (hb_w1.cell (p := ⟨w.heap.size, 3, none⟩) hs_W).trans q3_W
    have q4_w1 := (hb_w1.cell (p := ⟨w.heap.size, 4, none⟩) hs_W).trans q4_W
    have q5_w1 := (hb_w1.cell (p := ⟨w.heap.size, 5, none⟩) hs_W).trans q5_W
    have q6_w1 := (hb_w1.cell (p := ⟨w.heap.size, 6, none⟩) hs_W).trans q6_W
    have q7_w1 := (hb_w1.cell (p := ⟨w.heap.size, 7, none⟩) hs_W).trans q7_W
    have q8_w1 := (hb_w1.cell (p := ⟨w.heap.size, 8, none⟩) hs_W).trans q8_W
    have hs_w1 := Nat.lt_of_lt_of_le hs_W hb_w1.size
    have hbw_w1 := hbw_W.trans (hb_w1.mono (Nat.le_of_lt hs_W))
    clear q0_W q1_W q2_W q3_W q4_W q5_W q6_W q7_W q8_W hb_w1 hs_W hbw_W
    by_cases k25 : decide (25 ≤ nd.kind) = true
    · by_cases k31 : decide (nd.kind ≤ 31) = true
      · by_cases ho : Fn.fieldsOk nd = true
        · rw [ho] at cF
          go_wp2_with fail
          refine (cF.out w1 hbw_w1).mono ?_
          rintro e w2 ⟨rfl, hb_w2⟩
          have q0_w2 := (hb_w2.cell (p := ⟨w.heap.size, 0, none⟩) hs_w1).trans q0_w1
          have q1_w2 := (hb_w2.cell (p := ⟨w.heap.size, 1, none⟩) hs_w1).trans q1_w1
          have q2_w2 := (hb_w2.cell (p := ⟨w.heap.size, 2, none⟩) hs_w1).trans q2_w1
          have q3_w2 := (hb_w2.cell (p := ⟨w.heap.size, 3, none⟩) hs_w1).trans q3_w1
          have q4_w2 := (hb_w2.cell (p := ⟨w.heap.size, 4, none⟩) hs_w1).trans q4_w1
          have q5_w2 := (hb_w2.cell (p := ⟨w.heap.size, 5, none⟩) hs_w1).trans q5_w1
          have q6_w2 := (hb_w2.cell (p := ⟨w.heap.size, 6, none⟩) hs_w1).trans q6_w1
          have q7_w2 := (hb_w2.cell (p := ⟨w.heap.size, 7, none⟩) hs_w1).trans q7_w1
          have q8_w2 := (hb_w2.cell (p := ⟨w.heap.size, 8, none⟩) hs_w1).trans q8_w1
          have hs_w2 := Nat.lt_of_lt_of_le hs_w1 hb_w2.size
          have hbw_w2 := hbw_w1.trans (hb_w2.mono (Nat.le_of_lt hs_w1))
          clear q0_w1 q1_w1 q2_w1 q3_w1 q4_w1 q5_w1 q6_w1 q7_w1 q8_w1 hb_w2 hs_w1 hbw_w1
          by_cases ht : (to == 0) = true
          · go_wp2
            go_ret
            have hr := hR.out
            rw [k25, k31, ho, ht] at hr
            clear hR
            subst hr
            exact ⟨rfl, hbw_w2⟩
          · replace ht : (to == 0) = false := by simpa only [Bool.not_eq_true] using ht
            go_wp2
            go_ret
            have hr := hR.out
            rw [k25, k31, ho, ht] at hr
            clear hR
            subst hr
            exact ⟨rfl, hbw_w2⟩
        · replace ho : Fn.fieldsOk nd = false := by simpa only [Bool.not_eq_true] using ho
          rw [ho] at cF
          go_wp2_with fail
          refine (cF.out w1 hbw_w1).mono ?_
          rintro e w2 ⟨rfl, hb_w2⟩
          have q0_w2 := (hb_w2.cell (p := ⟨w.heap.size, 0, none⟩) hs_w1).trans q0_w1
          have q1_w2 := (hb_w2.cell (p := ⟨w.heap.size, 1, none⟩) hs_w1).trans q1_w1
          have q2_w2 := (hb_w2.cell (p := ⟨w.heap.size, 2, none⟩) hs_w1).trans q2_w1
          have q3_w2 := (hb_w2.cell (p := ⟨w.heap.size, 3, none⟩) hs_w1).trans q3_w1
          have q4_w2 := (hb_w2.cell (p := ⟨w.heap.size, 4, none⟩) hs_w1).trans q4_w1
          have q5_w2 := (hb_w2.cell (p := ⟨w.heap.size, 5, none⟩) hs_w1).trans q5_w1
          have q6_w2 := (hb_w2.cell (p := ⟨w.heap.size, 6, none⟩) hs_w1).trans q6_w1
          have q7_w2 := (hb_w2.cell (p := ⟨w.heap.size, 7, none⟩) hs_w1).trans q7_w1
          have q8_w2 := (hb_w2.cell (p := ⟨w.heap.size, 8, none⟩) hs_w1).trans q8_w1
          have hs_w2 := Nat.lt_of_lt_of_le hs_w1 hb_w2.size
          have hbw_w2 := hbw_w1.trans (hb_w2.mono (Nat.le_of_lt hs_w1))
          clear q0_w1 q1_w1 q2_w1 q3_w1 q4_w1 q5_w1 q6_w1 q7_w1 q8_w1 hb_w2 hs_w1 hbw_w1
          by_cases ht : (to == 0) = true
          · go_wp2
            go_ret
            have hr := hR.out
            rw [k25, k31, ho, ht] at hr
            clear hR
            subst hr
            exact ⟨rfl, hbw_w2⟩
          · replace ht : (to == 0) = false := by simpa only [Bool.not_eq_true] using ht
            go_wp2
            go_ret
            have hr := hR.out
            rw [k25, k31, ho, ht] at hr
            clear hR
            subst hr
            exact ⟨rfl, hbw_w2⟩
      · replace k31 : decide (nd.kind ≤ 31) = false := by simpa only [Bool.not_eq_true] using k31
        by_cases ht : (to == 0) = true
        · go_wp2
          go_ret
          have hr := hR.out
          rw [k25, k31, ht] at hr
          clear hR
          subst hr
          exact ⟨rfl, hbw_w1⟩
        · replace ht : (to == 0) = false := by simpa only [Bool.not_eq_true] using ht
          go_wp2
          go_ret
          have hr := hR.out
          rw [k25, k31, ht] at hr
          clear hR
          subst hr
          exact ⟨rfl, hbw_w1⟩
    · replace k25 : decide (25 ≤ nd.kind) = false := by simpa only [Bool.not_eq_true] using k25
      by_cases ht : (to == 0) = true
      · go_wp2
        go_ret
        have hr := hR.out
        rw [k25, ht] at hr
        clear hR
        subst hr
        exact ⟨rfl, hbw_w1⟩
      · replace ht : (to == 0) = false := by simpa only [Bool.not_eq_true] using ht
        go_wp2
        go_ret
        have hr := hR.out
        rw [k25, ht] at hr
        clear hR
        subst hr
        exact ⟨rfl, hbw_w1⟩
set_option maxHeartbeats 4000000 in
set_option maxRecDepth 20000 in
theorem specRno (op : Int) (x1 : (op == 1) = false) (x10 : (op == 10) = false) (x2 : (op == 2) = false) (x3 : (op == 3) = false) (x4 : (op == 4) = false) (x9 : (op == 9) = false) (x5 : (op == 5) = false) (x8 : (op == 8) = false) (x6 : (op == 6) = false) (x7 : (op == 7) = false) (to : Int) (nd : Nd) (a1 a2 a3 : Option Addr) (c1 c2 c3 N : Nat) (w : World) (hI : NdIn w.heap.size w nd (.slice a1 nd.names.length c1) (.slice a2 nd.keys.length c2) (.slice a3 nd.kids.length c3)) (hf : nd.fits 1048576) :
    Calls Try.prog 10 #[.agg #[.int .i64 op, .int .i64 to, .int .i64 nd.kind, .int .i64 nd.num, .int .i64 nd.mat, .string nd.text, .slice a1 nd.names.length c1, .slice a2 nd.keys.length c2, .slice a3 nd.kids.length c3], .int .i64 N] w fun e w' => e = .returned (.bool (false)) ∧ Below w.heap.size w w' := by
  obtain ⟨R, hR⟩ : ∃ R, (false) = R := ⟨_, rfl⟩
  rw [hR]
  replace hR := mkH hR
  obtain ⟨W, hW⟩ : ∃ W, W = w.alloc (.cells #[.int .i64 op, .int .i64 to, .int .i64 nd.kind, .int .i64 nd.num, .int .i64 nd.mat, .string nd.text, .slice a1 nd.names.length c1, .slice a2 nd.keys.length c2, .slice a3 nd.kids.length c3] 39) := ⟨_, rfl⟩
  have hbW : Below w.heap.size w W := by rw [hW]; exact (Below.refl _ _).alloc (Nat.le_refl _) _
  have hWs : w.heap.size < W.heap.size := by rw [hW]; simp
  have q0 : W.cell? ⟨w.heap.size, 0, none⟩ = some (.int .i64 op) := by rw [hW]; simp
  have q1 : W.cell? ⟨w.heap.size, 1, none⟩ = some (.int .i64 to) := by rw [hW]; simp
  have q2 : W.cell? ⟨w.heap.size, 2, none⟩ = some (.int .i64 nd.kind) := by rw [hW]; simp
  have q3 : W.cell? ⟨w.heap.size, 3, none⟩ = some (.int .i64 nd.num) := by rw [hW]; simp
  have q4 : W.cell? ⟨w.heap.size, 4, none⟩ = some (.int .i64 nd.mat) := by rw [hW]; simp
  have q5 : W.cell? ⟨w.heap.size, 5, none⟩ = some (.string nd.text) := by rw [hW]; simp
  have q6 : W.cell? ⟨w.heap.size, 6, none⟩ = some (.slice a1 nd.names.length c1) := by rw [hW]; simp
  have q7 : W.cell? ⟨w.heap.size, 7, none⟩ = some (.slice a2 nd.keys.length c2) := by rw [hW]; simp
  have q8 : W.cell? ⟨w.heap.size, 8, none⟩ = some (.slice a3 nd.kids.length c3) := by rw [hW]; simp
  have cZ := mkH fun (w' : World) => specZero nd a1 a2 a3 c1 c2 c3 w'
  have cF := mkH fun (w' : World) (hb : Below w.heap.size w w') => specFields nd _ _ _ w' ((hI.below hb).mono hb.size) hf
  unfold ndV at cF
  replace hW := mkH hW
  clear hI hf
  by_cases hz : Co.zero nd = true
  · rw [hz] at cZ
    have hs_W := hWs
    have hbw_W := hbW
    have q0_W := q0
    have q1_W := q1
    have q2_W := q2
    have q3_W := q3
    have q4_W := q4
    have q5_W := q5
    have q6_W := q6
    have q7_W := q7
    have q8_W := q8
    clear q0 q1 q2 q3 q4 q5 q6 q7 q8 hWs hbW
    go_enter Try.func10, Try.ntmps10
    go_wp2_with fail
    rw [← hW.out]
    refine (cZ.out W).mono ?_
    rintro e w1 ⟨rfl, hb_w1⟩
    have q0_w1 := (hb_w1.cell (p := ⟨w.heap.size, 0, none⟩) hs_W).trans q0_W
    have q1_w1 := (hb_w1.cell (p := ⟨w.heap.size, 1, none⟩) hs_W).trans q1_W
    have q2_w1 := (hb_w1.cell (p := ⟨w.heap.size, 2, none⟩) hs_W).trans q2_W
    have q3_w1 := (hb_w1.cell (p := ⟨w.heap.size, 3, none⟩) hs_W).trans q3_W
    have q4_w1 := (hb_w1.cell (p := ⟨w.heap.size, 4, none⟩) hs_W).trans q4_W
    have q5_w1 := (hb_w1.cell (p := ⟨w.heap.size, 5, none⟩) hs_W).trans q5_W
    have q6_w1 := (hb_w1.cell (p := ⟨w.heap.size, 6, none⟩) hs_W).trans q6_W
    have q7_w1 := (hb_w1.cell (p := ⟨w.heap.size, 7, none⟩) hs_W).trans q7_W
    have q8_w1 := (hb_w1.cell (p := ⟨w.heap.size, 8, none⟩) hs_W).trans q8_W
    have hs_w1 := Nat.lt_of_lt_of_le hs_W hb_w1.size
    have hbw_w1 := hbw_W.trans (hb_w1.mono (Nat.le_of_lt hs_W))
    clear q0_W q1_W q2_W q3_W q4_W q5_W q6_W q7_W q8_W hb_w1 hs_W hbw_W
    go_wp2
    go_ret
    have hr := hR.out
    clear hR
    subst hr
    exact ⟨rfl, hbw_w1⟩
  · replace hz : Co.zero nd = false := by simpa only [Bool.not_eq_true] using hz
    rw [hz] at cZ
    have hs_W := hWs
    have hbw_W := hbW
    have q0_W := q0
    have q1_W := q1
    have q2_W := q2
    have q3_W := q3
    have q4_W := q4
    have q5_W := q5
    have q6_W := q6
    have q7_W := q7
    have q8_W := q8
    clear q0 q1 q2 q3 q4 q5 q6 q7 q8 hWs hbW
    go_enter Try.func10, Try.ntmps10
    go_wp2_with fail
    rw [← hW.out]
    refine (cZ.out W).mono ?_
    rintro e w1 ⟨rfl, hb_w1⟩
    have q0_w1 := (hb_w1.cell (p := ⟨w.heap.size, 0, none⟩) hs_W).trans q0_W
    have q1_w1 := (hb_w1.cell (p := ⟨w.heap.size, 1, none⟩) hs_W).trans q1_W
    have q2_w1 := (hb_w1.cell (p := ⟨w.heap.size, 2, none⟩) hs_W).trans q2_W
    have q3_w1 := (hb_w1.cell (p := ⟨w.heap.size, 3, none⟩) hs_W).trans q3_W
    have q4_w1 := (hb_w1.cell (p := ⟨w.heap.size, 4, none⟩) hs_W).trans q4_W
    have q5_w1 := (hb_w1.cell (p := ⟨w.heap.size, 5, none⟩) hs_W).trans q5_W
    have q6_w1 := (hb_w1.cell (p := ⟨w.heap.size, 6, none⟩) hs_W).trans q6_W
    have q7_w1 := (hb_w1.cell (p := ⟨w.heap.size, 7, none⟩) hs_W).trans q7_W
    have q8_w1 := (hb_w1.cell (p := ⟨w.heap.size, 8, none⟩) hs_W).trans q8_W
    have hs_w1 := Nat.lt_of_lt_of_le hs_W hb_w1.size
    have hbw_w1 := hbw_W.trans (hb_w1.mono (Nat.le_of_lt hs_W))
    clear q0_W q1_W q2_W q3_W q4_W q5_W q6_W q7_W q8_W hb_w1 hs_W hbw_W
    go_wp2
    go_ret
    have hr := hR.out
    clear hR
    subst hr
    exact ⟨rfl, hbw_w1⟩
theorem specRight (c : Cd) (vn vk vd : Value) (N : Nat) (w : World) (hI : NdIn w.heap.size w c.nd vn vk vd) (hf : c.nd.fits 1048576) :
    Calls Try.prog 10 #[cdV c vn vk vd, .int .i64 N] w fun e w' => e = .returned (.bool (Co.right c N)) ∧ Below w.heap.size w w' := by
  have hI0 := hI
  obtain ⟨⟨a1, c1, rfl, -⟩, ⟨a2, c2, rfl, -⟩, ⟨a3, c3, rfl, -⟩⟩ := hI
  obtain ⟨op, to, nd⟩ := c
  unfold cdV
  dsimp only at hI0 hf ⊢
  by_cases y1 : op = 1
  · subst y1; exact specR1 to nd a1 a2 a3 c1 c2 c3 N w hI0 hf
  by_cases y10 : op = 10
  · subst y10; exact specR10 to nd a1 a2 a3 c1 c2 c3 N w hI0 hf
  by_cases y2 : op = 2
  · subst y2; exact specR2 to nd a1 a2 a3 c1 c2 c3 N w hI0 hf
  by_cases y3 : op = 3
  · subst y3; exact specR3 to nd a1 a2 a3 c1 c2 c3 N w hI0 hf
  by_cases y4 : op = 4
  · subst y4; exact specR4 to nd a1 a2 a3 c1 c2 c3 N w hI0 hf
  by_cases y9 : op = 9
  · subst y9; exact specR9 to nd a1 a2 a3 c1 c2 c3 N w hI0 hf
  by_cases y5 : op = 5
  · subst y5; exact specR5 to nd a1 a2 a3 c1 c2 c3 N w hI0 hf
  by_cases y8 : op = 8
  · subst y8; exact specR8 to nd a1 a2 a3 c1 c2 c3 N w hI0 hf
  by_cases y6 : op = 6
  · subst y6; exact specR6 to nd a1 a2 a3 c1 c2 c3 N w hI0 hf
  by_cases y7 : op = 7
  · subst y7; exact specR7 to nd a1 a2 a3 c1 c2 c3 N w hI0 hf
  have b : ∀ k : Int, op ≠ k → (op == k) = false := fun k h => by simpa using h
  have hr : Co.right ⟨op, to, nd⟩ N = false := by
    unfold Co.right Co.node
    dsimp only
    rw [if_neg (by omega), if_neg y5, if_neg y8, if_neg y6, if_neg y7, Bool.and_false]
  rw [hr]
  exact specRno op (b _ y1) (b _ y10) (b _ y2) (b _ y3) (b _ y4) (b _ y9) (b _ y5) (b _ y8) (b _ y6) (b _ y7) to nd a1 a2 a3 c1 c2 c3 N w hI0 hf
end Go.Proofs.Ytopbokfloapbeaa
