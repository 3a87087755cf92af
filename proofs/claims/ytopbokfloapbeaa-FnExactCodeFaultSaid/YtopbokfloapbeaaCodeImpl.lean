
/- The program's test of an instruction. -/
import Derived.Test.YtopbokfloapbeaaCodePlain
namespace Go.Proofs.Ytopbokfloapbeaa
open Go.RowKit Go.Lib Go.Maps
set_option maxHeartbeats 1000000 in
theorem implLast (op : Int) (w : World) : Calls Try.prog 12 #[.int .i64 op] w fun e w' => e = .returned (.bool ((op == 10) || (op == 2))) ∧ w = w' := by
  obtain ⟨R, hR⟩ : ∃ R, ((op == 10) || (op == 2)) = R := ⟨_, rfl⟩
  rw [hR]
  replace hR := mkH hR
  by_cases h1 : (op == 10) = true
  · go_enter Try.func12, Try.ntmps12
    go_wp2
    go_ret
    have hr := hR.out
    rw [h1] at hr
    clear hR
    subst hr
    exact ⟨rfl, rfl⟩
  · replace h1 : (op == 10) = false := by simpa only [Bool.not_eq_true] using h1
    go_enter Try.func12, Try.ntmps12
    go_wp2
    go_ret
    have hr := hR.out
    rw [h1] at hr
    clear hR
    subst hr
    exact ⟨rfl, rfl⟩
set_option maxHeartbeats 1000000 in
theorem implLeafC (k : Int) (w : World) : Calls Try.prog 21 #[.int .i64 k] w fun e w' => e = .returned (.bool ((k == 4) || ((k == 5) || (decide (7 ≤ k) && decide (k ≤ 11))))) ∧ w = w' := by
  obtain ⟨R, hR⟩ : ∃ R, ((k == 4) || ((k == 5) || (decide (7 ≤ k) && decide (k ≤ 11)))) = R := ⟨_, rfl⟩
  rw [hR]
  replace hR := mkH hR
  by_cases h1 : (k == 4) = true
  · go_enter Try.func21, Try.ntmps21
    go_wp2
    go_ret
    have hr := hR.out
    rw [h1] at hr
    clear hR
    subst hr
    exact ⟨rfl, rfl⟩
  · replace h1 : (k == 4) = false := by simpa only [Bool.not_eq_true] using h1
    by_cases h2 : (k == 5) = true
    · go_enter Try.func21, Try.ntmps21
      go_wp2
      go_ret
      have hr := hR.out
      rw [h1, h2] at hr
      clear hR
      subst hr
      exact ⟨rfl, rfl⟩
    · replace h2 : (k == 5) = false := by simpa only [Bool.not_eq_true] using h2
      by_cases h3 : decide (7 ≤ k) = true
      · go_enter Try.func21, Try.ntmps21
        go_wp2
        go_ret
        have hr := hR.out
        rw [h1, h2, h3] at hr
        clear hR
        subst hr
        exact ⟨rfl, rfl⟩
      · replace h3 : decide (7 ≤ k) = false := by simpa only [Bool.not_eq_true] using h3
        go_enter Try.func21, Try.ntmps21
        go_wp2
        go_ret
        have hr := hR.out
        rw [h1, h2, h3] at hr
        clear hR
        subst hr
        exact ⟨rfl, rfl⟩
set_option maxHeartbeats 1000000 in
theorem implLeafT (k : Int) (w : World) : Calls Try.prog 23 #[.int .i64 k] w fun e w' => e = .returned (.bool (decide (25 ≤ k) && decide (k ≤ 31))) ∧ w = w' := by
  obtain ⟨R, hR⟩ : ∃ R, (decide (25 ≤ k) && decide (k ≤ 31)) = R := ⟨_, rfl⟩
  rw [hR]
  replace hR := mkH hR
  by_cases h1 : decide (25 ≤ k) = true
  · go_enter Try.func23, Try.ntmps23
    go_wp2
    go_ret
    have hr := hR.out
    rw [h1] at hr
    clear hR
    subst hr
    exact ⟨rfl, rfl⟩
  · replace h1 : decide (25 ≤ k) = false := by simpa only [Bool.not_eq_true] using h1
    go_enter Try.func23, Try.ntmps23
    go_wp2
    go_ret
    have hr := hR.out
    rw [h1] at hr
    clear hR
    subst hr
    exact ⟨rfl, rfl⟩
set_option maxHeartbeats 1000000 in
set_option maxRecDepth 20000 in
theorem implP2 (to : Int) (nd : Nd) (a1 a2 a3 : Option Addr) (c1 c2 c3 N : Nat) (w : World) :
    Calls Try.prog 13 #[.agg #[.int .i64 2, .int .i64 to, .int .i64 nd.kind, .int .i64 nd.num, .int .i64 nd.mat, .string nd.text, .slice a1 nd.names.length c1, .slice a2 nd.keys.length c2, .slice a3 nd.kids.length c3], .int .i64 N] w fun e w' => e = .returned (.bool (decide (0 ≤ to) && decide (to < (N : Int)))) ∧ Below w.heap.size w w' := by
  obtain ⟨R, hR⟩ : ∃ R, (decide (0 ≤ to) && decide (to < (N : Int))) = R := ⟨_, rfl⟩
  rw [hR]
  replace hR := mkH hR
  by_cases h1 : decide (0 ≤ to) = true
  · go_enter Try.func13, Try.ntmps13
    go_wp2
    go_ret
    have hr := hR.out
    rw [h1] at hr
    clear hR
    subst hr
    exact ⟨rfl, (Below.refl _ _).alloc (Nat.le_refl _) _⟩
  · replace h1 : decide (0 ≤ to) = false := by simpa only [Bool.not_eq_true] using h1
    go_enter Try.func13, Try.ntmps13
    go_wp2
    go_ret
    have hr := hR.out
    rw [h1] at hr
    clear hR
    subst hr
    exact ⟨rfl, (Below.refl _ _).alloc (Nat.le_refl _) _⟩
set_option maxHeartbeats 1000000 in
set_option maxRecDepth 20000 in
theorem implP3 (to : Int) (nd : Nd) (a1 a2 a3 : Option Addr) (c1 c2 c3 N : Nat) (w : World) :
    Calls Try.prog 13 #[.agg #[.int .i64 3, .int .i64 to, .int .i64 nd.kind, .int .i64 nd.num, .int .i64 nd.mat, .string nd.text, .slice a1 nd.names.length c1, .slice a2 nd.keys.length c2, .slice a3 nd.kids.length c3], .int .i64 N] w fun e w' => e = .returned (.bool (decide (0 ≤ to) && decide (to < (N : Int)))) ∧ Below w.heap.size w w' := by
  obtain ⟨R, hR⟩ : ∃ R, (decide (0 ≤ to) && decide (to < (N : Int))) = R := ⟨_, rfl⟩
  rw [hR]
  replace hR := mkH hR
  by_cases h1 : decide (0 ≤ to) = true
  · go_enter Try.func13, Try.ntmps13
    go_wp2
    go_ret
    have hr := hR.out
    rw [h1] at hr
    clear hR
    subst hr
    exact ⟨rfl, (Below.refl _ _).alloc (Nat.le_refl _) _⟩
  · replace h1 : decide (0 ≤ to) = false := by simpa only [Bool.not_eq_true] using h1
    go_enter Try.func13, Try.ntmps13
    go_wp2
    go_ret
    have hr := hR.out
    rw [h1] at hr
    clear hR
    subst hr
    exact ⟨rfl, (Below.refl _ _).alloc (Nat.le_refl _) _⟩
set_option maxHeartbeats 1000000 in
set_option maxRecDepth 20000 in
theorem implP4 (to : Int) (nd : Nd) (a1 a2 a3 : Option Addr) (c1 c2 c3 N : Nat) (w : World) :
    Calls Try.prog 13 #[.agg #[.int .i64 4, .int .i64 to, .int .i64 nd.kind, .int .i64 nd.num, .int .i64 nd.mat, .string nd.text, .slice a1 nd.names.length c1, .slice a2 nd.keys.length c2, .slice a3 nd.kids.length c3], .int .i64 N] w fun e w' => e = .returned (.bool (decide (0 ≤ to) && decide (to < (N : Int)))) ∧ Below w.heap.size w w' := by
  obtain ⟨R, hR⟩ : ∃ R, (decide (0 ≤ to) && decide (to < (N : Int))) = R := ⟨_, rfl⟩
  rw [hR]
  replace hR := mkH hR
  by_cases h1 : decide (0 ≤ to) = true
  · go_enter Try.func13, Try.ntmps13
    go_wp2
    go_ret
    have hr := hR.out
    rw [h1] at hr
    clear hR
    subst hr
    exact ⟨rfl, (Below.refl _ _).alloc (Nat.le_refl _) _⟩
  · replace h1 : decide (0 ≤ to) = false := by simpa only [Bool.not_eq_true] using h1
    go_enter Try.func13, Try.ntmps13
    go_wp2
    go_ret
    have hr := hR.out
    rw [h1] at hr
    clear hR
    subst hr
    exact ⟨rfl, (Below.refl _ _).alloc (Nat.le_refl _) _⟩
set_option maxHeartbeats 1000000 in
set_option maxRecDepth 20000 in
theorem implP9 (to : Int) (nd : Nd) (a1 a2 a3 : Option Addr) (c1 c2 c3 N : Nat) (w : World) :
    Calls Try.prog 13 #[.agg #[.int .i64 9, .int .i64 to, .int .i64 nd.kind, .int .i64 nd.num, .int .i64 nd.mat, .string nd.text, .slice a1 nd.names.length c1, .slice a2 nd.keys.length c2, .slice a3 nd.kids.length c3], .int .i64 N] w fun e w' => e = .returned (.bool (decide (0 ≤ to) && decide (to < (N : Int)))) ∧ Below w.heap.size w w' := by
  obtain ⟨R, hR⟩ : ∃ R, (decide (0 ≤ to) && decide (to < (N : Int))) = R := ⟨_, rfl⟩
  rw [hR]
  replace hR := mkH hR
  by_cases h1 : decide (0 ≤ to) = true
  · go_enter Try.func13, Try.ntmps13
    go_wp2
    go_ret
    have hr := hR.out
    rw [h1] at hr
    clear hR
    subst hr
    exact ⟨rfl, (Below.refl _ _).alloc (Nat.le_refl _) _⟩
  · replace h1 : decide (0 ≤ to) = false := by simpa only [Bool.not_eq_true] using h1
    go_enter Try.func13, Try.ntmps13
    go_wp2
    go_ret
    have hr := hR.out
    rw [h1] at hr
    clear hR
    subst hr
    exact ⟨rfl, (Below.refl _ _).alloc (Nat.le_refl _) _⟩
set_option maxHeartbeats 1000000 in
set_option maxRecDepth 20000 in
theorem implPno (op : Int) (x2 : (op == 2) = false) (x3 : (op == 3) = false) (x4 : (op == 4) = false) (x9 : (op == 9) = false) (to : Int) (nd : Nd) (a1 a2 a3 : Option Addr) (c1 c2 c3 N : Nat) (w : World) :
    Calls Try.prog 13 #[.agg #[.int .i64 op, .int .i64 to, .int .i64 nd.kind, .int .i64 nd.num, .int .i64 nd.mat, .string nd.text, .slice a1 nd.names.length c1, .slice a2 nd.keys.length c2, .slice a3 nd.kids.length c3], .int .i64 N] w fun e w' => e = .returned (.bool (to == 0)) ∧ Below w.heap.size w w' := by
  obtain ⟨R, hR⟩ : ∃ R, (to == 0) = R := ⟨_, rfl⟩
  rw [hR]
  replace hR := mkH hR
  go_enter Try.func13, Try.ntmps13
  go_wp2
  go_ret
  have hr := hR.out
  clear hR
  subst hr
  exact ⟨rfl, (Below.refl _ _).alloc (Nat.le_refl _) _⟩
theorem implPlace (c : Cd) (vn vk vd : Value) (N : Nat) (w : World) (hI : NdIn w.heap.size w c.nd vn vk vd) :
    Calls Try.prog 13 #[cdV c vn vk vd, .int .i64 N] w fun e w' => e = .returned (.bool (Co.place c N)) ∧ Below w.heap.size w w' := by
  obtain ⟨⟨a1, c1, rfl, -⟩, ⟨a2, c2, rfl, -⟩, ⟨a3, c3, rfl, -⟩⟩ := hI
  obtain ⟨op, to, nd⟩ := c
  unfold cdV
  dsimp only
  by_cases y2 : op = 2
  · subst y2; exact implP2 to nd a1 a2 a3 c1 c2 c3 N w
  by_cases y3 : op = 3
  · subst y3; exact implP3 to nd a1 a2 a3 c1 c2 c3 N w
  by_cases y4 : op = 4
  · subst y4; exact implP4 to nd a1 a2 a3 c1 c2 c3 N w
  by_cases y9 : op = 9
  · subst y9; exact implP9 to nd a1 a2 a3 c1 c2 c3 N w
  have b : ∀ k : Int, op ≠ k → (op == k) = false := fun k h => by simpa using h
  have hr : Co.place ⟨op, to, nd⟩ N = (to == 0) := by
    unfold Co.place
    dsimp only
    rw [if_neg (by omega)]
  rw [hr]
  exact implPno op (b _ y2) (b _ y3) (b _ y4) (b _ y9) to nd a1 a2 a3 c1 c2 c3 N w
set_option maxHeartbeats 2000000 in
set_option maxRecDepth 20000 in
theorem implNumber (nd : Nd) (a1 a2 a3 : Option Addr) (c1 c2 c3 : Nat) (most : Int) (w : World) (hI : NdIn w.heap.size w nd (.slice a1 nd.names.length c1) (.slice a2 nd.keys.length c2) (.slice a3 nd.kids.length c3)) (hf : nd.fits 1048576) :
    Calls Try.prog 20 #[.agg #[.int .i64 nd.kind, .int .i64 nd.num, .int .i64 nd.mat, .string nd.text, .slice a1 nd.names.length c1, .slice a2 nd.keys.length c2, .slice a3 nd.kids.length c3], .int .i64 most] w fun e w' => e = .returned (.bool ((nd.kind == 0) && (Fn.right { nd with num := 0 } && (decide (0 ≤ nd.num) && decide (nd.num ≤ most))))) ∧ Below w.heap.size w w' := by
  have cR := mkH fun (w' : World) (hb : Below w.heap.size w w') => implRight { nd with num := 0 } a1 a2 a3 c1 c2 c3 nd.kids.length w' (by obtain ⟨⟨x, y, e, t⟩, -, -⟩ := hI; cases e; exact (t.below hb).mono hb.size) (by obtain ⟨-, ⟨x, y, e, t⟩, -⟩ := hI; cases e; exact (t.below hb).mono hb.size) hf
  clear hI hf
  dsimp only at cR
  obtain ⟨R, hR⟩ : ∃ R, ((nd.kind == 0) && (Fn.right { nd with num := 0 } && (decide (0 ≤ nd.num) && decide (nd.num ≤ most)))) = R := ⟨_, rfl⟩
  rw [hR]
  replace hR := mkH hR
  obtain ⟨W, hW⟩ : ∃ W, W = w.alloc (.cells #[.int .i64 nd.kind, .int .i64 0, .int .i64 nd.mat, .string nd.text, .slice a1 nd.names.length c1, .slice a2 nd.keys.length c2, .slice a3 nd.kids.length c3] 37) := ⟨_, rfl⟩
  have hbW : Below w.heap.size w W := by rw [hW]; exact (Below.refl _ _).alloc (Nat.le_refl _) _
  replace hW := mkH hW
  by_cases h1 : (nd.kind == 0) = true
  · by_cases h2 : Fn.right { nd with num := 0 } = true
    · rw [h2] at cR
      go_enter Try.func20, Try.ntmps20
      go_wp2_with fail
      rw [← hW.out]
      refine (cR.out W hbW).mono ?_
      rintro e w1 ⟨rfl, hb1⟩
      have hbw := hbW.trans (hb1.mono hbW.size)
      clear cR hb1 hbW
      by_cases h3 : decide (0 ≤ nd.num) = true
      · go_wp2
        go_ret
        have hr := hR.out
        rw [h1, h2, h3] at hr
        clear hR
        subst hr
        exact ⟨rfl, hbw⟩
      · replace h3 : decide (0 ≤ nd.num) = false := by simpa only [Bool.not_eq_true] using h3
        go_wp2
        go_ret
        have hr := hR.out
        rw [h1, h2, h3] at hr
        clear hR
        subst hr
        exact ⟨rfl, hbw⟩
    · replace h2 : Fn.right { nd with num := 0 } = false := by simpa only [Bool.not_eq_true] using h2
      rw [h2] at cR
      go_enter Try.func20, Try.ntmps20
      go_wp2_with fail
      rw [← hW.out]
      refine (cR.out W hbW).mono ?_
      rintro e w1 ⟨rfl, hb1⟩
      have hbw := hbW.trans (hb1.mono hbW.size)
      clear cR hb1 hbW
      go_wp2
      go_ret
      have hr := hR.out
      rw [h1, h2] at hr
      clear hR
      subst hr
      exact ⟨rfl, hbw⟩
  · replace h1 : (nd.kind == 0) = false := by simpa only [Bool.not_eq_true] using h1
    clear cR
    go_enter Try.func20, Try.ntmps20
    go_wp2
    go_ret
    have hr := hR.out
    rw [h1] at hr
    clear hR
    subst hr
    rw [← hW.out]
    exact ⟨rfl, hbW⟩
set_option maxHeartbeats 2000000 in
set_option maxRecDepth 20000 in
theorem implH1 (to : Int) (nd : Nd) (a1 a2 a3 : Option Addr) (c1 c2 c3 : Nat) (w : World) (hI : NdIn w.heap.size w nd (.slice a1 nd.names.length c1) (.slice a2 nd.keys.length c2) (.slice a3 nd.kids.length c3)) (hf : nd.fits 1048576) :
    Calls Try.prog 14 #[.agg #[.int .i64 1, .int .i64 to, .int .i64 nd.kind, .int .i64 nd.num, .int .i64 nd.mat, .string nd.text, .slice a1 nd.names.length c1, .slice a2 nd.keys.length c2, .slice a3 nd.kids.length c3]] w fun e w' => e = .returned (.bool (Co.number nd 0)) ∧ Below w.heap.size w w' := by
  have hbW : Below w.heap.size w (w.alloc (.cells #[.int .i64 1, .int .i64 to, .int .i64 nd.kind, .int .i64 nd.num, .int .i64 nd.mat, .string nd.text, .slice a1 nd.names.length c1, .slice a2 nd.keys.length c2, .slice a3 nd.kids.length c3] 39)) := (Below.refl _ _).alloc (Nat.le_refl _) _
  have cN := mkH (implNumber nd a1 a2 a3 c1 c2 c3 0 _ ((hI.below hbW).mono hbW.size) hf)
  clear hI hf
  unfold Co.number
  generalize ((nd.kind == 0) && (Fn.right { nd with num := 0 } && (decide (0 ≤ nd.num) && decide (nd.num ≤ 0)))) = X at *
  go_enter Try.func14, Try.ntmps14
  go_wp2_with fail
  refine cN.out.mono ?_
  rintro e w1 ⟨rfl, hb1⟩
  have hbw := hbW.trans (hb1.mono hbW.size)
  clear cN hb1 hbW
  go_wp2
  go_ret
  exact ⟨rfl, hbw⟩
set_option maxHeartbeats 2000000 in
set_option maxRecDepth 20000 in
theorem implH10 (to : Int) (nd : Nd) (a1 a2 a3 : Option Addr) (c1 c2 c3 : Nat) (w : World) (hI : NdIn w.heap.size w nd (.slice a1 nd.names.length c1) (.slice a2 nd.keys.length c2) (.slice a3 nd.kids.length c3)) (hf : nd.fits 1048576) :
    Calls Try.prog 14 #[.agg #[.int .i64 10, .int .i64 to, .int .i64 nd.kind, .int .i64 nd.num, .int .i64 nd.mat, .string nd.text, .slice a1 nd.names.length c1, .slice a2 nd.keys.length c2, .slice a3 nd.kids.length c3]] w fun e w' => e = .returned (.bool (Co.number nd 0)) ∧ Below w.heap.size w w' := by
  have hbW : Below w.heap.size w (w.alloc (.cells #[.int .i64 10, .int .i64 to, .int .i64 nd.kind, .int .i64 nd.num, .int .i64 nd.mat, .string nd.text, .slice a1 nd.names.length c1, .slice a2 nd.keys.length c2, .slice a3 nd.kids.length c3] 39)) := (Below.refl _ _).alloc (Nat.le_refl _) _
  have cN := mkH (implNumber nd a1 a2 a3 c1 c2 c3 0 _ ((hI.below hbW).mono hbW.size) hf)
  clear hI hf
  unfold Co.number
  generalize ((nd.kind == 0) && (Fn.right { nd with num := 0 } && (decide (0 ≤ nd.num) && decide (nd.num ≤ 0)))) = X at *
  go_enter Try.func14, Try.ntmps14
  go_wp2_with fail
  refine cN.out.mono ?_
  rintro e w1 ⟨rfl, hb1⟩
  have hbw := hbW.trans (hb1.mono hbW.size)
  clear cN hb1 hbW
  go_wp2
  go_ret
  exact ⟨rfl, hbw⟩
set_option maxHeartbeats 2000000 in
set_option maxRecDepth 20000 in
theorem implH2 (to : Int) (nd : Nd) (a1 a2 a3 : Option Addr) (c1 c2 c3 : Nat) (w : World) (hI : NdIn w.heap.size w nd (.slice a1 nd.names.length c1) (.slice a2 nd.keys.length c2) (.slice a3 nd.kids.length c3)) (hf : nd.fits 1048576) :
    Calls Try.prog 14 #[.agg #[.int .i64 2, .int .i64 to, .int .i64 nd.kind, .int .i64 nd.num, .int .i64 nd.mat, .string nd.text, .slice a1 nd.names.length c1, .slice a2 nd.keys.length c2, .slice a3 nd.kids.length c3]] w fun e w' => e = .returned (.bool (Co.number nd 0)) ∧ Below w.heap.size w w' := by
  have hbW : Below w.heap.size w (w.alloc (.cells #[.int .i64 2, .int .i64 to, .int .i64 nd.kind, .int .i64 nd.num, .int .i64 nd.mat, .string nd.text, .slice a1 nd.names.length c1, .slice a2 nd.keys.length c2, .slice a3 nd.kids.length c3] 39)) := (Below.refl _ _).alloc (Nat.le_refl _) _
  have cN := mkH (implNumber nd a1 a2 a3 c1 c2 c3 0 _ ((hI.below hbW).mono hbW.size) hf)
  clear hI hf
  unfold Co.number
  generalize ((nd.kind == 0) && (Fn.right { nd with num := 0 } && (decide (0 ≤ nd.num) && decide (nd.num ≤ 0)))) = X at *
  go_enter Try.func14, Try.ntmps14
  go_wp2_with fail
  refine cN.out.mono ?_
  rintro e w1 ⟨rfl, hb1⟩
  have hbw := hbW.trans (hb1.mono hbW.size)
  clear cN hb1 hbW
  go_wp2
  go_ret
  exact ⟨rfl, hbw⟩
set_option maxHeartbeats 2000000 in
set_option maxRecDepth 20000 in
theorem implH3 (to : Int) (nd : Nd) (a1 a2 a3 : Option Addr) (c1 c2 c3 : Nat) (w : World) (hI : NdIn w.heap.size w nd (.slice a1 nd.names.length c1) (.slice a2 nd.keys.length c2) (.slice a3 nd.kids.length c3)) (hf : nd.fits 1048576) :
    Calls Try.prog 14 #[.agg #[.int .i64 3, .int .i64 to, .int .i64 nd.kind, .int .i64 nd.num, .int .i64 nd.mat, .string nd.text, .slice a1 nd.names.length c1, .slice a2 nd.keys.length c2, .slice a3 nd.kids.length c3]] w fun e w' => e = .returned (.bool (Co.number nd 0)) ∧ Below w.heap.size w w' := by
  have hbW : Below w.heap.size w (w.alloc (.cells #[.int .i64 3, .int .i64 to, .int .i64 nd.kind, .int .i64 nd.num, .int .i64 nd.mat, .string nd.text, .slice a1 nd.names.length c1, .slice a2 nd.keys.length c2, .slice a3 nd.kids.length c3] 39)) := (Below.refl _ _).alloc (Nat.le_refl _) _
  have cN := mkH (implNumber nd a1 a2 a3 c1 c2 c3 0 _ ((hI.below hbW).mono hbW.size) hf)
  clear hI hf
  unfold Co.number
  generalize ((nd.kind == 0) && (Fn.right { nd with num := 0 } && (decide (0 ≤ nd.num) && decide (nd.num ≤ 0)))) = X at *
  go_enter Try.func14, Try.ntmps14
  go_wp2_with fail
  refine cN.out.mono ?_
  rintro e w1 ⟨rfl, hb1⟩
  have hbw := hbW.trans (hb1.mono hbW.size)
  clear cN hb1 hbW
  go_wp2
  go_ret
  exact ⟨rfl, hbw⟩
set_option maxHeartbeats 2000000 in
set_option maxRecDepth 20000 in
theorem implH4 (to : Int) (nd : Nd) (a1 a2 a3 : Option Addr) (c1 c2 c3 : Nat) (w : World) (hI : NdIn w.heap.size w nd (.slice a1 nd.names.length c1) (.slice a2 nd.keys.length c2) (.slice a3 nd.kids.length c3)) (hf : nd.fits 1048576) :
    Calls Try.prog 14 #[.agg #[.int .i64 4, .int .i64 to, .int .i64 nd.kind, .int .i64 nd.num, .int .i64 nd.mat, .string nd.text, .slice a1 nd.names.length c1, .slice a2 nd.keys.length c2, .slice a3 nd.kids.length c3]] w fun e w' => e = .returned (.bool (Co.number nd 0)) ∧ Below w.heap.size w w' := by
  have hbW : Below w.heap.size w (w.alloc (.cells #[.int .i64 4, .int .i64 to, .int .i64 nd.kind, .int .i64 nd.num, .int .i64 nd.mat, .string nd.text, .slice a1 nd.names.length c1, .slice a2 nd.keys.length c2, .slice a3 nd.kids.length c3] 39)) := (Below.refl _ _).alloc (Nat.le_refl _) _
  have cN := mkH (implNumber nd a1 a2 a3 c1 c2 c3 0 _ ((hI.below hbW).mono hbW.size) hf)
  clear hI hf
  unfold Co.number
  generalize ((nd.kind == 0) && (Fn.right { nd with num := 0 } && (decide (0 ≤ nd.num) && decide (nd.num ≤ 0)))) = X at *
  go_enter Try.func14, Try.ntmps14
  go_wp2_with fail
  refine cN.out.mono ?_
  rintro e w1 ⟨rfl, hb1⟩
  have hbw := hbW.trans (hb1.mono hbW.size)
  clear cN hb1 hbW
  go_wp2
  go_ret
  exact ⟨rfl, hbw⟩
set_option maxHeartbeats 2000000 in
set_option maxRecDepth 20000 in
theorem implH9 (to : Int) (nd : Nd) (a1 a2 a3 : Option Addr) (c1 c2 c3 : Nat) (w : World) (hI : NdIn w.heap.size w nd (.slice a1 nd.names.length c1) (.slice a2 nd.keys.length c2) (.slice a3 nd.kids.length c3)) (hf : nd.fits 1048576) :
    Calls Try.prog 14 #[.agg #[.int .i64 9, .int .i64 to, .int .i64 nd.kind, .int .i64 nd.num, .int .i64 nd.mat, .string nd.text, .slice a1 nd.names.length c1, .slice a2 nd.keys.length c2, .slice a3 nd.kids.length c3]] w fun e w' => e = .returned (.bool (Co.number nd 0)) ∧ Below w.heap.size w w' := by
  have hbW : Below w.heap.size w (w.alloc (.cells #[.int .i64 9, .int .i64 to, .int .i64 nd.kind, .int .i64 nd.num, .int .i64 nd.mat, .string nd.text, .slice a1 nd.names.length c1, .slice a2 nd.keys.length c2, .slice a3 nd.kids.length c3] 39)) := (Below.refl _ _).alloc (Nat.le_refl _) _
  have cN := mkH (implNumber nd a1 a2 a3 c1 c2 c3 0 _ ((hI.below hbW).mono hbW.size) hf)
  clear hI hf
  unfold Co.number
  generalize ((nd.kind == 0) && (Fn.right { nd with num := 0 } && (decide (0 ≤ nd.num) && decide (nd.num ≤ 0)))) = X at *
  go_enter Try.func14, Try.ntmps14
  go_wp2_with fail
  refine cN.out.mono ?_
  rintro e w1 ⟨rfl, hb1⟩
  have hbw := hbW.trans (hb1.mono hbW.size)
  clear cN hb1 hbW
  go_wp2
  go_ret
  exact ⟨rfl, hbw⟩
set_option maxHeartbeats 2000000 in
set_option maxRecDepth 20000 in
theorem implH5 (to : Int) (nd : Nd) (a1 a2 a3 : Option Addr) (c1 c2 c3 : Nat) (w : World) (hI : NdIn w.heap.size w nd (.slice a1 nd.names.length c1) (.slice a2 nd.keys.length c2) (.slice a3 nd.kids.length c3)) (hf : nd.fits 1048576) :
    Calls Try.prog 14 #[.agg #[.int .i64 5, .int .i64 to, .int .i64 nd.kind, .int .i64 nd.num, .int .i64 nd.mat, .string nd.text, .slice a1 nd.names.length c1, .slice a2 nd.keys.length c2, .slice a3 nd.kids.length c3]] w fun e w' => e = .returned (.bool (Co.number nd 1)) ∧ Below w.heap.size w w' := by
  have hbW : Below w.heap.size w (w.alloc (.cells #[.int .i64 5, .int .i64 to, .int .i64 nd.kind, .int .i64 nd.num, .int .i64 nd.mat, .string nd.text, .slice a1 nd.names.length c1, .slice a2 nd.keys.length c2, .slice a3 nd.kids.length c3] 39)) := (Below.refl _ _).alloc (Nat.le_refl _) _
  have cN := mkH (implNumber nd a1 a2 a3 c1 c2 c3 1 _ ((hI.below hbW).mono hbW.size) hf)
  clear hI hf
  unfold Co.number
  generalize ((nd.kind == 0) && (Fn.right { nd with num := 0 } && (decide (0 ≤ nd.num) && decide (nd.num ≤ 1)))) = X at *
  go_enter Try.func14, Try.ntmps14
  go_wp2_with fail
  refine cN.out.mono ?_
  rintro e w1 ⟨rfl, hb1⟩
  have hbw := hbW.trans (hb1.mono hbW.size)
  clear cN hb1 hbW
  go_wp2
  go_ret
  exact ⟨rfl, hbw⟩
set_option maxHeartbeats 2000000 in
set_option maxRecDepth 20000 in
theorem implH8 (to : Int) (nd : Nd) (a1 a2 a3 : Option Addr) (c1 c2 c3 : Nat) (w : World) (hI : NdIn w.heap.size w nd (.slice a1 nd.names.length c1) (.slice a2 nd.keys.length c2) (.slice a3 nd.kids.length c3)) (hf : nd.fits 1048576) :
    Calls Try.prog 14 #[.agg #[.int .i64 8, .int .i64 to, .int .i64 nd.kind, .int .i64 nd.num, .int .i64 nd.mat, .string nd.text, .slice a1 nd.names.length c1, .slice a2 nd.keys.length c2, .slice a3 nd.kids.length c3]] w fun e w' => e = .returned (.bool (Co.number nd 100)) ∧ Below w.heap.size w w' := by
  have hbW : Below w.heap.size w (w.alloc (.cells #[.int .i64 8, .int .i64 to, .int .i64 nd.kind, .int .i64 nd.num, .int .i64 nd.mat, .string nd.text, .slice a1 nd.names.length c1, .slice a2 nd.keys.length c2, .slice a3 nd.kids.length c3] 39)) := (Below.refl _ _).alloc (Nat.le_refl _) _
  have cN := mkH (implNumber nd a1 a2 a3 c1 c2 c3 100 _ ((hI.below hbW).mono hbW.size) hf)
  clear hI hf
  unfold Co.number
  generalize ((nd.kind == 0) && (Fn.right { nd with num := 0 } && (decide (0 ≤ nd.num) && decide (nd.num ≤ 100)))) = X at *
  go_enter Try.func14, Try.ntmps14
  go_wp2_with fail
  refine cN.out.mono ?_
  rintro e w1 ⟨rfl, hb1⟩
  have hbw := hbW.trans (hb1.mono hbW.size)
  clear cN hb1 hbW
  go_wp2
  go_ret
  exact ⟨rfl, hbw⟩
set_option maxHeartbeats 2000000 in
set_option maxRecDepth 20000 in
theorem implH6 (to : Int) (nd : Nd) (a1 a2 a3 : Option Addr) (c1 c2 c3 : Nat) (w : World) (hI : NdIn w.heap.size w nd (.slice a1 nd.names.length c1) (.slice a2 nd.keys.length c2) (.slice a3 nd.kids.length c3)) (hf : nd.fits 1048576) :
    Calls Try.prog 14 #[.agg #[.int .i64 6, .int .i64 to, .int .i64 nd.kind, .int .i64 nd.num, .int .i64 nd.mat, .string nd.text, .slice a1 nd.names.length c1, .slice a2 nd.keys.length c2, .slice a3 nd.kids.length c3]] w fun e w' => e = .returned (.bool (Co.leafC nd.kind && Fn.right nd)) ∧ Below w.heap.size w w' := by
  have hbW : Below w.heap.size w (w.alloc (.cells #[.int .i64 6, .int .i64 to, .int .i64 nd.kind, .int .i64 nd.num, .int .i64 nd.mat, .string nd.text, .slice a1 nd.names.length c1, .slice a2 nd.keys.length c2, .slice a3 nd.kids.length c3] 39)) := (Below.refl _ _).alloc (Nat.le_refl _) _
  have cL := mkH fun (w' : World) => implLeafC nd.kind w'
  have cR := mkH (implRight nd a1 a2 a3 c1 c2 c3 nd.kids.length _ (by obtain ⟨⟨x, y, e, t⟩, -, -⟩ := hI; cases e; exact (t.below hbW).mono hbW.size) (by obtain ⟨-, ⟨x, y, e, t⟩, -⟩ := hI; cases e; exact (t.below hbW).mono hbW.size) hf)
  clear hI hf
  unfold Co.leafC
  generalize ((nd.kind == 4) || ((nd.kind == 5) || (decide (7 ≤ nd.kind) && decide (nd.kind ≤ 11)))) = L at *
  generalize Fn.right nd = X at *
  cases L
  · go_enter Try.func14, Try.ntmps14
    go_wp2_with fail
    refine (cL.out _).mono ?_
    rintro e w1 ⟨rfl, rfl⟩
    go_wp2
    go_ret
    exact ⟨rfl, hbW⟩
  · go_enter Try.func14, Try.ntmps14
    go_wp2_with fail
    refine (cL.out _).mono ?_
    rintro e w1 ⟨rfl, rfl⟩
    go_wp2_with fail
    refine cR.out.mono ?_
    rintro e w2 ⟨rfl, hb2⟩
    have hbw := hbW.trans (hb2.mono hbW.size)
    clear cR cL hb2 hbW
    go_wp2
    go_ret
    exact ⟨rfl, hbw⟩
set_option maxHeartbeats 2000000 in
set_option maxRecDepth 20000 in
theorem implH7 (to : Int) (nd : Nd) (a1 a2 a3 : Option Addr) (c1 c2 c3 : Nat) (w : World) (hI : NdIn w.heap.size w nd (.slice a1 nd.names.length c1) (.slice a2 nd.keys.length c2) (.slice a3 nd.kids.length c3)) (hf : nd.fits 1048576) :
    Calls Try.prog 14 #[.agg #[.int .i64 7, .int .i64 to, .int .i64 nd.kind, .int .i64 nd.num, .int .i64 nd.mat, .string nd.text, .slice a1 nd.names.length c1, .slice a2 nd.keys.length c2, .slice a3 nd.kids.length c3]] w fun e w' => e = .returned (.bool (Co.leafT nd.kind && Fn.right nd)) ∧ Below w.heap.size w w' := by
  have hbW : Below w.heap.size w (w.alloc (.cells #[.int .i64 7, .int .i64 to, .int .i64 nd.kind, .int .i64 nd.num, .int .i64 nd.mat, .string nd.text, .slice a1 nd.names.length c1, .slice a2 nd.keys.length c2, .slice a3 nd.kids.length c3] 39)) := (Below.refl _ _).alloc (Nat.le_refl _) _
  have cL := mkH fun (w' : World) => implLeafT nd.kind w'
  have cR := mkH (implRight nd a1 a2 a3 c1 c2 c3 nd.kids.length _ (by obtain ⟨⟨x, y, e, t⟩, -, -⟩ := hI; cases e; exact (t.below hbW).mono hbW.size) (by obtain ⟨-, ⟨x, y, e, t⟩, -⟩ := hI; cases e; exact (t.below hbW).mono hbW.size) hf)
  clear hI hf
  unfold Co.leafT
  generalize (decide (25 ≤ nd.kind) && decide (nd.kind ≤ 31)) = L at *
  generalize Fn.right nd = X at *
  cases L
  · go_enter Try.func14, Try.ntmps14
    go_wp2_with fail
    refine (cL.out _).mono ?_
    rintro e w1 ⟨rfl, rfl⟩
    go_wp2
    go_ret
    exact ⟨rfl, hbW⟩
  · go_enter Try.func14, Try.ntmps14
    go_wp2_with fail
    refine (cL.out _).mono ?_
    rintro e w1 ⟨rfl, rfl⟩
    go_wp2_with fail
    refine cR.out.mono ?_
    rintro e w2 ⟨rfl, hb2⟩
    have hbw := hbW.trans (hb2.mono hbW.size)
    clear cR cL hb2 hbW
    go_wp2
    go_ret
    exact ⟨rfl, hbw⟩
set_option maxHeartbeats 2000000 in
set_option maxRecDepth 20000 in
theorem implHno (op : Int) (x1 : (op == 1) = false) (x10 : (op == 10) = false) (x2 : (op == 2) = false) (x3 : (op == 3) = false) (x4 : (op == 4) = false) (x9 : (op == 9) = false) (x5 : (op == 5) = false) (x8 : (op == 8) = false) (x6 : (op == 6) = false) (x7 : (op == 7) = false) (to : Int) (nd : Nd) (a1 a2 a3 : Option Addr) (c1 c2 c3 : Nat) (w : World) (_ : NdIn w.heap.size w nd (.slice a1 nd.names.length c1) (.slice a2 nd.keys.length c2) (.slice a3 nd.kids.length c3)) (_ : nd.fits 1048576) :
    Calls Try.prog 14 #[.agg #[.int .i64 op, .int .i64 to, .int .i64 nd.kind, .int .i64 nd.num, .int .i64 nd.mat, .string nd.text, .slice a1 nd.names.length c1, .slice a2 nd.keys.length c2, .slice a3 nd.kids.length c3]] w fun e w' => e = .returned (.bool (false)) ∧ Below w.heap.size w w' := by
  have hbW : Below w.heap.size w (w.alloc (.cells #[.int .i64 op, .int .i64 to, .int .i64 nd.kind, .int .i64 nd.num, .int .i64 nd.mat, .string nd.text, .slice a1 nd.names.length c1, .slice a2 nd.keys.length c2, .slice a3 nd.kids.length c3] 39)) := (Below.refl _ _).alloc (Nat.le_refl _) _
  go_enter Try.func14, Try.ntmps14
  go_wp2
  go_ret
  exact ⟨rfl, hbW⟩
theorem implHas (c : Cd) (vn vk vd : Value) (w : World) (hI : NdIn w.heap.size w c.nd vn vk vd) (hf : c.nd.fits 1048576) :
    Calls Try.prog 14 #[cdV c vn vk vd] w fun e w' => e = .returned (.bool (Co.has c)) ∧ Below w.heap.size w w' := by
  have hI0 := hI
  obtain ⟨⟨a1, c1, rfl, -⟩, ⟨a2, c2, rfl, -⟩, ⟨a3, c3, rfl, -⟩⟩ := hI
  obtain ⟨op, to, nd⟩ := c
  unfold cdV
  dsimp only at hI0 hf ⊢
  by_cases y1 : op = 1
  · subst y1; exact implH1 to nd a1 a2 a3 c1 c2 c3 w hI0 hf
  by_cases y10 : op = 10
  · subst y10; exact implH10 to nd a1 a2 a3 c1 c2 c3 w hI0 hf
  by_cases y2 : op = 2
  · subst y2; exact implH2 to nd a1 a2 a3 c1 c2 c3 w hI0 hf
  by_cases y3 : op = 3
  · subst y3; exact implH3 to nd a1 a2 a3 c1 c2 c3 w hI0 hf
  by_cases y4 : op = 4
  · subst y4; exact implH4 to nd a1 a2 a3 c1 c2 c3 w hI0 hf
  by_cases y9 : op = 9
  · subst y9; exact implH9 to nd a1 a2 a3 c1 c2 c3 w hI0 hf
  by_cases y5 : op = 5
  · subst y5; exact implH5 to nd a1 a2 a3 c1 c2 c3 w hI0 hf
  by_cases y8 : op = 8
  · subst y8; exact implH8 to nd a1 a2 a3 c1 c2 c3 w hI0 hf
  by_cases y6 : op = 6
  · subst y6; exact implH6 to nd a1 a2 a3 c1 c2 c3 w hI0 hf
  by_cases y7 : op = 7
  · subst y7; exact implH7 to nd a1 a2 a3 c1 c2 c3 w hI0 hf
  have b : ∀ k : Int, op ≠ k → (op == k) = false := fun k h => by simpa using h
  have hr : Co.has ⟨op, to, nd⟩ = false := by
    unfold Co.has
    dsimp only
    rw [if_neg (by omega), if_neg y5, if_neg y8, if_neg y6, if_neg y7]
  rw [hr]
  exact implHno op (b _ y1) (b _ y10) (b _ y2) (b _ y3) (b _ y4) (b _ y9) (b _ y5) (b _ y8) (b _ y6) (b _ y7) to nd a1 a2 a3 c1 c2 c3 w hI0 hf
end Go.Proofs.Ytopbokfloapbeaa
