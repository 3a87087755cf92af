
/- The program's test of a node's fields. -/
import Derived.Test.YtonnmbkfjiddnaaNodeBounds
namespace Go.Proofs.Ytonnmbkfjiddnaa
open Go.RowKit Go.Lib Go.Maps
namespace Fn
def rightT (F : List ByteArray) (most : Nat) : Bool := decide (min 1 (most : Int) ≤ (F.length : Int)) && (decide ((F.length : Int) ≤ (most : Int)) && !(F.any fun t => !decide (t.size ≤ 1000)))
end Fn
set_option maxHeartbeats 4000000 in
set_option maxRecDepth 20000 in
theorem implR3 (num mat : Int) (text : ByteArray) (names keys : List ByteArray) (a1 a2 a3 : Option Addr) (c1 c2 c3 nk : Nat) (w : World) (h1 : Tx w.heap.size w a1 names) (h2 : names.length ≤ 1048576) (h3 : ∀ t ∈ names, t.size ≤ 1048576) (h4 : Tx w.heap.size w a2 keys) (h5 : keys.length ≤ 1048576) (h6 : ∀ t ∈ keys, t.size ≤ 1048576) :
    Calls Try.prog 52 #[.agg #[.int .i64 3, .int .i64 num, .int .i64 mat, .string text, .slice a1 names.length c1, .slice a2 keys.length c2, .slice a3 nk c3]] w fun e w' => e = .returned (.bool (decide (0 ≤ num) && (decide (num ≤ 100) && (decide (0 ≤ mat) && (decide (mat ≤ 0) && (decide ((text.size : Int) ≤ 0) && ((Fn.rightT names 0 && Fn.rightT keys 0)))))))) ∧ Below w.heap.size w w' := by
  have HT1 := mkH fun (w' : World) (hb : Below w.heap.size w w') => implRightTexts a1 names c1 0 w' ((h1.below hb).mono hb.size) h2 h3
  have HT2 := mkH fun (w' : World) (hb : Below w.heap.size w w') => implRightTexts a2 keys c2 0 w' ((h4.below hb).mono hb.size) h5 h6
  clear h1 h2 h3 h4 h5 h6
  have e1 : ∀ F m, (decide (min 1 ((m : Nat) : Int) ≤ ((F : List ByteArray).length : Int)) && (decide ((F.length : Int) ≤ (m : Int)) && !(F.any fun t => !decide (t.size ≤ 1000)))) = Fn.rightT F m := fun _ _ => rfl
  simp only [e1] at HT1 HT2
  clear e1
  generalize Fn.rightT names 0 = A at *
  generalize Fn.rightT keys 0 = C at *
  obtain ⟨Z, hZ⟩ : ∃ Z, (decide (0 ≤ num) && (decide (num ≤ 100) && (decide (0 ≤ mat) && (decide (mat ≤ 0) && (decide ((text.size : Int) ≤ 0) && ((A && C))))))) = Z := ⟨_, rfl⟩
  rw [hZ]
  replace hZ := mkH hZ
  have hW0 : Below w.heap.size w (w.alloc (.cells #[.int .i64 3, .int .i64 num, .int .i64 mat, .string text, .slice a1 names.length c1, .slice a2 keys.length c2, .slice a3 nk c3] 44)) := (Below.refl _ _).alloc (Nat.le_refl _) _
  have hP0 : (w.alloc (.cells #[.int .i64 3, .int .i64 num, .int .i64 mat, .string text, .slice a1 names.length c1, .slice a2 keys.length c2, .slice a3 nk c3] 44)).heap[w.heap.size]? = some (.cells #[.int .i64 3, .int .i64 num, .int .i64 mat, .string text, .slice a1 names.length c1, .slice a2 keys.length c2, .slice a3 nk c3] 44 (0, 0)) := hp_allocN _ _
  have hBo := mkH (implB3 (w.alloc (.cells #[.int .i64 3, .int .i64 num, .int .i64 mat, .string text, .slice a1 names.length c1, .slice a2 keys.length c2, .slice a3 nk c3] 44)))
  have hA0 : w.heap.size < (w.alloc (.cells #[.int .i64 3, .int .i64 num, .int .i64 mat, .string text, .slice a1 names.length c1, .slice a2 keys.length c2, .slice a3 nk c3] 44)).heap.size := by simp
  go_enter Try.func52, Try.ntmps52
  go_wp2_with fail
  refine hBo.out.mono ?_
  rintro e w1 ⟨rfl, hb1⟩
  have hP1 := (hb1.block w.heap.size hA0).trans hP0
  have hbw1 := mkH (hW0.trans (hb1.mono (Nat.le_of_lt hA0)))
  have hsz1 := hb1.size
  have hl1 : w.heap.size < w1.heap.size := Nat.lt_of_lt_of_le hA0 hsz1
  have p0 : w1.cell? ⟨w.heap.size, 0, none⟩ = some (.int .i64 3) := by simp [World.cell?, hP1]
  have p1 : w1.cell? ⟨w.heap.size, 1, none⟩ = some (.int .i64 num) := by simp [World.cell?, hP1]
  have p2 : w1.cell? ⟨w.heap.size, 2, none⟩ = some (.int .i64 mat) := by simp [World.cell?, hP1]
  have p3 : w1.cell? ⟨w.heap.size, 3, none⟩ = some (.string text) := by simp [World.cell?, hP1]
  have p4 : w1.cell? ⟨w.heap.size, 4, none⟩ = some (.slice a1 names.length c1) := by simp [World.cell?, hP1]
  have p5 : w1.cell? ⟨w.heap.size, 5, none⟩ = some (.slice a2 keys.length c2) := by simp [World.cell?, hP1]
  have hne : ¬ w.heap.size = w1.heap.size := by omega
  have hne' : ¬ w1.heap.size = w.heap.size := by omega
  have hb2 := mkH (hbw1.out.alloc (o := (.cells #[.int .i64 100, .int .i64 0, .int .i64 0, .int .i64 0, .int .i64 0] 86)) hbw1.out.size)
  clear hBo hb1 hP1 hP0 hW0 hA0
  by_cases n0 : 0 ≤ num
  · have dn0 : decide (num < 0) = false := decide_eq_false (by omega)
    by_cases n1 : num ≤ 100
    · have dn1 : decide ((100 : Int) < num) = false := decide_eq_false (by omega)
      by_cases m0 : 0 ≤ mat
      · have dm0 : decide (mat < 0) = false := decide_eq_false (by omega)
        by_cases m1 : mat ≤ 0
        · have dm1 : decide ((0 : Int) < mat) = false := decide_eq_false (by omega)
          by_cases t0 : (text.size : Int) ≤ 0
          · have dt0 : decide ((0 : Int) < (text.size : Int)) = false := decide_eq_false (by omega)
            cases A
            · have hz : Hid (Z = false) := by show Z = false; rw [← hZ.out, decide_eq_true n0, decide_eq_true n1, decide_eq_true m0, decide_eq_true m1, decide_eq_true t0]; rfl
              clear hZ
              go_wp2_with fail
              refine ((HT1).out _ hb2.out).mono ?_
              rintro e w3 ⟨rfl, hw3⟩
              subst hw3
              go_wp2_with fail
              go_ret
              rw [hz.out]
              exact ⟨rfl, hb2.out⟩
            · have hz : Hid (Z = C) := by show Z = C; rw [← hZ.out, decide_eq_true n0, decide_eq_true n1, decide_eq_true m0, decide_eq_true m1, decide_eq_true t0]; rfl
              clear hZ
              go_wp2_with fail
              refine ((HT1).out _ hb2.out).mono ?_
              rintro e w3 ⟨rfl, hw3⟩
              subst hw3
              go_wp2_with fail
              refine ((HT2).out _ hb2.out).mono ?_
              rintro e w3 ⟨rfl, hw3⟩
              subst hw3
              go_wp2_with fail
              go_ret
              rw [hz.out]
              exact ⟨rfl, hb2.out⟩
          · have dt0 : decide ((0 : Int) < (text.size : Int)) = true := decide_eq_true (by omega)
            have hz : Hid (Z = false) := by show Z = false; rw [← hZ.out, decide_eq_true n0, decide_eq_true n1, decide_eq_true m0, decide_eq_true m1, decide_eq_false t0]; rfl
            clear hZ
            go_wp2_with fail
            go_ret
            rw [hz.out]
            exact ⟨rfl, hb2.out⟩
        · have dm1 : decide ((0 : Int) < mat) = true := decide_eq_true (by omega)
          have hz : Hid (Z = false) := by show Z = false; rw [← hZ.out, decide_eq_true n0, decide_eq_true n1, decide_eq_true m0, decide_eq_false m1]; rfl
          clear hZ
          go_wp2_with fail
          go_ret
          rw [hz.out]
          exact ⟨rfl, hb2.out⟩
      · have dm0 : decide (mat < 0) = true := decide_eq_true (by omega)
        have hz : Hid (Z = false) := by show Z = false; rw [← hZ.out, decide_eq_true n0, decide_eq_true n1, decide_eq_false m0]; rfl
        clear hZ
        go_wp2_with fail
        go_ret
        rw [hz.out]
        exact ⟨rfl, hb2.out⟩
    · have dn1 : decide ((100 : Int) < num) = true := decide_eq_true (by omega)
      have hz : Hid (Z = false) := by show Z = false; rw [← hZ.out, decide_eq_true n0, decide_eq_false n1]; rfl
      clear hZ
      go_wp2_with fail
      go_ret
      rw [hz.out]
      exact ⟨rfl, hb2.out⟩
  · have dn0 : decide (num < 0) = true := decide_eq_true (by omega)
    have hz : Hid (Z = false) := by show Z = false; rw [← hZ.out, decide_eq_false n0]; rfl
    clear hZ
    go_wp2_with fail
    go_ret
    rw [hz.out]
    exact ⟨rfl, hb2.out⟩
set_option maxHeartbeats 4000000 in
set_option maxRecDepth 20000 in
theorem implR7 (num mat : Int) (text : ByteArray) (names keys : List ByteArray) (a1 a2 a3 : Option Addr) (c1 c2 c3 nk : Nat) (w : World) (h1 : Tx w.heap.size w a1 names) (h2 : names.length ≤ 1048576) (h3 : ∀ t ∈ names, t.size ≤ 1048576) (h4 : Tx w.heap.size w a2 keys) (h5 : keys.length ≤ 1048576) (h6 : ∀ t ∈ keys, t.size ≤ 1048576) :
    Calls Try.prog 52 #[.agg #[.int .i64 7, .int .i64 num, .int .i64 mat, .string text, .slice a1 names.length c1, .slice a2 keys.length c2, .slice a3 nk c3]] w fun e w' => e = .returned (.bool (decide (0 ≤ num) && (decide (num ≤ 0) && (decide (0 ≤ mat) && (decide (mat ≤ 0) && (decide ((text.size : Int) ≤ 1000) && ((Fn.rightT names 0 && Fn.rightT keys 0)))))))) ∧ Below w.heap.size w w' := by
  have HT1 := mkH fun (w' : World) (hb : Below w.heap.size w w') => implRightTexts a1 names c1 0 w' ((h1.below hb).mono hb.size) h2 h3
  have HT2 := mkH fun (w' : World) (hb : Below w.heap.size w w') => implRightTexts a2 keys c2 0 w' ((h4.below hb).mono hb.size) h5 h6
  clear h1 h2 h3 h4 h5 h6
  have e1 : ∀ F m, (decide (min 1 ((m : Nat) : Int) ≤ ((F : List ByteArray).length : Int)) && (decide ((F.length : Int) ≤ (m : Int)) && !(F.any fun t => !decide (t.size ≤ 1000)))) = Fn.rightT F m := fun _ _ => rfl
  simp only [e1] at HT1 HT2
  clear e1
  generalize Fn.rightT names 0 = A at *
  generalize Fn.rightT keys 0 = C at *
  obtain ⟨Z, hZ⟩ : ∃ Z, (decide (0 ≤ num) && (decide (num ≤ 0) && (decide (0 ≤ mat) && (decide (mat ≤ 0) && (decide ((text.size : Int) ≤ 1000) && ((A && C))))))) = Z := ⟨_, rfl⟩
  rw [hZ]
  replace hZ := mkH hZ
  have hW0 : Below w.heap.size w (w.alloc (.cells #[.int .i64 7, .int .i64 num, .int .i64 mat, .string text, .slice a1 names.length c1, .slice a2 keys.length c2, .slice a3 nk c3] 44)) := (Below.refl _ _).alloc (Nat.le_refl _) _
  have hP0 : (w.alloc (.cells #[.int .i64 7, .int .i64 num, .int .i64 mat, .string text, .slice a1 names.length c1, .slice a2 keys.length c2, .slice a3 nk c3] 44)).heap[w.heap.size]? = some (.cells #[.int .i64 7, .int .i64 num, .int .i64 mat, .string text, .slice a1 names.length c1, .slice a2 keys.length c2, .slice a3 nk c3] 44 (0, 0)) := hp_allocN _ _
  have hBo := mkH (implB7 (w.alloc (.cells #[.int .i64 7, .int .i64 num, .int .i64 mat, .string text, .slice a1 names.length c1, .slice a2 keys.length c2, .slice a3 nk c3] 44)))
  have hA0 : w.heap.size < (w.alloc (.cells #[.int .i64 7, .int .i64 num, .int .i64 mat, .string text, .slice a1 names.length c1, .slice a2 keys.length c2, .slice a3 nk c3] 44)).heap.size := by simp
  go_enter Try.func52, Try.ntmps52
  go_wp2_with fail
  refine hBo.out.mono ?_
  rintro e w1 ⟨rfl, hb1⟩
  have hP1 := (hb1.block w.heap.size hA0).trans hP0
  have hbw1 := mkH (hW0.trans (hb1.mono (Nat.le_of_lt hA0)))
  have hsz1 := hb1.size
  have hl1 : w.heap.size < w1.heap.size := Nat.lt_of_lt_of_le hA0 hsz1
  have p0 : w1.cell? ⟨w.heap.size, 0, none⟩ = some (.int .i64 7) := by simp [World.cell?, hP1]
  have p1 : w1.cell? ⟨w.heap.size, 1, none⟩ = some (.int .i64 num) := by simp [World.cell?, hP1]
  have p2 : w1.cell? ⟨w.heap.size, 2, none⟩ = some (.int .i64 mat) := by simp [World.cell?, hP1]
  have p3 : w1.cell? ⟨w.heap.size, 3, none⟩ = some (.string text) := by simp [World.cell?, hP1]
  have p4 : w1.cell? ⟨w.heap.size, 4, none⟩ = some (.slice a1 names.length c1) := by simp [World.cell?, hP1]
  have p5 : w1.cell? ⟨w.heap.size, 5, none⟩ = some (.slice a2 keys.length c2) := by simp [World.cell?, hP1]
  have hne : ¬ w.heap.size = w1.heap.size := by omega
  have hne' : ¬ w1.heap.size = w.heap.size := by omega
  have hb2 := mkH (hbw1.out.alloc (o := (.cells #[.int .i64 0, .int .i64 0, .int .i64 1000, .int .i64 0, .int .i64 0] 86)) hbw1.out.size)
  clear hBo hb1 hP1 hP0 hW0 hA0
  by_cases n0 : 0 ≤ num
  · have dn0 : decide (num < 0) = false := decide_eq_false (by omega)
    by_cases n1 : num ≤ 0
    · have dn1 : decide ((0 : Int) < num) = false := decide_eq_false (by omega)
      by_cases m0 : 0 ≤ mat
      · have dm0 : decide (mat < 0) = false := decide_eq_false (by omega)
        by_cases m1 : mat ≤ 0
        · have dm1 : decide ((0 : Int) < mat) = false := decide_eq_false (by omega)
          by_cases t0 : (text.size : Int) ≤ 1000
          · have dt0 : decide ((1000 : Int) < (text.size : Int)) = false := decide_eq_false (by omega)
            cases A
            · have hz : Hid (Z = false) := by show Z = false; rw [← hZ.out, decide_eq_true n0, decide_eq_true n1, decide_eq_true m0, decide_eq_true m1, decide_eq_true t0]; rfl
              clear hZ
              go_wp2_with fail
              refine ((HT1).out _ hb2.out).mono ?_
              rintro e w3 ⟨rfl, hw3⟩
              subst hw3
              go_wp2_with fail
              go_ret
              rw [hz.out]
              exact ⟨rfl, hb2.out⟩
            · have hz : Hid (Z = C) := by show Z = C; rw [← hZ.out, decide_eq_true n0, decide_eq_true n1, decide_eq_true m0, decide_eq_true m1, decide_eq_true t0]; rfl
              clear hZ
              go_wp2_with fail
              refine ((HT1).out _ hb2.out).mono ?_
              rintro e w3 ⟨rfl, hw3⟩
              subst hw3
              go_wp2_with fail
              refine ((HT2).out _ hb2.out).mono ?_
              rintro e w3 ⟨rfl, hw3⟩
              subst hw3
              go_wp2_with fail
              go_ret
              rw [hz.out]
              exact ⟨rfl, hb2.out⟩
          · have dt0 : decide ((1000 : Int) < (text.size : Int)) = true := decide_eq_true (by omega)
            have hz : Hid (Z = false) := by show Z = false; rw [← hZ.out, decide_eq_true n0, decide_eq_true n1, decide_eq_true m0, decide_eq_true m1, decide_eq_false t0]; rfl
            clear hZ
            go_wp2_with fail
            go_ret
            rw [hz.out]
            exact ⟨rfl, hb2.out⟩
        · have dm1 : decide ((0 : Int) < mat) = true := decide_eq_true (by omega)
          have hz : Hid (Z = false) := by show Z = false; rw [← hZ.out, decide_eq_true n0, decide_eq_true n1, decide_eq_true m0, decide_eq_false m1]; rfl
          clear hZ
          go_wp2_with fail
          go_ret
          rw [hz.out]
          exact ⟨rfl, hb2.out⟩
      · have dm0 : decide (mat < 0) = true := decide_eq_true (by omega)
        have hz : Hid (Z = false) := by show Z = false; rw [← hZ.out, decide_eq_true n0, decide_eq_true n1, decide_eq_false m0]; rfl
        clear hZ
        go_wp2_with fail
        go_ret
        rw [hz.out]
        exact ⟨rfl, hb2.out⟩
    · have dn1 : decide ((0 : Int) < num) = true := decide_eq_true (by omega)
      have hz : Hid (Z = false) := by show Z = false; rw [← hZ.out, decide_eq_true n0, decide_eq_false n1]; rfl
      clear hZ
      go_wp2_with fail
      go_ret
      rw [hz.out]
      exact ⟨rfl, hb2.out⟩
  · have dn0 : decide (num < 0) = true := decide_eq_true (by omega)
    have hz : Hid (Z = false) := by show Z = false; rw [← hZ.out, decide_eq_false n0]; rfl
    clear hZ
    go_wp2_with fail
    go_ret
    rw [hz.out]
    exact ⟨rfl, hb2.out⟩
set_option maxHeartbeats 4000000 in
set_option maxRecDepth 20000 in
theorem implR8 (num mat : Int) (text : ByteArray) (names keys : List ByteArray) (a1 a2 a3 : Option Addr) (c1 c2 c3 nk : Nat) (w : World) (h1 : Tx w.heap.size w a1 names) (h2 : names.length ≤ 1048576) (h3 : ∀ t ∈ names, t.size ≤ 1048576) (h4 : Tx w.heap.size w a2 keys) (h5 : keys.length ≤ 1048576) (h6 : ∀ t ∈ keys, t.size ≤ 1048576) :
    Calls Try.prog 52 #[.agg #[.int .i64 8, .int .i64 num, .int .i64 mat, .string text, .slice a1 names.length c1, .slice a2 keys.length c2, .slice a3 nk c3]] w fun e w' => e = .returned (.bool (decide (0 ≤ num) && (decide (num ≤ 0) && (decide (0 ≤ mat) && (decide (mat ≤ 0) && (decide ((text.size : Int) ≤ 1000) && ((Fn.rightT names 0 && Fn.rightT keys 0)))))))) ∧ Below w.heap.size w w' := by
  have HT1 := mkH fun (w' : World) (hb : Below w.heap.size w w') => implRightTexts a1 names c1 0 w' ((h1.below hb).mono hb.size) h2 h3
  have HT2 := mkH fun (w' : World) (hb : Below w.heap.size w w') => implRightTexts a2 keys c2 0 w' ((h4.below hb).mono hb.size) h5 h6
  clear h1 h2 h3 h4 h5 h6
  have e1 : ∀ F m, (decide (min 1 ((m : Nat) : Int) ≤ ((F : List ByteArray).length : Int)) && (decide ((F.length : Int) ≤ (m : Int)) && !(F.any fun t => !decide (t.size ≤ 1000)))) = Fn.rightT F m := fun _ _ => rfl
  simp only [e1] at HT1 HT2
  clear e1
  generalize Fn.rightT names 0 = A at *
  generalize Fn.rightT keys 0 = C at *
  obtain ⟨Z, hZ⟩ : ∃ Z, (decide (0 ≤ num) && (decide (num ≤ 0) && (decide (0 ≤ mat) && (decide (mat ≤ 0) && (decide ((text.size : Int) ≤ 1000) && ((A && C))))))) = Z := ⟨_, rfl⟩
  rw [hZ]
  replace hZ := mkH hZ
  have hW0 : Below w.heap.size w (w.alloc (.cells #[.int .i64 8, .int .i64 num, .int .i64 mat, .string text, .slice a1 names.length c1, .slice a2 keys.length c2, .slice a3 nk c3] 44)) := (Below.refl _ _).alloc (Nat.le_refl _) _
  have hP0 : (w.alloc (.cells #[.int .i64 8, .int .i64 num, .int .i64 mat, .string text, .slice a1 names.length c1, .slice a2 keys.length c2, .slice a3 nk c3] 44)).heap[w.heap.size]? = some (.cells #[.int .i64 8, .int .i64 num, .int .i64 mat, .string text, .slice a1 names.length c1, .slice a2 keys.length c2, .slice a3 nk c3] 44 (0, 0)) := hp_allocN _ _
  have hBo := mkH (implB8 (w.alloc (.cells #[.int .i64 8, .int .i64 num, .int .i64 mat, .string text, .slice a1 names.length c1, .slice a2 keys.length c2, .slice a3 nk c3] 44)))
  have hA0 : w.heap.size < (w.alloc (.cells #[.int .i64 8, .int .i64 num, .int .i64 mat, .string text, .slice a1 names.length c1, .slice a2 keys.length c2, .slice a3 nk c3] 44)).heap.size := by simp
  go_enter Try.func52, Try.ntmps52
  go_wp2_with fail
  refine hBo.out.mono ?_
  rintro e w1 ⟨rfl, hb1⟩
  have hP1 := (hb1.block w.heap.size hA0).trans hP0
  have hbw1 := mkH (hW0.trans (hb1.mono (Nat.le_of_lt hA0)))
  have hsz1 := hb1.size
  have hl1 : w.heap.size < w1.heap.size := Nat.lt_of_lt_of_le hA0 hsz1
  have p0 : w1.cell? ⟨w.heap.size, 0, none⟩ = some (.int .i64 8) := by simp [World.cell?, hP1]
  have p1 : w1.cell? ⟨w.heap.size, 1, none⟩ = some (.int .i64 num) := by simp [World.cell?, hP1]
  have p2 : w1.cell? ⟨w.heap.size, 2, none⟩ = some (.int .i64 mat) := by simp [World.cell?, hP1]
  have p3 : w1.cell? ⟨w.heap.size, 3, none⟩ = some (.string text) := by simp [World.cell?, hP1]
  have p4 : w1.cell? ⟨w.heap.size, 4, none⟩ = some (.slice a1 names.length c1) := by simp [World.cell?, hP1]
  have p5 : w1.cell? ⟨w.heap.size, 5, none⟩ = some (.slice a2 keys.length c2) := by simp [World.cell?, hP1]
  have hne : ¬ w.heap.size = w1.heap.size := by omega
  have hne' : ¬ w1.heap.size = w.heap.size := by omega
  have hb2 := mkH (hbw1.out.alloc (o := (.cells #[.int .i64 0, .int .i64 0, .int .i64 1000, .int .i64 0, .int .i64 0] 86)) hbw1.out.size)
  clear hBo hb1 hP1 hP0 hW0 hA0
  by_cases n0 : 0 ≤ num
  · have dn0 : decide (num < 0) = false := decide_eq_false (by omega)
    by_cases n1 : num ≤ 0
    · have dn1 : decide ((0 : Int) < num) = false := decide_eq_false (by omega)
      by_cases m0 : 0 ≤ mat
      · have dm0 : decide (mat < 0) = false := decide_eq_false (by omega)
        by_cases m1 : mat ≤ 0
        · have dm1 : decide ((0 : Int) < mat) = false := decide_eq_false (by omega)
          by_cases t0 : (text.size : Int) ≤ 1000
          · have dt0 : decide ((1000 : Int) < (text.size : Int)) = false := decide_eq_false (by omega)
            cases A
            · have hz : Hid (Z = false) := by show Z = false; rw [← hZ.out, decide_eq_true n0, decide_eq_true n1, decide_eq_true m0, decide_eq_true m1, decide_eq_true t0]; rfl
              clear hZ
              go_wp2_with fail
              refine ((HT1).out _ hb2.out).mono ?_
              rintro e w3 ⟨rfl, hw3⟩
              subst hw3
              go_wp2_with fail
              go_ret
              rw [hz.out]
              exact ⟨rfl, hb2.out⟩
            · have hz : Hid (Z = C) := by show Z = C; rw [← hZ.out, decide_eq_true n0, decide_eq_true n1, decide_eq_true m0, decide_eq_true m1, decide_eq_true t0]; rfl
              clear hZ
              go_wp2_with fail
              refine ((HT1).out _ hb2.out).mono ?_
              rintro e w3 ⟨rfl, hw3⟩
              subst hw3
              go_wp2_with fail
              refine ((HT2).out _ hb2.out).mono ?_
              rintro e w3 ⟨rfl, hw3⟩
              subst hw3
              go_wp2_with fail
              go_ret
              rw [hz.out]
              exact ⟨rfl, hb2.out⟩
          · have dt0 : decide ((1000 : Int) < (text.size : Int)) = true := decide_eq_true (by omega)
            have hz : Hid (Z = false) := by show Z = false; rw [← hZ.out, decide_eq_true n0, decide_eq_true n1, decide_eq_true m0, decide_eq_true m1, decide_eq_false t0]; rfl
            clear hZ
            go_wp2_with fail
            go_ret
            rw [hz.out]
            exact ⟨rfl, hb2.out⟩
        · have dm1 : decide ((0 : Int) < mat) = true := decide_eq_true (by omega)
          have hz : Hid (Z = false) := by show Z = false; rw [← hZ.out, decide_eq_true n0, decide_eq_true n1, decide_eq_true m0, decide_eq_false m1]; rfl
          clear hZ
          go_wp2_with fail
          go_ret
          rw [hz.out]
          exact ⟨rfl, hb2.out⟩
      · have dm0 : decide (mat < 0) = true := decide_eq_true (by omega)
        have hz : Hid (Z = false) := by show Z = false; rw [← hZ.out, decide_eq_true n0, decide_eq_true n1, decide_eq_false m0]; rfl
        clear hZ
        go_wp2_with fail
        go_ret
        rw [hz.out]
        exact ⟨rfl, hb2.out⟩
    · have dn1 : decide ((0 : Int) < num) = true := decide_eq_true (by omega)
      have hz : Hid (Z = false) := by show Z = false; rw [← hZ.out, decide_eq_true n0, decide_eq_false n1]; rfl
      clear hZ
      go_wp2_with fail
      go_ret
      rw [hz.out]
      exact ⟨rfl, hb2.out⟩
  · have dn0 : decide (num < 0) = true := decide_eq_true (by omega)
    have hz : Hid (Z = false) := by show Z = false; rw [← hZ.out, decide_eq_false n0]; rfl
    clear hZ
    go_wp2_with fail
    go_ret
    rw [hz.out]
    exact ⟨rfl, hb2.out⟩
set_option maxHeartbeats 4000000 in
set_option maxRecDepth 20000 in
theorem implR9 (num mat : Int) (text : ByteArray) (names keys : List ByteArray) (a1 a2 a3 : Option Addr) (c1 c2 c3 nk : Nat) (w : World) (h1 : Tx w.heap.size w a1 names) (h2 : names.length ≤ 1048576) (h3 : ∀ t ∈ names, t.size ≤ 1048576) (h4 : Tx w.heap.size w a2 keys) (h5 : keys.length ≤ 1048576) (h6 : ∀ t ∈ keys, t.size ≤ 1048576) :
    Calls Try.prog 52 #[.agg #[.int .i64 9, .int .i64 num, .int .i64 mat, .string text, .slice a1 names.length c1, .slice a2 keys.length c2, .slice a3 nk c3]] w fun e w' => e = .returned (.bool (decide (0 ≤ num) && (decide (num ≤ 0) && (decide (0 ≤ mat) && (decide (mat ≤ 0) && (decide ((text.size : Int) ≤ 1000) && ((Fn.rightT names 0 && Fn.rightT keys 0)))))))) ∧ Below w.heap.size w w' := by
  have HT1 := mkH fun (w' : World) (hb : Below w.heap.size w w') => implRightTexts a1 names c1 0 w' ((h1.below hb).mono hb.size) h2 h3
  have HT2 := mkH fun (w' : World) (hb : Below w.heap.size w w') => implRightTexts a2 keys c2 0 w' ((h4.below hb).mono hb.size) h5 h6
  clear h1 h2 h3 h4 h5 h6
  have e1 : ∀ F m, (decide (min 1 ((m : Nat) : Int) ≤ ((F : List ByteArray).length : Int)) && (decide ((F.length : Int) ≤ (m : Int)) && !(F.any fun t => !decide (t.size ≤ 1000)))) = Fn.rightT F m := fun _ _ => rfl
  simp only [e1] at HT1 HT2
  clear e1
  generalize Fn.rightT names 0 = A at *
  generalize Fn.rightT keys 0 = C at *
  obtain ⟨Z, hZ⟩ : ∃ Z, (decide (0 ≤ num) && (decide (num ≤ 0) && (decide (0 ≤ mat) && (decide (mat ≤ 0) && (decide ((text.size : Int) ≤ 1000) && ((A && C))))))) = Z := ⟨_, rfl⟩
  rw [hZ]
  replace hZ := mkH hZ
  have hW0 : Below w.heap.size w (w.alloc (.cells #[.int .i64 9, .int .i64 num, .int .i64 mat, .string text, .slice a1 names.length c1, .slice a2 keys.length c2, .slice a3 nk c3] 44)) := (Below.refl _ _).alloc (Nat.le_refl _) _
  have hP0 : (w.alloc (.cells #[.int .i64 9, .int .i64 num, .int .i64 mat, .string text, .slice a1 names.length c1, .slice a2 keys.length c2, .slice a3 nk c3] 44)).heap[w.heap.size]? = some (.cells #[.int .i64 9, .int .i64 num, .int .i64 mat, .string text, .slice a1 names.length c1, .slice a2 keys.length c2, .slice a3 nk c3] 44 (0, 0)) := hp_allocN _ _
  have hBo := mkH (implB9 (w.alloc (.cells #[.int .i64 9, .int .i64 num, .int .i64 mat, .string text, .slice a1 names.length c1, .slice a2 keys.length c2, .slice a3 nk c3] 44)))
  have hA0 : w.heap.size < (w.alloc (.cells #[.int .i64 9, .int .i64 num, .int .i64 mat, .string text, .slice a1 names.length c1, .slice a2 keys.length c2, .slice a3 nk c3] 44)).heap.size := by simp
  go_enter Try.func52, Try.ntmps52
  go_wp2_with fail
  refine hBo.out.mono ?_
  rintro e w1 ⟨rfl, hb1⟩
  have hP1 := (hb1.block w.heap.size hA0).trans hP0
  have hbw1 := mkH (hW0.trans (hb1.mono (Nat.le_of_lt hA0)))
  have hsz1 := hb1.size
  have hl1 : w.heap.size < w1.heap.size := Nat.lt_of_lt_of_le hA0 hsz1
  have p0 : w1.cell? ⟨w.heap.size, 0, none⟩ = some (.int .i64 9) := by simp [World.cell?, hP1]
  have p1 : w1.cell? ⟨w.heap.size, 1, none⟩ = some (.int .i64 num) := by simp [World.cell?, hP1]
  have p2 : w1.cell? ⟨w.heap.size, 2, none⟩ = some (.int .i64 mat) := by simp [World.cell?, hP1]
  have p3 : w1.cell? ⟨w.heap.size, 3, none⟩ = some (.string text) := by simp [World.cell?, hP1]
  have p4 : w1.cell? ⟨w.heap.size, 4, none⟩ = some (.slice a1 names.length c1) := by simp [World.cell?, hP1]
  have p5 : w1.cell? ⟨w.heap.size, 5, none⟩ = some (.slice a2 keys.length c2) := by simp [World.cell?, hP1]
  have hne : ¬ w.heap.size = w1.heap.size := by omega
  have hne' : ¬ w1.heap.size = w.heap.size := by omega
  have hb2 := mkH (hbw1.out.alloc (o := (.cells #[.int .i64 0, .int .i64 0, .int .i64 1000, .int .i64 0, .int .i64 0] 86)) hbw1.out.size)
  clear hBo hb1 hP1 hP0 hW0 hA0
  by_cases n0 : 0 ≤ num
  · have dn0 : decide (num < 0) = false := decide_eq_false (by omega)
    by_cases n1 : num ≤ 0
    · have dn1 : decide ((0 : Int) < num) = false := decide_eq_false (by omega)
      by_cases m0 : 0 ≤ mat
      · have dm0 : decide (mat < 0) = false := decide_eq_false (by omega)
        by_cases m1 : mat ≤ 0
        · have dm1 : decide ((0 : Int) < mat) = false := decide_eq_false (by omega)
          by_cases t0 : (text.size : Int) ≤ 1000
          · have dt0 : decide ((1000 : Int) < (text.size : Int)) = false := decide_eq_false (by omega)
            cases A
            · have hz : Hid (Z = false) := by show Z = false; rw [← hZ.out, decide_eq_true n0, decide_eq_true n1, decide_eq_true m0, decide_eq_true m1, decide_eq_true t0]; rfl
              clear hZ
              go_wp2_with fail
              refine ((HT1).out _ hb2.out).mono ?_
              rintro e w3 ⟨rfl, hw3⟩
              subst hw3
              go_wp2_with fail
              go_ret
              rw [hz.out]
              exact ⟨rfl, hb2.out⟩
            · have hz : Hid (Z = C) := by show Z = C; rw [← hZ.out, decide_eq_true n0, decide_eq_true n1, decide_eq_true m0, decide_eq_true m1, decide_eq_true t0]; rfl
              clear hZ
              go_wp2_with fail
              refine ((HT1).out _ hb2.out).mono ?_
              rintro e w3 ⟨rfl, hw3⟩
              subst hw3
              go_wp2_with fail
              refine ((HT2).out _ hb2.out).mono ?_
              rintro e w3 ⟨rfl, hw3⟩
              subst hw3
              go_wp2_with fail
              go_ret
              rw [hz.out]
              exact ⟨rfl, hb2.out⟩
          · have dt0 : decide ((1000 : Int) < (text.size : Int)) = true := decide_eq_true (by omega)
            have hz : Hid (Z = false) := by show Z = false; rw [← hZ.out, decide_eq_true n0, decide_eq_true n1, decide_eq_true m0, decide_eq_true m1, decide_eq_false t0]; rfl
            clear hZ
            go_wp2_with fail
            go_ret
            rw [hz.out]
            exact ⟨rfl, hb2.out⟩
        · have dm1 : decide ((0 : Int) < mat) = true := decide_eq_true (by omega)
          have hz : Hid (Z = false) := by show Z = false; rw [← hZ.out, decide_eq_true n0, decide_eq_true n1, decide_eq_true m0, decide_eq_false m1]; rfl
          clear hZ
          go_wp2_with fail
          go_ret
          rw [hz.out]
          exact ⟨rfl, hb2.out⟩
      · have dm0 : decide (mat < 0) = true := decide_eq_true (by omega)
        have hz : Hid (Z = false) := by show Z = false; rw [← hZ.out, decide_eq_true n0, decide_eq_true n1, decide_eq_false m0]; rfl
        clear hZ
        go_wp2_with fail
        go_ret
        rw [hz.out]
        exact ⟨rfl, hb2.out⟩
    · have dn1 : decide ((0 : Int) < num) = true := decide_eq_true (by omega)
      have hz : Hid (Z = false) := by show Z = false; rw [← hZ.out, decide_eq_true n0, decide_eq_false n1]; rfl
      clear hZ
      go_wp2_with fail
      go_ret
      rw [hz.out]
      exact ⟨rfl, hb2.out⟩
  · have dn0 : decide (num < 0) = true := decide_eq_true (by omega)
    have hz : Hid (Z = false) := by show Z = false; rw [← hZ.out, decide_eq_false n0]; rfl
    clear hZ
    go_wp2_with fail
    go_ret
    rw [hz.out]
    exact ⟨rfl, hb2.out⟩
set_option maxHeartbeats 4000000 in
set_option maxRecDepth 20000 in
theorem implR10 (num mat : Int) (text : ByteArray) (names keys : List ByteArray) (a1 a2 a3 : Option Addr) (c1 c2 c3 nk : Nat) (w : World) (h1 : Tx w.heap.size w a1 names) (h2 : names.length ≤ 1048576) (h3 : ∀ t ∈ names, t.size ≤ 1048576) (h4 : Tx w.heap.size w a2 keys) (h5 : keys.length ≤ 1048576) (h6 : ∀ t ∈ keys, t.size ≤ 1048576) :
    Calls Try.prog 52 #[.agg #[.int .i64 10, .int .i64 num, .int .i64 mat, .string text, .slice a1 names.length c1, .slice a2 keys.length c2, .slice a3 nk c3]] w fun e w' => e = .returned (.bool (decide (0 ≤ num) && (decide (num ≤ 0) && (decide (0 ≤ mat) && (decide (mat ≤ 0) && (decide ((text.size : Int) ≤ 1000) && ((Fn.rightT names 0 && Fn.rightT keys 0)))))))) ∧ Below w.heap.size w w' := by
  have HT1 := mkH fun (w' : World) (hb : Below w.heap.size w w') => implRightTexts a1 names c1 0 w' ((h1.below hb).mono hb.size) h2 h3
  have HT2 := mkH fun (w' : World) (hb : Below w.heap.size w w') => implRightTexts a2 keys c2 0 w' ((h4.below hb).mono hb.size) h5 h6
  clear h1 h2 h3 h4 h5 h6
  have e1 : ∀ F m, (decide (min 1 ((m : Nat) : Int) ≤ ((F : List ByteArray).length : Int)) && (decide ((F.length : Int) ≤ (m : Int)) && !(F.any fun t => !decide (t.size ≤ 1000)))) = Fn.rightT F m := fun _ _ => rfl
  simp only [e1] at HT1 HT2
  clear e1
  generalize Fn.rightT names 0 = A at *
  generalize Fn.rightT keys 0 = C at *
  obtain ⟨Z, hZ⟩ : ∃ Z, (decide (0 ≤ num) && (decide (num ≤ 0) && (decide (0 ≤ mat) && (decide (mat ≤ 0) && (decide ((text.size : Int) ≤ 1000) && ((A && C))))))) = Z := ⟨_, rfl⟩
  rw [hZ]
  replace hZ := mkH hZ
  have hW0 : Below w.heap.size w (w.alloc (.cells #[.int .i64 10, .int .i64 num, .int .i64 mat, .string text, .slice a1 names.length c1, .slice a2 keys.length c2, .slice a3 nk c3] 44)) := (Below.refl _ _).alloc (Nat.le_refl _) _
  have hP0 : (w.alloc (.cells #[.int .i64 10, .int .i64 num, .int .i64 mat, .string text, .slice a1 names.length c1, .slice a2 keys.length c2, .slice a3 nk c3] 44)).heap[w.heap.size]? = some (.cells #[.int .i64 10, .int .i64 num, .int .i64 mat, .string text, .slice a1 names.length c1, .slice a2 keys.length c2, .slice a3 nk c3] 44 (0, 0)) := hp_allocN _ _
  have hBo := mkH (implB10 (w.alloc (.cells #[.int .i64 10, .int .i64 num, .int .i64 mat, .string text, .slice a1 names.length c1, .slice a2 keys.length c2, .slice a3 nk c3] 44)))
  have hA0 : w.heap.size < (w.alloc (.cells #[.int .i64 10, .int .i64 num, .int .i64 mat, .string text, .slice a1 names.length c1, .slice a2 keys.length c2, .slice a3 nk c3] 44)).heap.size := by simp
  go_enter Try.func52, Try.ntmps52
  go_wp2_with fail
  refine hBo.out.mono ?_
  rintro e w1 ⟨rfl, hb1⟩
  have hP1 := (hb1.block w.heap.size hA0).trans hP0
  have hbw1 := mkH (hW0.trans (hb1.mono (Nat.le_of_lt hA0)))
  have hsz1 := hb1.size
  have hl1 : w.heap.size < w1.heap.size := Nat.lt_of_lt_of_le hA0 hsz1
  have p0 : w1.cell? ⟨w.heap.size, 0, none⟩ = some (.int .i64 10) := by simp [World.cell?, hP1]
  have p1 : w1.cell? ⟨w.heap.size, 1, none⟩ = some (.int .i64 num) := by simp [World.cell?, hP1]
  have p2 : w1.cell? ⟨w.heap.size, 2, none⟩ = some (.int .i64 mat) := by simp [World.cell?, hP1]
  have p3 : w1.cell? ⟨w.heap.size, 3, none⟩ = some (.string text) := by simp [World.cell?, hP1]
  have p4 : w1.cell? ⟨w.heap.size, 4, none⟩ = some (.slice a1 names.length c1) := by simp [World.cell?, hP1]
  have p5 : w1.cell? ⟨w.heap.size, 5, none⟩ = some (.slice a2 keys.length c2) := by simp [World.cell?, hP1]
  have hne : ¬ w.heap.size = w1.heap.size := by omega
  have hne' : ¬ w1.heap.size = w.heap.size := by omega
  have hb2 := mkH (hbw1.out.alloc (o := (.cells #[.int .i64 0, .int .i64 0, .int .i64 1000, .int .i64 0, .int .i64 0] 86)) hbw1.out.size)
  clear hBo hb1 hP1 hP0 hW0 hA0
  by_cases n0 : 0 ≤ num
  · have dn0 : decide (num < 0) = false := decide_eq_false (by omega)
    by_cases n1 : num ≤ 0
    · have dn1 : decide ((0 : Int) < num) = false := decide_eq_false (by omega)
      by_cases m0 : 0 ≤ mat
      · have dm0 : decide (mat < 0) = false := decide_eq_false (by omega)
        by_cases m1 : mat ≤ 0
        · have dm1 : decide ((0 : Int) < mat) = false := decide_eq_false (by omega)
          by_cases t0 : (text.size : Int) ≤ 1000
          · have dt0 : decide ((1000 : Int) < (text.size : Int)) = false := decide_eq_false (by omega)
            cases A
            · have hz : Hid (Z = false) := by show Z = false; rw [← hZ.out, decide_eq_true n0, decide_eq_true n1, decide_eq_true m0, decide_eq_true m1, decide_eq_true t0]; rfl
              clear hZ
              go_wp2_with fail
              refine ((HT1).out _ hb2.out).mono ?_
              rintro e w3 ⟨rfl, hw3⟩
              subst hw3
              go_wp2_with fail
              go_ret
              rw [hz.out]
              exact ⟨rfl, hb2.out⟩
            · have hz : Hid (Z = C) := by show Z = C; rw [← hZ.out, decide_eq_true n0, decide_eq_true n1, decide_eq_true m0, decide_eq_true m1, decide_eq_true t0]; rfl
              clear hZ
              go_wp2_with fail
              refine ((HT1).out _ hb2.out).mono ?_
              rintro e w3 ⟨rfl, hw3⟩
              subst hw3
              go_wp2_with fail
              refine ((HT2).out _ hb2.out).mono ?_
              rintro e w3 ⟨rfl, hw3⟩
              subst hw3
              go_wp2_with fail
              go_ret
              rw [hz.out]
              exact ⟨rfl, hb2.out⟩
          · have dt0 : decide ((1000 : Int) < (text.size : Int)) = true := decide_eq_true (by omega)
            have hz : Hid (Z = false) := by show Z = false; rw [← hZ.out, decide_eq_true n0, decide_eq_true n1, decide_eq_true m0, decide_eq_true m1, decide_eq_false t0]; rfl
            clear hZ
            go_wp2_with fail
            go_ret
            rw [hz.out]
            exact ⟨rfl, hb2.out⟩
        · have dm1 : decide ((0 : Int) < mat) = true := decide_eq_true (by omega)
          have hz : Hid (Z = false) := by show Z = false; rw [← hZ.out, decide_eq_true n0, decide_eq_true n1, decide_eq_true m0, decide_eq_false m1]; rfl
          clear hZ
          go_wp2_with fail
          go_ret
          rw [hz.out]
          exact ⟨rfl, hb2.out⟩
      · have dm0 : decide (mat < 0) = true := decide_eq_true (by omega)
        have hz : Hid (Z = false) := by show Z = false; rw [← hZ.out, decide_eq_true n0, decide_eq_true n1, decide_eq_false m0]; rfl
        clear hZ
        go_wp2_with fail
        go_ret
        rw [hz.out]
        exact ⟨rfl, hb2.out⟩
    · have dn1 : decide ((0 : Int) < num) = true := decide_eq_true (by omega)
      have hz : Hid (Z = false) := by show Z = false; rw [← hZ.out, decide_eq_true n0, decide_eq_false n1]; rfl
      clear hZ
      go_wp2_with fail
      go_ret
      rw [hz.out]
      exact ⟨rfl, hb2.out⟩
  · have dn0 : decide (num < 0) = true := decide_eq_true (by omega)
    have hz : Hid (Z = false) := by show Z = false; rw [← hZ.out, decide_eq_false n0]; rfl
    clear hZ
    go_wp2_with fail
    go_ret
    rw [hz.out]
    exact ⟨rfl, hb2.out⟩
set_option maxHeartbeats 4000000 in
set_option maxRecDepth 20000 in
theorem implR11 (num mat : Int) (text : ByteArray) (names keys : List ByteArray) (a1 a2 a3 : Option Addr) (c1 c2 c3 nk : Nat) (w : World) (h1 : Tx w.heap.size w a1 names) (h2 : names.length ≤ 1048576) (h3 : ∀ t ∈ names, t.size ≤ 1048576) (h4 : Tx w.heap.size w a2 keys) (h5 : keys.length ≤ 1048576) (h6 : ∀ t ∈ keys, t.size ≤ 1048576) :
    Calls Try.prog 52 #[.agg #[.int .i64 11, .int .i64 num, .int .i64 mat, .string text, .slice a1 names.length c1, .slice a2 keys.length c2, .slice a3 nk c3]] w fun e w' => e = .returned (.bool (decide (0 ≤ num) && (decide (num ≤ 0) && (decide (0 ≤ mat) && (decide (mat ≤ 0) && (decide ((text.size : Int) ≤ 1000) && (!(names.any fun t => !Fn.nameOk t) && (Fn.rightT names 1 && Fn.rightT keys 0)))))))) ∧ Below w.heap.size w w' := by
  have HT1 := mkH fun (w' : World) (hb : Below w.heap.size w w') => implRightTexts a1 names c1 1 w' ((h1.below hb).mono hb.size) h2 h3
  have HT2 := mkH fun (w' : World) (hb : Below w.heap.size w w') => implRightTexts a2 keys c2 0 w' ((h4.below hb).mono hb.size) h5 h6
  have HT3 := mkH fun (w' : World) (hb : Below w.heap.size w w') => implContainsT kindNoVar a1 names c1 w' ((h1.below hb).mono hb.size) h2 h3
  clear h1 h2 h3 h4 h5 h6
  have e1 : ∀ F m, (decide (min 1 ((m : Nat) : Int) ≤ ((F : List ByteArray).length : Int)) && (decide ((F.length : Int) ≤ (m : Int)) && !(F.any fun t => !decide (t.size ≤ 1000)))) = Fn.rightT F m := fun _ _ => rfl
  simp only [e1] at HT1 HT2
  clear e1
  generalize Fn.rightT names 1 = A at *
  generalize Fn.rightT keys 0 = C at *
  generalize (names.any fun t => !Fn.nameOk t) = D at *
  obtain ⟨Z, hZ⟩ : ∃ Z, (decide (0 ≤ num) && (decide (num ≤ 0) && (decide (0 ≤ mat) && (decide (mat ≤ 0) && (decide ((text.size : Int) ≤ 1000) && (!D && (A && C))))))) = Z := ⟨_, rfl⟩
  rw [hZ]
  replace hZ := mkH hZ
  have hW0 : Below w.heap.size w (w.alloc (.cells #[.int .i64 11, .int .i64 num, .int .i64 mat, .string text, .slice a1 names.length c1, .slice a2 keys.length c2, .slice a3 nk c3] 44)) := (Below.refl _ _).alloc (Nat.le_refl _) _
  have hP0 : (w.alloc (.cells #[.int .i64 11, .int .i64 num, .int .i64 mat, .string text, .slice a1 names.length c1, .slice a2 keys.length c2, .slice a3 nk c3] 44)).heap[w.heap.size]? = some (.cells #[.int .i64 11, .int .i64 num, .int .i64 mat, .string text, .slice a1 names.length c1, .slice a2 keys.length c2, .slice a3 nk c3] 44 (0, 0)) := hp_allocN _ _
  have hBo := mkH (implB11 (w.alloc (.cells #[.int .i64 11, .int .i64 num, .int .i64 mat, .string text, .slice a1 names.length c1, .slice a2 keys.length c2, .slice a3 nk c3] 44)))
  have hA0 : w.heap.size < (w.alloc (.cells #[.int .i64 11, .int .i64 num, .int .i64 mat, .string text, .slice a1 names.length c1, .slice a2 keys.length c2, .slice a3 nk c3] 44)).heap.size := by simp
  go_enter Try.func52, Try.ntmps52
  go_wp2_with fail
  refine hBo.out.mono ?_
  rintro e w1 ⟨rfl, hb1⟩
  have hP1 := (hb1.block w.heap.size hA0).trans hP0
  have hbw1 := mkH (hW0.trans (hb1.mono (Nat.le_of_lt hA0)))
  have hsz1 := hb1.size
  have hl1 : w.heap.size < w1.heap.size := Nat.lt_of_lt_of_le hA0 hsz1
  have p0 : w1.cell? ⟨w.heap.size, 0, none⟩ = some (.int .i64 11) := by simp [World.cell?, hP1]
  have p1 : w1.cell? ⟨w.heap.size, 1, none⟩ = some (.int .i64 num) := by simp [World.cell?, hP1]
  have p2 : w1.cell? ⟨w.heap.size, 2, none⟩ = some (.int .i64 mat) := by simp [World.cell?, hP1]
  have p3 : w1.cell? ⟨w.heap.size, 3, none⟩ = some (.string text) := by simp [World.cell?, hP1]
  have p4 : w1.cell? ⟨w.heap.size, 4, none⟩ = some (.slice a1 names.length c1) := by simp [World.cell?, hP1]
  have p5 : w1.cell? ⟨w.heap.size, 5, none⟩ = some (.slice a2 keys.length c2) := by simp [World.cell?, hP1]
  have hne : ¬ w.heap.size = w1.heap.size := by omega
  have hne' : ¬ w1.heap.size = w.heap.size := by omega
  have hb2 := mkH (hbw1.out.alloc (o := (.cells #[.int .i64 0, .int .i64 0, .int .i64 1000, .int .i64 1, .int .i64 0] 86)) hbw1.out.size)
  clear hBo hb1 hP1 hP0 hW0 hA0
  by_cases n0 : 0 ≤ num
  · have dn0 : decide (num < 0) = false := decide_eq_false (by omega)
    by_cases n1 : num ≤ 0
    · have dn1 : decide ((0 : Int) < num) = false := decide_eq_false (by omega)
      by_cases m0 : 0 ≤ mat
      · have dm0 : decide (mat < 0) = false := decide_eq_false (by omega)
        by_cases m1 : mat ≤ 0
        · have dm1 : decide ((0 : Int) < mat) = false := decide_eq_false (by omega)
          by_cases t0 : (text.size : Int) ≤ 1000
          · have dt0 : decide ((1000 : Int) < (text.size : Int)) = false := decide_eq_false (by omega)
            cases D
            · cases A
              · have hz : Hid (Z = false) := by show Z = false; rw [← hZ.out, decide_eq_true n0, decide_eq_true n1, decide_eq_true m0, decide_eq_true m1, decide_eq_true t0]; rfl
                clear hZ
                go_wp2_with fail
                refine ((HT3).out _ hb2.out).mono ?_
                rintro e w3 ⟨rfl, hw3⟩
                subst hw3
                go_wp2_with fail
                refine ((HT1).out _ hb2.out).mono ?_
                rintro e w3 ⟨rfl, hw3⟩
                subst hw3
                go_wp2_with fail
                go_ret
                rw [hz.out]
                exact ⟨rfl, hb2.out⟩
              · have hz : Hid (Z = C) := by show Z = C; rw [← hZ.out, decide_eq_true n0, decide_eq_true n1, decide_eq_true m0, decide_eq_true m1, decide_eq_true t0]; rfl
                clear hZ
                go_wp2_with fail
                refine ((HT3).out _ hb2.out).mono ?_
                rintro e w3 ⟨rfl, hw3⟩
                subst hw3
                go_wp2_with fail
                refine ((HT1).out _ hb2.out).mono ?_
                rintro e w3 ⟨rfl, hw3⟩
                subst hw3
                go_wp2_with fail
                refine ((HT2).out _ hb2.out).mono ?_
                rintro e w3 ⟨rfl, hw3⟩
                subst hw3
                go_wp2_with fail
                go_ret
                rw [hz.out]
                exact ⟨rfl, hb2.out⟩
            · have hz : Hid (Z = false) := by show Z = false; rw [← hZ.out, decide_eq_true n0, decide_eq_true n1, decide_eq_true m0, decide_eq_true m1, decide_eq_true t0]; rfl
              clear hZ
              go_wp2_with fail
              refine ((HT3).out _ hb2.out).mono ?_
              rintro e w3 ⟨rfl, hw3⟩
              subst hw3
              go_wp2_with fail
              go_ret
              rw [hz.out]
              exact ⟨rfl, hb2.out⟩
          · have dt0 : decide ((1000 : Int) < (text.size : Int)) = true := decide_eq_true (by omega)
            have hz : Hid (Z = false) := by show Z = false; rw [← hZ.out, decide_eq_true n0, decide_eq_true n1, decide_eq_true m0, decide_eq_true m1, decide_eq_false t0]; rfl
            clear hZ
            go_wp2_with fail
            go_ret
            rw [hz.out]
            exact ⟨rfl, hb2.out⟩
        · have dm1 : decide ((0 : Int) < mat) = true := decide_eq_true (by omega)
          have hz : Hid (Z = false) := by show Z = false; rw [← hZ.out, decide_eq_true n0, decide_eq_true n1, decide_eq_true m0, decide_eq_false m1]; rfl
          clear hZ
          go_wp2_with fail
          go_ret
          rw [hz.out]
          exact ⟨rfl, hb2.out⟩
      · have dm0 : decide (mat < 0) = true := decide_eq_true (by omega)
        have hz : Hid (Z = false) := by show Z = false; rw [← hZ.out, decide_eq_true n0, decide_eq_true n1, decide_eq_false m0]; rfl
        clear hZ
        go_wp2_with fail
        go_ret
        rw [hz.out]
        exact ⟨rfl, hb2.out⟩
    · have dn1 : decide ((0 : Int) < num) = true := decide_eq_true (by omega)
      have hz : Hid (Z = false) := by show Z = false; rw [← hZ.out, decide_eq_true n0, decide_eq_false n1]; rfl
      clear hZ
      go_wp2_with fail
      go_ret
      rw [hz.out]
      exact ⟨rfl, hb2.out⟩
  · have dn0 : decide (num < 0) = true := decide_eq_true (by omega)
    have hz : Hid (Z = false) := by show Z = false; rw [← hZ.out, decide_eq_false n0]; rfl
    clear hZ
    go_wp2_with fail
    go_ret
    rw [hz.out]
    exact ⟨rfl, hb2.out⟩
set_option maxHeartbeats 4000000 in
set_option maxRecDepth 20000 in
theorem implR28 (num mat : Int) (text : ByteArray) (names keys : List ByteArray) (a1 a2 a3 : Option Addr) (c1 c2 c3 nk : Nat) (w : World) (h1 : Tx w.heap.size w a1 names) (h2 : names.length ≤ 1048576) (h3 : ∀ t ∈ names, t.size ≤ 1048576) (h4 : Tx w.heap.size w a2 keys) (h5 : keys.length ≤ 1048576) (h6 : ∀ t ∈ keys, t.size ≤ 1048576) :
    Calls Try.prog 52 #[.agg #[.int .i64 28, .int .i64 num, .int .i64 mat, .string text, .slice a1 names.length c1, .slice a2 keys.length c2, .slice a3 nk c3]] w fun e w' => e = .returned (.bool (decide (0 ≤ num) && (decide (num ≤ 0) && (decide (0 ≤ mat) && (decide (mat ≤ 0) && (decide ((text.size : Int) ≤ 0) && ((Fn.rightT names 100 && Fn.rightT keys 0)))))))) ∧ Below w.heap.size w w' := by
  have HT1 := mkH fun (w' : World) (hb : Below w.heap.size w w') => implRightTexts a1 names c1 100 w' ((h1.below hb).mono hb.size) h2 h3
  have HT2 := mkH fun (w' : World) (hb : Below w.heap.size w w') => implRightTexts a2 keys c2 0 w' ((h4.below hb).mono hb.size) h5 h6
  clear h1 h2 h3 h4 h5 h6
  have e1 : ∀ F m, (decide (min 1 ((m : Nat) : Int) ≤ ((F : List ByteArray).length : Int)) && (decide ((F.length : Int) ≤ (m : Int)) && !(F.any fun t => !decide (t.size ≤ 1000)))) = Fn.rightT F m := fun _ _ => rfl
  simp only [e1] at HT1 HT2
  clear e1
  generalize Fn.rightT names 100 = A at *
  generalize Fn.rightT keys 0 = C at *
  obtain ⟨Z, hZ⟩ : ∃ Z, (decide (0 ≤ num) && (decide (num ≤ 0) && (decide (0 ≤ mat) && (decide (mat ≤ 0) && (decide ((text.size : Int) ≤ 0) && ((A && C))))))) = Z := ⟨_, rfl⟩
  rw [hZ]
  replace hZ := mkH hZ
  have hW0 : Below w.heap.size w (w.alloc (.cells #[.int .i64 28, .int .i64 num, .int .i64 mat, .string text, .slice a1 names.length c1, .slice a2 keys.length c2, .slice a3 nk c3] 44)) := (Below.refl _ _).alloc (Nat.le_refl _) _
  have hP0 : (w.alloc (.cells #[.int .i64 28, .int .i64 num, .int .i64 mat, .string text, .slice a1 names.length c1, .slice a2 keys.length c2, .slice a3 nk c3] 44)).heap[w.heap.size]? = some (.cells #[.int .i64 28, .int .i64 num, .int .i64 mat, .string text, .slice a1 names.length c1, .slice a2 keys.length c2, .slice a3 nk c3] 44 (0, 0)) := hp_allocN _ _
  have hBo := mkH (implB28 (w.alloc (.cells #[.int .i64 28, .int .i64 num, .int .i64 mat, .string text, .slice a1 names.length c1, .slice a2 keys.length c2, .slice a3 nk c3] 44)))
  have hA0 : w.heap.size < (w.alloc (.cells #[.int .i64 28, .int .i64 num, .int .i64 mat, .string text, .slice a1 names.length c1, .slice a2 keys.length c2, .slice a3 nk c3] 44)).heap.size := by simp
  go_enter Try.func52, Try.ntmps52
  go_wp2_with fail
  refine hBo.out.mono ?_
  rintro e w1 ⟨rfl, hb1⟩
  have hP1 := (hb1.block w.heap.size hA0).trans hP0
  have hbw1 := mkH (hW0.trans (hb1.mono (Nat.le_of_lt hA0)))
  have hsz1 := hb1.size
  have hl1 : w.heap.size < w1.heap.size := Nat.lt_of_lt_of_le hA0 hsz1
  have p0 : w1.cell? ⟨w.heap.size, 0, none⟩ = some (.int .i64 28) := by simp [World.cell?, hP1]
  have p1 : w1.cell? ⟨w.heap.size, 1, none⟩ = some (.int .i64 num) := by simp [World.cell?, hP1]
  have p2 : w1.cell? ⟨w.heap.size, 2, none⟩ = some (.int .i64 mat) := by simp [World.cell?, hP1]
  have p3 : w1.cell? ⟨w.heap.size, 3, none⟩ = some (.string text) := by simp [World.cell?, hP1]
  have p4 : w1.cell? ⟨w.heap.size, 4, none⟩ = some (.slice a1 names.length c1) := by simp [World.cell?, hP1]
  have p5 : w1.cell? ⟨w.heap.size, 5, none⟩ = some (.slice a2 keys.length c2) := by simp [World.cell?, hP1]
  have hne : ¬ w.heap.size = w1.heap.size := by omega
  have hne' : ¬ w1.heap.size = w.heap.size := by omega
  have hb2 := mkH (hbw1.out.alloc (o := (.cells #[.int .i64 0, .int .i64 0, .int .i64 0, .int .i64 100, .int .i64 0] 86)) hbw1.out.size)
  clear hBo hb1 hP1 hP0 hW0 hA0
  by_cases n0 : 0 ≤ num
  · have dn0 : decide (num < 0) = false := decide_eq_false (by omega)
    by_cases n1 : num ≤ 0
    · have dn1 : decide ((0 : Int) < num) = false := decide_eq_false (by omega)
      by_cases m0 : 0 ≤ mat
      · have dm0 : decide (mat < 0) = false := decide_eq_false (by omega)
        by_cases m1 : mat ≤ 0
        · have dm1 : decide ((0 : Int) < mat) = false := decide_eq_false (by omega)
          by_cases t0 : (text.size : Int) ≤ 0
          · have dt0 : decide ((0 : Int) < (text.size : Int)) = false := decide_eq_false (by omega)
            cases A
            · have hz : Hid (Z = false) := by show Z = false; rw [← hZ.out, decide_eq_true n0, decide_eq_true n1, decide_eq_true m0, decide_eq_true m1, decide_eq_true t0]; rfl
              clear hZ
              go_wp2_with fail
              refine ((HT1).out _ hb2.out).mono ?_
              rintro e w3 ⟨rfl, hw3⟩
              subst hw3
              go_wp2_with fail
              go_ret
              rw [hz.out]
              exact ⟨rfl, hb2.out⟩
            · have hz : Hid (Z = C) := by show Z = C; rw [← hZ.out, decide_eq_true n0, decide_eq_true n1, decide_eq_true m0, decide_eq_true m1, decide_eq_true t0]; rfl
              clear hZ
              go_wp2_with fail
              refine ((HT1).out _ hb2.out).mono ?_
              rintro e w3 ⟨rfl, hw3⟩
              subst hw3
              go_wp2_with fail
              refine ((HT2).out _ hb2.out).mono ?_
              rintro e w3 ⟨rfl, hw3⟩
              subst hw3
              go_wp2_with fail
              go_ret
              rw [hz.out]
              exact ⟨rfl, hb2.out⟩
          · have dt0 : decide ((0 : Int) < (text.size : Int)) = true := decide_eq_true (by omega)
            have hz : Hid (Z = false) := by show Z = false; rw [← hZ.out, decide_eq_true n0, decide_eq_true n1, decide_eq_true m0, decide_eq_true m1, decide_eq_false t0]; rfl
            clear hZ
            go_wp2_with fail
            go_ret
            rw [hz.out]
            exact ⟨rfl, hb2.out⟩
        · have dm1 : decide ((0 : Int) < mat) = true := decide_eq_true (by omega)
          have hz : Hid (Z = false) := by show Z = false; rw [← hZ.out, decide_eq_true n0, decide_eq_true n1, decide_eq_true m0, decide_eq_false m1]; rfl
          clear hZ
          go_wp2_with fail
          go_ret
          rw [hz.out]
          exact ⟨rfl, hb2.out⟩
      · have dm0 : decide (mat < 0) = true := decide_eq_true (by omega)
        have hz : Hid (Z = false) := by show Z = false; rw [← hZ.out, decide_eq_true n0, decide_eq_true n1, decide_eq_false m0]; rfl
        clear hZ
        go_wp2_with fail
        go_ret
        rw [hz.out]
        exact ⟨rfl, hb2.out⟩
    · have dn1 : decide ((0 : Int) < num) = true := decide_eq_true (by omega)
      have hz : Hid (Z = false) := by show Z = false; rw [← hZ.out, decide_eq_true n0, decide_eq_false n1]; rfl
      clear hZ
      go_wp2_with fail
      go_ret
      rw [hz.out]
      exact ⟨rfl, hb2.out⟩
  · have dn0 : decide (num < 0) = true := decide_eq_true (by omega)
    have hz : Hid (Z = false) := by show Z = false; rw [← hZ.out, decide_eq_false n0]; rfl
    clear hZ
    go_wp2_with fail
    go_ret
    rw [hz.out]
    exact ⟨rfl, hb2.out⟩
set_option maxHeartbeats 4000000 in
set_option maxRecDepth 20000 in
theorem implR29 (num mat : Int) (text : ByteArray) (names keys : List ByteArray) (a1 a2 a3 : Option Addr) (c1 c2 c3 nk : Nat) (w : World) (h1 : Tx w.heap.size w a1 names) (h2 : names.length ≤ 1048576) (h3 : ∀ t ∈ names, t.size ≤ 1048576) (h4 : Tx w.heap.size w a2 keys) (h5 : keys.length ≤ 1048576) (h6 : ∀ t ∈ keys, t.size ≤ 1048576) :
    Calls Try.prog 52 #[.agg #[.int .i64 29, .int .i64 num, .int .i64 mat, .string text, .slice a1 names.length c1, .slice a2 keys.length c2, .slice a3 nk c3]] w fun e w' => e = .returned (.bool (decide (0 ≤ num) && (decide (num ≤ 999999999) && (decide (0 ≤ mat) && (decide (mat ≤ 0) && (decide ((text.size : Int) ≤ 0) && ((Fn.rightT names 0 && Fn.rightT keys 0)))))))) ∧ Below w.heap.size w w' := by
  have HT1 := mkH fun (w' : World) (hb : Below w.heap.size w w') => implRightTexts a1 names c1 0 w' ((h1.below hb).mono hb.size) h2 h3
  have HT2 := mkH fun (w' : World) (hb : Below w.heap.size w w') => implRightTexts a2 keys c2 0 w' ((h4.below hb).mono hb.size) h5 h6
  clear h1 h2 h3 h4 h5 h6
  have e1 : ∀ F m, (decide (min 1 ((m : Nat) : Int) ≤ ((F : List ByteArray).length : Int)) && (decide ((F.length : Int) ≤ (m : Int)) && !(F.any fun t => !decide (t.size ≤ 1000)))) = Fn.rightT F m := fun _ _ => rfl
  simp only [e1] at HT1 HT2
  clear e1
  generalize Fn.rightT names 0 = A at *
  generalize Fn.rightT keys 0 = C at *
  obtain ⟨Z, hZ⟩ : ∃ Z, (decide (0 ≤ num) && (decide (num ≤ 999999999) && (decide (0 ≤ mat) && (decide (mat ≤ 0) && (decide ((text.size : Int) ≤ 0) && ((A && C))))))) = Z := ⟨_, rfl⟩
  rw [hZ]
  replace hZ := mkH hZ
  have hW0 : Below w.heap.size w (w.alloc (.cells #[.int .i64 29, .int .i64 num, .int .i64 mat, .string text, .slice a1 names.length c1, .slice a2 keys.length c2, .slice a3 nk c3] 44)) := (Below.refl _ _).alloc (Nat.le_refl _) _
  have hP0 : (w.alloc (.cells #[.int .i64 29, .int .i64 num, .int .i64 mat, .string text, .slice a1 names.length c1, .slice a2 keys.length c2, .slice a3 nk c3] 44)).heap[w.heap.size]? = some (.cells #[.int .i64 29, .int .i64 num, .int .i64 mat, .string text, .slice a1 names.length c1, .slice a2 keys.length c2, .slice a3 nk c3] 44 (0, 0)) := hp_allocN _ _
  have hBo := mkH (implB29 (w.alloc (.cells #[.int .i64 29, .int .i64 num, .int .i64 mat, .string text, .slice a1 names.length c1, .slice a2 keys.length c2, .slice a3 nk c3] 44)))
  have hA0 : w.heap.size < (w.alloc (.cells #[.int .i64 29, .int .i64 num, .int .i64 mat, .string text, .slice a1 names.length c1, .slice a2 keys.length c2, .slice a3 nk c3] 44)).heap.size := by simp
  go_enter Try.func52, Try.ntmps52
  go_wp2_with fail
  refine hBo.out.mono ?_
  rintro e w1 ⟨rfl, hb1⟩
  have hP1 := (hb1.block w.heap.size hA0).trans hP0
  have hbw1 := mkH (hW0.trans (hb1.mono (Nat.le_of_lt hA0)))
  have hsz1 := hb1.size
  have hl1 : w.heap.size < w1.heap.size := Nat.lt_of_lt_of_le hA0 hsz1
  have p0 : w1.cell? ⟨w.heap.size, 0, none⟩ = some (.int .i64 29) := by simp [World.cell?, hP1]
  have p1 : w1.cell? ⟨w.heap.size, 1, none⟩ = some (.int .i64 num) := by simp [World.cell?, hP1]
  have p2 : w1.cell? ⟨w.heap.size, 2, none⟩ = some (.int .i64 mat) := by simp [World.cell?, hP1]
  have p3 : w1.cell? ⟨w.heap.size, 3, none⟩ = some (.string text) := by simp [World.cell?, hP1]
  have p4 : w1.cell? ⟨w.heap.size, 4, none⟩ = some (.slice a1 names.length c1) := by simp [World.cell?, hP1]
  have p5 : w1.cell? ⟨w.heap.size, 5, none⟩ = some (.slice a2 keys.length c2) := by simp [World.cell?, hP1]
  have hne : ¬ w.heap.size = w1.heap.size := by omega
  have hne' : ¬ w1.heap.size = w.heap.size := by omega
  have hb2 := mkH (hbw1.out.alloc (o := (.cells #[.int .i64 999999999, .int .i64 0, .int .i64 0, .int .i64 0, .int .i64 0] 86)) hbw1.out.size)
  clear hBo hb1 hP1 hP0 hW0 hA0
  by_cases n0 : 0 ≤ num
  · have dn0 : decide (num < 0) = false := decide_eq_false (by omega)
    by_cases n1 : num ≤ 999999999
    · have dn1 : decide ((999999999 : Int) < num) = false := decide_eq_false (by omega)
      by_cases m0 : 0 ≤ mat
      · have dm0 : decide (mat < 0) = false := decide_eq_false (by omega)
        by_cases m1 : mat ≤ 0
        · have dm1 : decide ((0 : Int) < mat) = false := decide_eq_false (by omega)
          by_cases t0 : (text.size : Int) ≤ 0
          · have dt0 : decide ((0 : Int) < (text.size : Int)) = false := decide_eq_false (by omega)
            cases A
            · have hz : Hid (Z = false) := by show Z = false; rw [← hZ.out, decide_eq_true n0, decide_eq_true n1, decide_eq_true m0, decide_eq_true m1, decide_eq_true t0]; rfl
              clear hZ
              go_wp2_with fail
              refine ((HT1).out _ hb2.out).mono ?_
              rintro e w3 ⟨rfl, hw3⟩
              subst hw3
              go_wp2_with fail
              go_ret
              rw [hz.out]
              exact ⟨rfl, hb2.out⟩
            · have hz : Hid (Z = C) := by show Z = C; rw [← hZ.out, decide_eq_true n0, decide_eq_true n1, decide_eq_true m0, decide_eq_true m1, decide_eq_true t0]; rfl
              clear hZ
              go_wp2_with fail
              refine ((HT1).out _ hb2.out).mono ?_
              rintro e w3 ⟨rfl, hw3⟩
              subst hw3
              go_wp2_with fail
              refine ((HT2).out _ hb2.out).mono ?_
              rintro e w3 ⟨rfl, hw3⟩
              subst hw3
              go_wp2_with fail
              go_ret
              rw [hz.out]
              exact ⟨rfl, hb2.out⟩
          · have dt0 : decide ((0 : Int) < (text.size : Int)) = true := decide_eq_true (by omega)
            have hz : Hid (Z = false) := by show Z = false; rw [← hZ.out, decide_eq_true n0, decide_eq_true n1, decide_eq_true m0, decide_eq_true m1, decide_eq_false t0]; rfl
            clear hZ
            go_wp2_with fail
            go_ret
            rw [hz.out]
            exact ⟨rfl, hb2.out⟩
        · have dm1 : decide ((0 : Int) < mat) = true := decide_eq_true (by omega)
          have hz : Hid (Z = false) := by show Z = false; rw [← hZ.out, decide_eq_true n0, decide_eq_true n1, decide_eq_true m0, decide_eq_false m1]; rfl
          clear hZ
          go_wp2_with fail
          go_ret
          rw [hz.out]
          exact ⟨rfl, hb2.out⟩
      · have dm0 : decide (mat < 0) = true := decide_eq_true (by omega)
        have hz : Hid (Z = false) := by show Z = false; rw [← hZ.out, decide_eq_true n0, decide_eq_true n1, decide_eq_false m0]; rfl
        clear hZ
        go_wp2_with fail
        go_ret
        rw [hz.out]
        exact ⟨rfl, hb2.out⟩
    · have dn1 : decide ((999999999 : Int) < num) = true := decide_eq_true (by omega)
      have hz : Hid (Z = false) := by show Z = false; rw [← hZ.out, decide_eq_true n0, decide_eq_false n1]; rfl
      clear hZ
      go_wp2_with fail
      go_ret
      rw [hz.out]
      exact ⟨rfl, hb2.out⟩
  · have dn0 : decide (num < 0) = true := decide_eq_true (by omega)
    have hz : Hid (Z = false) := by show Z = false; rw [← hZ.out, decide_eq_false n0]; rfl
    clear hZ
    go_wp2_with fail
    go_ret
    rw [hz.out]
    exact ⟨rfl, hb2.out⟩
set_option maxHeartbeats 4000000 in
set_option maxRecDepth 20000 in
theorem implR30 (num mat : Int) (text : ByteArray) (names keys : List ByteArray) (a1 a2 a3 : Option Addr) (c1 c2 c3 nk : Nat) (w : World) (h1 : Tx w.heap.size w a1 names) (h2 : names.length ≤ 1048576) (h3 : ∀ t ∈ names, t.size ≤ 1048576) (h4 : Tx w.heap.size w a2 keys) (h5 : keys.length ≤ 1048576) (h6 : ∀ t ∈ keys, t.size ≤ 1048576) :
    Calls Try.prog 52 #[.agg #[.int .i64 30, .int .i64 num, .int .i64 mat, .string text, .slice a1 names.length c1, .slice a2 keys.length c2, .slice a3 nk c3]] w fun e w' => e = .returned (.bool (decide (0 ≤ num) && (decide (num ≤ 999999999) && (decide (0 ≤ mat) && (decide (mat ≤ 0) && (decide ((text.size : Int) ≤ 0) && ((Fn.rightT names 0 && Fn.rightT keys 0)))))))) ∧ Below w.heap.size w w' := by
  have HT1 := mkH fun (w' : World) (hb : Below w.heap.size w w') => implRightTexts a1 names c1 0 w' ((h1.below hb).mono hb.size) h2 h3
  have HT2 := mkH fun (w' : World) (hb : Below w.heap.size w w') => implRightTexts a2 keys c2 0 w' ((h4.below hb).mono hb.size) h5 h6
  clear h1 h2 h3 h4 h5 h6
  have e1 : ∀ F m, (decide (min 1 ((m : Nat) : Int) ≤ ((F : List ByteArray).length : Int)) && (decide ((F.length : Int) ≤ (m : Int)) && !(F.any fun t => !decide (t.size ≤ 1000)))) = Fn.rightT F m := fun _ _ => rfl
  simp only [e1] at HT1 HT2
  clear e1
  generalize Fn.rightT names 0 = A at *
  generalize Fn.rightT keys 0 = C at *
  obtain ⟨Z, hZ⟩ : ∃ Z, (decide (0 ≤ num) && (decide (num ≤ 999999999) && (decide (0 ≤ mat) && (decide (mat ≤ 0) && (decide ((text.size : Int) ≤ 0) && ((A && C))))))) = Z := ⟨_, rfl⟩
  rw [hZ]
  replace hZ := mkH hZ
  have hW0 : Below w.heap.size w (w.alloc (.cells #[.int .i64 30, .int .i64 num, .int .i64 mat, .string text, .slice a1 names.length c1, .slice a2 keys.length c2, .slice a3 nk c3] 44)) := (Below.refl _ _).alloc (Nat.le_refl _) _
  have hP0 : (w.alloc (.cells #[.int .i64 30, .int .i64 num, .int .i64 mat, .string text, .slice a1 names.length c1, .slice a2 keys.length c2, .slice a3 nk c3] 44)).heap[w.heap.size]? = some (.cells #[.int .i64 30, .int .i64 num, .int .i64 mat, .string text, .slice a1 names.length c1, .slice a2 keys.length c2, .slice a3 nk c3] 44 (0, 0)) := hp_allocN _ _
  have hBo := mkH (implB30 (w.alloc (.cells #[.int .i64 30, .int .i64 num, .int .i64 mat, .string text, .slice a1 names.length c1, .slice a2 keys.length c2, .slice a3 nk c3] 44)))
  have hA0 : w.heap.size < (w.alloc (.cells #[.int .i64 30, .int .i64 num, .int .i64 mat, .string text, .slice a1 names.length c1, .slice a2 keys.length c2, .slice a3 nk c3] 44)).heap.size := by simp
  go_enter Try.func52, Try.ntmps52
  go_wp2_with fail
  refine hBo.out.mono ?_
  rintro e w1 ⟨rfl, hb1⟩
  have hP1 := (hb1.block w.heap.size hA0).trans hP0
  have hbw1 := mkH (hW0.trans (hb1.mono (Nat.le_of_lt hA0)))
  have hsz1 := hb1.size
  have hl1 : w.heap.size < w1.heap.size := Nat.lt_of_lt_of_le hA0 hsz1
  have p0 : w1.cell? ⟨w.heap.size, 0, none⟩ = some (.int .i64 30) := by simp [World.cell?, hP1]
  have p1 : w1.cell? ⟨w.heap.size, 1, none⟩ = some (.int .i64 num) := by simp [World.cell?, hP1]
  have p2 : w1.cell? ⟨w.heap.size, 2, none⟩ = some (.int .i64 mat) := by simp [World.cell?, hP1]
  have p3 : w1.cell? ⟨w.heap.size, 3, none⟩ = some (.string text) := by simp [World.cell?, hP1]
  have p4 : w1.cell? ⟨w.heap.size, 4, none⟩ = some (.slice a1 names.length c1) := by simp [World.cell?, hP1]
  have p5 : w1.cell? ⟨w.heap.size, 5, none⟩ = some (.slice a2 keys.length c2) := by simp [World.cell?, hP1]
  have hne : ¬ w.heap.size = w1.heap.size := by omega
  have hne' : ¬ w1.heap.size = w.heap.size := by omega
  have hb2 := mkH (hbw1.out.alloc (o := (.cells #[.int .i64 999999999, .int .i64 0, .int .i64 0, .int .i64 0, .int .i64 0] 86)) hbw1.out.size)
  clear hBo hb1 hP1 hP0 hW0 hA0
  by_cases n0 : 0 ≤ num
  · have dn0 : decide (num < 0) = false := decide_eq_false (by omega)
    by_cases n1 : num ≤ 999999999
    · have dn1 : decide ((999999999 : Int) < num) = false := decide_eq_false (by omega)
      by_cases m0 : 0 ≤ mat
      · have dm0 : decide (mat < 0) = false := decide_eq_false (by omega)
        by_cases m1 : mat ≤ 0
        · have dm1 : decide ((0 : Int) < mat) = false := decide_eq_false (by omega)
          by_cases t0 : (text.size : Int) ≤ 0
          · have dt0 : decide ((0 : Int) < (text.size : Int)) = false := decide_eq_false (by omega)
            cases A
            · have hz : Hid (Z = false) := by show Z = false; rw [← hZ.out, decide_eq_true n0, decide_eq_true n1, decide_eq_true m0, decide_eq_true m1, decide_eq_true t0]; rfl
              clear hZ
              go_wp2_with fail
              refine ((HT1).out _ hb2.out).mono ?_
              rintro e w3 ⟨rfl, hw3⟩
              subst hw3
              go_wp2_with fail
              go_ret
              rw [hz.out]
              exact ⟨rfl, hb2.out⟩
            · have hz : Hid (Z = C) := by show Z = C; rw [← hZ.out, decide_eq_true n0, decide_eq_true n1, decide_eq_true m0, decide_eq_true m1, decide_eq_true t0]; rfl
              clear hZ
              go_wp2_with fail
              refine ((HT1).out _ hb2.out).mono ?_
              rintro e w3 ⟨rfl, hw3⟩
              subst hw3
              go_wp2_with fail
              refine ((HT2).out _ hb2.out).mono ?_
              rintro e w3 ⟨rfl, hw3⟩
              subst hw3
              go_wp2_with fail
              go_ret
              rw [hz.out]
              exact ⟨rfl, hb2.out⟩
          · have dt0 : decide ((0 : Int) < (text.size : Int)) = true := decide_eq_true (by omega)
            have hz : Hid (Z = false) := by show Z = false; rw [← hZ.out, decide_eq_true n0, decide_eq_true n1, decide_eq_true m0, decide_eq_true m1, decide_eq_false t0]; rfl
            clear hZ
            go_wp2_with fail
            go_ret
            rw [hz.out]
            exact ⟨rfl, hb2.out⟩
        · have dm1 : decide ((0 : Int) < mat) = true := decide_eq_true (by omega)
          have hz : Hid (Z = false) := by show Z = false; rw [← hZ.out, decide_eq_true n0, decide_eq_true n1, decide_eq_true m0, decide_eq_false m1]; rfl
          clear hZ
          go_wp2_with fail
          go_ret
          rw [hz.out]
          exact ⟨rfl, hb2.out⟩
      · have dm0 : decide (mat < 0) = true := decide_eq_true (by omega)
        have hz : Hid (Z = false) := by show Z = false; rw [← hZ.out, decide_eq_true n0, decide_eq_true n1, decide_eq_false m0]; rfl
        clear hZ
        go_wp2_with fail
        go_ret
        rw [hz.out]
        exact ⟨rfl, hb2.out⟩
    · have dn1 : decide ((999999999 : Int) < num) = true := decide_eq_true (by omega)
      have hz : Hid (Z = false) := by show Z = false; rw [← hZ.out, decide_eq_true n0, decide_eq_false n1]; rfl
      clear hZ
      go_wp2_with fail
      go_ret
      rw [hz.out]
      exact ⟨rfl, hb2.out⟩
  · have dn0 : decide (num < 0) = true := decide_eq_true (by omega)
    have hz : Hid (Z = false) := by show Z = false; rw [← hZ.out, decide_eq_false n0]; rfl
    clear hZ
    go_wp2_with fail
    go_ret
    rw [hz.out]
    exact ⟨rfl, hb2.out⟩
set_option maxHeartbeats 4000000 in
set_option maxRecDepth 20000 in
theorem implR25 (num mat : Int) (text : ByteArray) (names keys : List ByteArray) (a1 a2 a3 : Option Addr) (c1 c2 c3 nk : Nat) (w : World) (h1 : Tx w.heap.size w a1 names) (h2 : names.length ≤ 1048576) (h3 : ∀ t ∈ names, t.size ≤ 1048576) (h4 : Tx w.heap.size w a2 keys) (h5 : keys.length ≤ 1048576) (h6 : ∀ t ∈ keys, t.size ≤ 1048576) :
    Calls Try.prog 52 #[.agg #[.int .i64 25, .int .i64 num, .int .i64 mat, .string text, .slice a1 names.length c1, .slice a2 keys.length c2, .slice a3 nk c3]] w fun e w' => e = .returned (.bool (decide (0 ≤ num) && (decide (num ≤ 0) && (decide (0 ≤ mat) && (decide (mat ≤ 2) && (decide ((text.size : Int) ≤ 0) && ((Fn.rightT names 100 && Fn.rightT keys 100)))))))) ∧ Below w.heap.size w w' := by
  have HT1 := mkH fun (w' : World) (hb : Below w.heap.size w w') => implRightTexts a1 names c1 100 w' ((h1.below hb).mono hb.size) h2 h3
  have HT2 := mkH fun (w' : World) (hb : Below w.heap.size w w') => implRightTexts a2 keys c2 100 w' ((h4.below hb).mono hb.size) h5 h6
  clear h1 h2 h3 h4 h5 h6
  have e1 : ∀ F m, (decide (min 1 ((m : Nat) : Int) ≤ ((F : List ByteArray).length : Int)) && (decide ((F.length : Int) ≤ (m : Int)) && !(F.any fun t => !decide (t.size ≤ 1000)))) = Fn.rightT F m := fun _ _ => rfl
  simp only [e1] at HT1 HT2
  clear e1
  generalize Fn.rightT names 100 = A at *
  generalize Fn.rightT keys 100 = C at *
  obtain ⟨Z, hZ⟩ : ∃ Z, (decide (0 ≤ num) && (decide (num ≤ 0) && (decide (0 ≤ mat) && (decide (mat ≤ 2) && (decide ((text.size : Int) ≤ 0) && ((A && C))))))) = Z := ⟨_, rfl⟩
  rw [hZ]
  replace hZ := mkH hZ
  have hW0 : Below w.heap.size w (w.alloc (.cells #[.int .i64 25, .int .i64 num, .int .i64 mat, .string text, .slice a1 names.length c1, .slice a2 keys.length c2, .slice a3 nk c3] 44)) := (Below.refl _ _).alloc (Nat.le_refl _) _
  have hP0 : (w.alloc (.cells #[.int .i64 25, .int .i64 num, .int .i64 mat, .string text, .slice a1 names.length c1, .slice a2 keys.length c2, .slice a3 nk c3] 44)).heap[w.heap.size]? = some (.cells #[.int .i64 25, .int .i64 num, .int .i64 mat, .string text, .slice a1 names.length c1, .slice a2 keys.length c2, .slice a3 nk c3] 44 (0, 0)) := hp_allocN _ _
  have hBo := mkH (implB25 (w.alloc (.cells #[.int .i64 25, .int .i64 num, .int .i64 mat, .string text, .slice a1 names.length c1, .slice a2 keys.length c2, .slice a3 nk c3] 44)))
  have hA0 : w.heap.size < (w.alloc (.cells #[.int .i64 25, .int .i64 num, .int .i64 mat, .string text, .slice a1 names.length c1, .slice a2 keys.length c2, .slice a3 nk c3] 44)).heap.size := by simp
  go_enter Try.func52, Try.ntmps52
  go_wp2_with fail
  refine hBo.out.mono ?_
  rintro e w1 ⟨rfl, hb1⟩
  have hP1 := (hb1.block w.heap.size hA0).trans hP0
  have hbw1 := mkH (hW0.trans (hb1.mono (Nat.le_of_lt hA0)))
  have hsz1 := hb1.size
  have hl1 : w.heap.size < w1.heap.size := Nat.lt_of_lt_of_le hA0 hsz1
  have p0 : w1.cell? ⟨w.heap.size, 0, none⟩ = some (.int .i64 25) := by simp [World.cell?, hP1]
  have p1 : w1.cell? ⟨w.heap.size, 1, none⟩ = some (.int .i64 num) := by simp [World.cell?, hP1]
  have p2 : w1.cell? ⟨w.heap.size, 2, none⟩ = some (.int .i64 mat) := by simp [World.cell?, hP1]
  have p3 : w1.cell? ⟨w.heap.size, 3, none⟩ = some (.string text) := by simp [World.cell?, hP1]
  have p4 : w1.cell? ⟨w.heap.size, 4, none⟩ = some (.slice a1 names.length c1) := by simp [World.cell?, hP1]
  have p5 : w1.cell? ⟨w.heap.size, 5, none⟩ = some (.slice a2 keys.length c2) := by simp [World.cell?, hP1]
  have hne : ¬ w.heap.size = w1.heap.size := by omega
  have hne' : ¬ w1.heap.size = w.heap.size := by omega
  have hb2 := mkH (hbw1.out.alloc (o := (.cells #[.int .i64 0, .int .i64 2, .int .i64 0, .int .i64 100, .int .i64 100] 86)) hbw1.out.size)
  clear hBo hb1 hP1 hP0 hW0 hA0
  by_cases n0 : 0 ≤ num
  · have dn0 : decide (num < 0) = false := decide_eq_false (by omega)
    by_cases n1 : num ≤ 0
    · have dn1 : decide ((0 : Int) < num) = false := decide_eq_false (by omega)
      by_cases m0 : 0 ≤ mat
      · have dm0 : decide (mat < 0) = false := decide_eq_false (by omega)
        by_cases m1 : mat ≤ 2
        · have dm1 : decide ((2 : Int) < mat) = false := decide_eq_false (by omega)
          by_cases t0 : (text.size : Int) ≤ 0
          · have dt0 : decide ((0 : Int) < (text.size : Int)) = false := decide_eq_false (by omega)
            cases A
            · have hz : Hid (Z = false) := by show Z = false; rw [← hZ.out, decide_eq_true n0, decide_eq_true n1, decide_eq_true m0, decide_eq_true m1, decide_eq_true t0]; rfl
              clear hZ
              go_wp2_with fail
              refine ((HT1).out _ hb2.out).mono ?_
              rintro e w3 ⟨rfl, hw3⟩
              subst hw3
              go_wp2_with fail
              go_ret
              rw [hz.out]
              exact ⟨rfl, hb2.out⟩
            · have hz : Hid (Z = C) := by show Z = C; rw [← hZ.out, decide_eq_true n0, decide_eq_true n1, decide_eq_true m0, decide_eq_true m1, decide_eq_true t0]; rfl
              clear hZ
              go_wp2_with fail
              refine ((HT1).out _ hb2.out).mono ?_
              rintro e w3 ⟨rfl, hw3⟩
              subst hw3
              go_wp2_with fail
              refine ((HT2).out _ hb2.out).mono ?_
              rintro e w3 ⟨rfl, hw3⟩
              subst hw3
              go_wp2_with fail
              go_ret
              rw [hz.out]
              exact ⟨rfl, hb2.out⟩
          · have dt0 : decide ((0 : Int) < (text.size : Int)) = true := decide_eq_true (by omega)
            have hz : Hid (Z = false) := by show Z = false; rw [← hZ.out, decide_eq_true n0, decide_eq_true n1, decide_eq_true m0, decide_eq_true m1, decide_eq_false t0]; rfl
            clear hZ
            go_wp2_with fail
            go_ret
            rw [hz.out]
            exact ⟨rfl, hb2.out⟩
        · have dm1 : decide ((2 : Int) < mat) = true := decide_eq_true (by omega)
          have hz : Hid (Z = false) := by show Z = false; rw [← hZ.out, decide_eq_true n0, decide_eq_true n1, decide_eq_true m0, decide_eq_false m1]; rfl
          clear hZ
          go_wp2_with fail
          go_ret
          rw [hz.out]
          exact ⟨rfl, hb2.out⟩
      · have dm0 : decide (mat < 0) = true := decide_eq_true (by omega)
        have hz : Hid (Z = false) := by show Z = false; rw [← hZ.out, decide_eq_true n0, decide_eq_true n1, decide_eq_false m0]; rfl
        clear hZ
        go_wp2_with fail
        go_ret
        rw [hz.out]
        exact ⟨rfl, hb2.out⟩
    · have dn1 : decide ((0 : Int) < num) = true := decide_eq_true (by omega)
      have hz : Hid (Z = false) := by show Z = false; rw [← hZ.out, decide_eq_true n0, decide_eq_false n1]; rfl
      clear hZ
      go_wp2_with fail
      go_ret
      rw [hz.out]
      exact ⟨rfl, hb2.out⟩
  · have dn0 : decide (num < 0) = true := decide_eq_true (by omega)
    have hz : Hid (Z = false) := by show Z = false; rw [← hZ.out, decide_eq_false n0]; rfl
    clear hZ
    go_wp2_with fail
    go_ret
    rw [hz.out]
    exact ⟨rfl, hb2.out⟩
set_option maxHeartbeats 4000000 in
set_option maxRecDepth 20000 in
theorem implR26 (num mat : Int) (text : ByteArray) (names keys : List ByteArray) (a1 a2 a3 : Option Addr) (c1 c2 c3 nk : Nat) (w : World) (h1 : Tx w.heap.size w a1 names) (h2 : names.length ≤ 1048576) (h3 : ∀ t ∈ names, t.size ≤ 1048576) (h4 : Tx w.heap.size w a2 keys) (h5 : keys.length ≤ 1048576) (h6 : ∀ t ∈ keys, t.size ≤ 1048576) :
    Calls Try.prog 52 #[.agg #[.int .i64 26, .int .i64 num, .int .i64 mat, .string text, .slice a1 names.length c1, .slice a2 keys.length c2, .slice a3 nk c3]] w fun e w' => e = .returned (.bool (decide (0 ≤ num) && (decide (num ≤ 0) && (decide (0 ≤ mat) && (decide (mat ≤ 2) && (decide ((text.size : Int) ≤ 0) && ((Fn.rightT names 100 && Fn.rightT keys 100)))))))) ∧ Below w.heap.size w w' := by
  have HT1 := mkH fun (w' : World) (hb : Below w.heap.size w w') => implRightTexts a1 names c1 100 w' ((h1.below hb).mono hb.size) h2 h3
  have HT2 := mkH fun (w' : World) (hb : Below w.heap.size w w') => implRightTexts a2 keys c2 100 w' ((h4.below hb).mono hb.size) h5 h6
  clear h1 h2 h3 h4 h5 h6
  have e1 : ∀ F m, (decide (min 1 ((m : Nat) : Int) ≤ ((F : List ByteArray).length : Int)) && (decide ((F.length : Int) ≤ (m : Int)) && !(F.any fun t => !decide (t.size ≤ 1000)))) = Fn.rightT F m := fun _ _ => rfl
  simp only [e1] at HT1 HT2
  clear e1
  generalize Fn.rightT names 100 = A at *
  generalize Fn.rightT keys 100 = C at *
  obtain ⟨Z, hZ⟩ : ∃ Z, (decide (0 ≤ num) && (decide (num ≤ 0) && (decide (0 ≤ mat) && (decide (mat ≤ 2) && (decide ((text.size : Int) ≤ 0) && ((A && C))))))) = Z := ⟨_, rfl⟩
  rw [hZ]
  replace hZ := mkH hZ
  have hW0 : Below w.heap.size w (w.alloc (.cells #[.int .i64 26, .int .i64 num, .int .i64 mat, .string text, .slice a1 names.length c1, .slice a2 keys.length c2, .slice a3 nk c3] 44)) := (Below.refl _ _).alloc (Nat.le_refl _) _
  have hP0 : (w.alloc (.cells #[.int .i64 26, .int .i64 num, .int .i64 mat, .string text, .slice a1 names.length c1, .slice a2 keys.length c2, .slice a3 nk c3] 44)).heap[w.heap.size]? = some (.cells #[.int .i64 26, .int .i64 num, .int .i64 mat, .string text, .slice a1 names.length c1, .slice a2 keys.length c2, .slice a3 nk c3] 44 (0, 0)) := hp_allocN _ _
  have hBo := mkH (implB26 (w.alloc (.cells #[.int .i64 26, .int .i64 num, .int .i64 mat, .string text, .slice a1 names.length c1, .slice a2 keys.length c2, .slice a3 nk c3] 44)))
  have hA0 : w.heap.size < (w.alloc (.cells #[.int .i64 26, .int .i64 num, .int .i64 mat, .string text, .slice a1 names.length c1, .slice a2 keys.length c2, .slice a3 nk c3] 44)).heap.size := by simp
  go_enter Try.func52, Try.ntmps52
  go_wp2_with fail
  refine hBo.out.mono ?_
  rintro e w1 ⟨rfl, hb1⟩
  have hP1 := (hb1.block w.heap.size hA0).trans hP0
  have hbw1 := mkH (hW0.trans (hb1.mono (Nat.le_of_lt hA0)))
  have hsz1 := hb1.size
  have hl1 : w.heap.size < w1.heap.size := Nat.lt_of_lt_of_le hA0 hsz1
  have p0 : w1.cell? ⟨w.heap.size, 0, none⟩ = some (.int .i64 26) := by simp [World.cell?, hP1]
  have p1 : w1.cell? ⟨w.heap.size, 1, none⟩ = some (.int .i64 num) := by simp [World.cell?, hP1]
  have p2 : w1.cell? ⟨w.heap.size, 2, none⟩ = some (.int .i64 mat) := by simp [World.cell?, hP1]
  have p3 : w1.cell? ⟨w.heap.size, 3, none⟩ = some (.string text) := by simp [World.cell?, hP1]
  have p4 : w1.cell? ⟨w.heap.size, 4, none⟩ = some (.slice a1 names.length c1) := by simp [World.cell?, hP1]
  have p5 : w1.cell? ⟨w.heap.size, 5, none⟩ = some (.slice a2 keys.length c2) := by simp [World.cell?, hP1]
  have hne : ¬ w.heap.size = w1.heap.size := by omega
  have hne' : ¬ w1.heap.size = w.heap.size := by omega
  have hb2 := mkH (hbw1.out.alloc (o := (.cells #[.int .i64 0, .int .i64 2, .int .i64 0, .int .i64 100, .int .i64 100] 86)) hbw1.out.size)
  clear hBo hb1 hP1 hP0 hW0 hA0
  by_cases n0 : 0 ≤ num
  · have dn0 : decide (num < 0) = false := decide_eq_false (by omega)
    by_cases n1 : num ≤ 0
    · have dn1 : decide ((0 : Int) < num) = false := decide_eq_false (by omega)
      by_cases m0 : 0 ≤ mat
      · have dm0 : decide (mat < 0) = false := decide_eq_false (by omega)
        by_cases m1 : mat ≤ 2
        · have dm1 : decide ((2 : Int) < mat) = false := decide_eq_false (by omega)
          by_cases t0 : (text.size : Int) ≤ 0
          · have dt0 : decide ((0 : Int) < (text.size : Int)) = false := decide_eq_false (by omega)
            cases A
            · have hz : Hid (Z = false) := by show Z = false; rw [← hZ.out, decide_eq_true n0, decide_eq_true n1, decide_eq_true m0, decide_eq_true m1, decide_eq_true t0]; rfl
              clear hZ
              go_wp2_with fail
              refine ((HT1).out _ hb2.out).mono ?_
              rintro e w3 ⟨rfl, hw3⟩
              subst hw3
              go_wp2_with fail
              go_ret
              rw [hz.out]
              exact ⟨rfl, hb2.out⟩
            · have hz : Hid (Z = C) := by show Z = C; rw [← hZ.out, decide_eq_true n0, decide_eq_true n1, decide_eq_true m0, decide_eq_true m1, decide_eq_true t0]; rfl
              clear hZ
              go_wp2_with fail
              refine ((HT1).out _ hb2.out).mono ?_
              rintro e w3 ⟨rfl, hw3⟩
              subst hw3
              go_wp2_with fail
              refine ((HT2).out _ hb2.out).mono ?_
              rintro e w3 ⟨rfl, hw3⟩
              subst hw3
              go_wp2_with fail
              go_ret
              rw [hz.out]
              exact ⟨rfl, hb2.out⟩
          · have dt0 : decide ((0 : Int) < (text.size : Int)) = true := decide_eq_true (by omega)
            have hz : Hid (Z = false) := by show Z = false; rw [← hZ.out, decide_eq_true n0, decide_eq_true n1, decide_eq_true m0, decide_eq_true m1, decide_eq_false t0]; rfl
            clear hZ
            go_wp2_with fail
            go_ret
            rw [hz.out]
            exact ⟨rfl, hb2.out⟩
        · have dm1 : decide ((2 : Int) < mat) = true := decide_eq_true (by omega)
          have hz : Hid (Z = false) := by show Z = false; rw [← hZ.out, decide_eq_true n0, decide_eq_true n1, decide_eq_true m0, decide_eq_false m1]; rfl
          clear hZ
          go_wp2_with fail
          go_ret
          rw [hz.out]
          exact ⟨rfl, hb2.out⟩
      · have dm0 : decide (mat < 0) = true := decide_eq_true (by omega)
        have hz : Hid (Z = false) := by show Z = false; rw [← hZ.out, decide_eq_true n0, decide_eq_true n1, decide_eq_false m0]; rfl
        clear hZ
        go_wp2_with fail
        go_ret
        rw [hz.out]
        exact ⟨rfl, hb2.out⟩
    · have dn1 : decide ((0 : Int) < num) = true := decide_eq_true (by omega)
      have hz : Hid (Z = false) := by show Z = false; rw [← hZ.out, decide_eq_true n0, decide_eq_false n1]; rfl
      clear hZ
      go_wp2_with fail
      go_ret
      rw [hz.out]
      exact ⟨rfl, hb2.out⟩
  · have dn0 : decide (num < 0) = true := decide_eq_true (by omega)
    have hz : Hid (Z = false) := by show Z = false; rw [← hZ.out, decide_eq_false n0]; rfl
    clear hZ
    go_wp2_with fail
    go_ret
    rw [hz.out]
    exact ⟨rfl, hb2.out⟩
set_option maxHeartbeats 4000000 in
set_option maxRecDepth 20000 in
theorem implR27 (num mat : Int) (text : ByteArray) (names keys : List ByteArray) (a1 a2 a3 : Option Addr) (c1 c2 c3 nk : Nat) (w : World) (h1 : Tx w.heap.size w a1 names) (h2 : names.length ≤ 1048576) (h3 : ∀ t ∈ names, t.size ≤ 1048576) (h4 : Tx w.heap.size w a2 keys) (h5 : keys.length ≤ 1048576) (h6 : ∀ t ∈ keys, t.size ≤ 1048576) :
    Calls Try.prog 52 #[.agg #[.int .i64 27, .int .i64 num, .int .i64 mat, .string text, .slice a1 names.length c1, .slice a2 keys.length c2, .slice a3 nk c3]] w fun e w' => e = .returned (.bool (decide (0 ≤ num) && (decide (num ≤ 0) && (decide (0 ≤ mat) && (decide (mat ≤ 2) && (decide ((text.size : Int) ≤ 0) && ((Fn.rightT names 100 && Fn.rightT keys 100)))))))) ∧ Below w.heap.size w w' := by
  have HT1 := mkH fun (w' : World) (hb : Below w.heap.size w w') => implRightTexts a1 names c1 100 w' ((h1.below hb).mono hb.size) h2 h3
  have HT2 := mkH fun (w' : World) (hb : Below w.heap.size w w') => implRightTexts a2 keys c2 100 w' ((h4.below hb).mono hb.size) h5 h6
  clear h1 h2 h3 h4 h5 h6
  have e1 : ∀ F m, (decide (min 1 ((m : Nat) : Int) ≤ ((F : List ByteArray).length : Int)) && (decide ((F.length : Int) ≤ (m : Int)) && !(F.any fun t => !decide (t.size ≤ 1000)))) = Fn.rightT F m := fun _ _ => rfl
  simp only [e1] at HT1 HT2
  clear e1
  generalize Fn.rightT names 100 = A at *
  generalize Fn.rightT keys 100 = C at *
  obtain ⟨Z, hZ⟩ : ∃ Z, (decide (0 ≤ num) && (decide (num ≤ 0) && (decide (0 ≤ mat) && (decide (mat ≤ 2) && (decide ((text.size : Int) ≤ 0) && ((A && C))))))) = Z := ⟨_, rfl⟩
  rw [hZ]
  replace hZ := mkH hZ
  have hW0 : Below w.heap.size w (w.alloc (.cells #[.int .i64 27, .int .i64 num, .int .i64 mat, .string text, .slice a1 names.length c1, .slice a2 keys.length c2, .slice a3 nk c3] 44)) := (Below.refl _ _).alloc (Nat.le_refl _) _
  have hP0 : (w.alloc (.cells #[.int .i64 27, .int .i64 num, .int .i64 mat, .string text, .slice a1 names.length c1, .slice a2 keys.length c2, .slice a3 nk c3] 44)).heap[w.heap.size]? = some (.cells #[.int .i64 27, .int .i64 num, .int .i64 mat, .string text, .slice a1 names.length c1, .slice a2 keys.length c2, .slice a3 nk c3] 44 (0, 0)) := hp_allocN _ _
  have hBo := mkH (implB27 (w.alloc (.cells #[.int .i64 27, .int .i64 num, .int .i64 mat, .string text, .slice a1 names.length c1, .slice a2 keys.length c2, .slice a3 nk c3] 44)))
  have hA0 : w.heap.size < (w.alloc (.cells #[.int .i64 27, .int .i64 num, .int .i64 mat, .string text, .slice a1 names.length c1, .slice a2 keys.length c2, .slice a3 nk c3] 44)).heap.size := by simp
  go_enter Try.func52, Try.ntmps52
  go_wp2_with fail
  refine hBo.out.mono ?_
  rintro e w1 ⟨rfl, hb1⟩
  have hP1 := (hb1.block w.heap.size hA0).trans hP0
  have hbw1 := mkH (hW0.trans (hb1.mono (Nat.le_of_lt hA0)))
  have hsz1 := hb1.size
  have hl1 : w.heap.size < w1.heap.size := Nat.lt_of_lt_of_le hA0 hsz1
  have p0 : w1.cell? ⟨w.heap.size, 0, none⟩ = some (.int .i64 27) := by simp [World.cell?, hP1]
  have p1 : w1.cell? ⟨w.heap.size, 1, none⟩ = some (.int .i64 num) := by simp [World.cell?, hP1]
  have p2 : w1.cell? ⟨w.heap.size, 2, none⟩ = some (.int .i64 mat) := by simp [World.cell?, hP1]
  have p3 : w1.cell? ⟨w.heap.size, 3, none⟩ = some (.string text) := by simp [World.cell?, hP1]
  have p4 : w1.cell? ⟨w.heap.size, 4, none⟩ = some (.slice a1 names.length c1) := by simp [World.cell?, hP1]
  have p5 : w1.cell? ⟨w.heap.size, 5, none⟩ = some (.slice a2 keys.length c2) := by simp [World.cell?, hP1]
  have hne : ¬ w.heap.size = w1.heap.size := by omega
  have hne' : ¬ w1.heap.size = w.heap.size := by omega
  have hb2 := mkH (hbw1.out.alloc (o := (.cells #[.int .i64 0, .int .i64 2, .int .i64 0, .int .i64 100, .int .i64 100] 86)) hbw1.out.size)
  clear hBo hb1 hP1 hP0 hW0 hA0
  by_cases n0 : 0 ≤ num
  · have dn0 : decide (num < 0) = false := decide_eq_false (by omega)
    by_cases n1 : num ≤ 0
    · have dn1 : decide ((0 : Int) < num) = false := decide_eq_false (by omega)
      by_cases m0 : 0 ≤ mat
      · have dm0 : decide (mat < 0) = false := decide_eq_false (by omega)
        by_cases m1 : mat ≤ 2
        · have dm1 : decide ((2 : Int) < mat) = false := decide_eq_false (by omega)
          by_cases t0 : (text.size : Int) ≤ 0
          · have dt0 : decide ((0 : Int) < (text.size : Int)) = false := decide_eq_false (by omega)
            cases A
            · have hz : Hid (Z = false) := by show Z = false; rw [← hZ.out, decide_eq_true n0, decide_eq_true n1, decide_eq_true m0, decide_eq_true m1, decide_eq_true t0]; rfl
              clear hZ
              go_wp2_with fail
              refine ((HT1).out _ hb2.out).mono ?_
              rintro e w3 ⟨rfl, hw3⟩
              subst hw3
              go_wp2_with fail
              go_ret
              rw [hz.out]
              exact ⟨rfl, hb2.out⟩
            · have hz : Hid (Z = C) := by show Z = C; rw [← hZ.out, decide_eq_true n0, decide_eq_true n1, decide_eq_true m0, decide_eq_true m1, decide_eq_true t0]; rfl
              clear hZ
              go_wp2_with fail
              refine ((HT1).out _ hb2.out).mono ?_
              rintro e w3 ⟨rfl, hw3⟩
              subst hw3
              go_wp2_with fail
              refine ((HT2).out _ hb2.out).mono ?_
              rintro e w3 ⟨rfl, hw3⟩
              subst hw3
              go_wp2_with fail
              go_ret
              rw [hz.out]
              exact ⟨rfl, hb2.out⟩
          · have dt0 : decide ((0 : Int) < (text.size : Int)) = true := decide_eq_true (by omega)
            have hz : Hid (Z = false) := by show Z = false; rw [← hZ.out, decide_eq_true n0, decide_eq_true n1, decide_eq_true m0, decide_eq_true m1, decide_eq_false t0]; rfl
            clear hZ
            go_wp2_with fail
            go_ret
            rw [hz.out]
            exact ⟨rfl, hb2.out⟩
        · have dm1 : decide ((2 : Int) < mat) = true := decide_eq_true (by omega)
          have hz : Hid (Z = false) := by show Z = false; rw [← hZ.out, decide_eq_true n0, decide_eq_true n1, decide_eq_true m0, decide_eq_false m1]; rfl
          clear hZ
          go_wp2_with fail
          go_ret
          rw [hz.out]
          exact ⟨rfl, hb2.out⟩
      · have dm0 : decide (mat < 0) = true := decide_eq_true (by omega)
        have hz : Hid (Z = false) := by show Z = false; rw [← hZ.out, decide_eq_true n0, decide_eq_true n1, decide_eq_false m0]; rfl
        clear hZ
        go_wp2_with fail
        go_ret
        rw [hz.out]
        exact ⟨rfl, hb2.out⟩
    · have dn1 : decide ((0 : Int) < num) = true := decide_eq_true (by omega)
      have hz : Hid (Z = false) := by show Z = false; rw [← hZ.out, decide_eq_true n0, decide_eq_false n1]; rfl
      clear hZ
      go_wp2_with fail
      go_ret
      rw [hz.out]
      exact ⟨rfl, hb2.out⟩
  · have dn0 : decide (num < 0) = true := decide_eq_true (by omega)
    have hz : Hid (Z = false) := by show Z = false; rw [← hZ.out, decide_eq_false n0]; rfl
    clear hZ
    go_wp2_with fail
    go_ret
    rw [hz.out]
    exact ⟨rfl, hb2.out⟩
set_option maxHeartbeats 4000000 in
set_option maxRecDepth 20000 in
theorem implR31 (num mat : Int) (text : ByteArray) (names keys : List ByteArray) (a1 a2 a3 : Option Addr) (c1 c2 c3 nk : Nat) (w : World) (h1 : Tx w.heap.size w a1 names) (h2 : names.length ≤ 1048576) (h3 : ∀ t ∈ names, t.size ≤ 1048576) (h4 : Tx w.heap.size w a2 keys) (h5 : keys.length ≤ 1048576) (h6 : ∀ t ∈ keys, t.size ≤ 1048576) :
    Calls Try.prog 52 #[.agg #[.int .i64 31, .int .i64 num, .int .i64 mat, .string text, .slice a1 names.length c1, .slice a2 keys.length c2, .slice a3 nk c3]] w fun e w' => e = .returned (.bool (decide (0 ≤ num) && (decide (num ≤ 0) && (decide (0 ≤ mat) && (decide (mat ≤ 2) && (decide ((text.size : Int) ≤ 0) && ((Fn.rightT names 100 && Fn.rightT keys 100)))))))) ∧ Below w.heap.size w w' := by
  have HT1 := mkH fun (w' : World) (hb : Below w.heap.size w w') => implRightTexts a1 names c1 100 w' ((h1.below hb).mono hb.size) h2 h3
  have HT2 := mkH fun (w' : World) (hb : Below w.heap.size w w') => implRightTexts a2 keys c2 100 w' ((h4.below hb).mono hb.size) h5 h6
  clear h1 h2 h3 h4 h5 h6
  have e1 : ∀ F m, (decide (min 1 ((m : Nat) : Int) ≤ ((F : List ByteArray).length : Int)) && (decide ((F.length : Int) ≤ (m : Int)) && !(F.any fun t => !decide (t.size ≤ 1000)))) = Fn.rightT F m := fun _ _ => rfl
  simp only [e1] at HT1 HT2
  clear e1
  generalize Fn.rightT names 100 = A at *
  generalize Fn.rightT keys 100 = C at *
  obtain ⟨Z, hZ⟩ : ∃ Z, (decide (0 ≤ num) && (decide (num ≤ 0) && (decide (0 ≤ mat) && (decide (mat ≤ 2) && (decide ((text.size : Int) ≤ 0) && ((A && C))))))) = Z := ⟨_, rfl⟩
  rw [hZ]
  replace hZ := mkH hZ
  have hW0 : Below w.heap.size w (w.alloc (.cells #[.int .i64 31, .int .i64 num, .int .i64 mat, .string text, .slice a1 names.length c1, .slice a2 keys.length c2, .slice a3 nk c3] 44)) := (Below.refl _ _).alloc (Nat.le_refl _) _
  have hP0 : (w.alloc (.cells #[.int .i64 31, .int .i64 num, .int .i64 mat, .string text, .slice a1 names.length c1, .slice a2 keys.length c2, .slice a3 nk c3] 44)).heap[w.heap.size]? = some (.cells #[.int .i64 31, .int .i64 num, .int .i64 mat, .string text, .slice a1 names.length c1, .slice a2 keys.length c2, .slice a3 nk c3] 44 (0, 0)) := hp_allocN _ _
  have hBo := mkH (implB31 (w.alloc (.cells #[.int .i64 31, .int .i64 num, .int .i64 mat, .string text, .slice a1 names.length c1, .slice a2 keys.length c2, .slice a3 nk c3] 44)))
  have hA0 : w.heap.size < (w.alloc (.cells #[.int .i64 31, .int .i64 num, .int .i64 mat, .string text, .slice a1 names.length c1, .slice a2 keys.length c2, .slice a3 nk c3] 44)).heap.size := by simp
  go_enter Try.func52, Try.ntmps52
  go_wp2_with fail
  refine hBo.out.mono ?_
  rintro e w1 ⟨rfl, hb1⟩
  have hP1 := (hb1.block w.heap.size hA0).trans hP0
  have hbw1 := mkH (hW0.trans (hb1.mono (Nat.le_of_lt hA0)))
  have hsz1 := hb1.size
  have hl1 : w.heap.size < w1.heap.size := Nat.lt_of_lt_of_le hA0 hsz1
  have p0 : w1.cell? ⟨w.heap.size, 0, none⟩ = some (.int .i64 31) := by simp [World.cell?, hP1]
  have p1 : w1.cell? ⟨w.heap.size, 1, none⟩ = some (.int .i64 num) := by simp [World.cell?, hP1]
  have p2 : w1.cell? ⟨w.heap.size, 2, none⟩ = some (.int .i64 mat) := by simp [World.cell?, hP1]
  have p3 : w1.cell? ⟨w.heap.size, 3, none⟩ = some (.string text) := by simp [World.cell?, hP1]
  have p4 : w1.cell? ⟨w.heap.size, 4, none⟩ = some (.slice a1 names.length c1) := by simp [World.cell?, hP1]
  have p5 : w1.cell? ⟨w.heap.size, 5, none⟩ = some (.slice a2 keys.length c2) := by simp [World.cell?, hP1]
  have hne : ¬ w.heap.size = w1.heap.size := by omega
  have hne' : ¬ w1.heap.size = w.heap.size := by omega
  have hb2 := mkH (hbw1.out.alloc (o := (.cells #[.int .i64 0, .int .i64 2, .int .i64 0, .int .i64 100, .int .i64 100] 86)) hbw1.out.size)
  clear hBo hb1 hP1 hP0 hW0 hA0
  by_cases n0 : 0 ≤ num
  · have dn0 : decide (num < 0) = false := decide_eq_false (by omega)
    by_cases n1 : num ≤ 0
    · have dn1 : decide ((0 : Int) < num) = false := decide_eq_false (by omega)
      by_cases m0 : 0 ≤ mat
      · have dm0 : decide (mat < 0) = false := decide_eq_false (by omega)
        by_cases m1 : mat ≤ 2
        · have dm1 : decide ((2 : Int) < mat) = false := decide_eq_false (by omega)
          by_cases t0 : (text.size : Int) ≤ 0
          · have dt0 : decide ((0 : Int) < (text.size : Int)) = false := decide_eq_false (by omega)
            cases A
            · have hz : Hid (Z = false) := by show Z = false; rw [← hZ.out, decide_eq_true n0, decide_eq_true n1, decide_eq_true m0, decide_eq_true m1, decide_eq_true t0]; rfl
              clear hZ
              go_wp2_with fail
              refine ((HT1).out _ hb2.out).mono ?_
              rintro e w3 ⟨rfl, hw3⟩
              subst hw3
              go_wp2_with fail
              go_ret
              rw [hz.out]
              exact ⟨rfl, hb2.out⟩
            · have hz : Hid (Z = C) := by show Z = C; rw [← hZ.out, decide_eq_true n0, decide_eq_true n1, decide_eq_true m0, decide_eq_true m1, decide_eq_true t0]; rfl
              clear hZ
              go_wp2_with fail
              refine ((HT1).out _ hb2.out).mono ?_
              rintro e w3 ⟨rfl, hw3⟩
              subst hw3
              go_wp2_with fail
              refine ((HT2).out _ hb2.out).mono ?_
              rintro e w3 ⟨rfl, hw3⟩
              subst hw3
              go_wp2_with fail
              go_ret
              rw [hz.out]
              exact ⟨rfl, hb2.out⟩
          · have dt0 : decide ((0 : Int) < (text.size : Int)) = true := decide_eq_true (by omega)
            have hz : Hid (Z = false) := by show Z = false; rw [← hZ.out, decide_eq_true n0, decide_eq_true n1, decide_eq_true m0, decide_eq_true m1, decide_eq_false t0]; rfl
            clear hZ
            go_wp2_with fail
            go_ret
            rw [hz.out]
            exact ⟨rfl, hb2.out⟩
        · have dm1 : decide ((2 : Int) < mat) = true := decide_eq_true (by omega)
          have hz : Hid (Z = false) := by show Z = false; rw [← hZ.out, decide_eq_true n0, decide_eq_true n1, decide_eq_true m0, decide_eq_false m1]; rfl
          clear hZ
          go_wp2_with fail
          go_ret
          rw [hz.out]
          exact ⟨rfl, hb2.out⟩
      · have dm0 : decide (mat < 0) = true := decide_eq_true (by omega)
        have hz : Hid (Z = false) := by show Z = false; rw [← hZ.out, decide_eq_true n0, decide_eq_true n1, decide_eq_false m0]; rfl
        clear hZ
        go_wp2_with fail
        go_ret
        rw [hz.out]
        exact ⟨rfl, hb2.out⟩
    · have dn1 : decide ((0 : Int) < num) = true := decide_eq_true (by omega)
      have hz : Hid (Z = false) := by show Z = false; rw [← hZ.out, decide_eq_true n0, decide_eq_false n1]; rfl
      clear hZ
      go_wp2_with fail
      go_ret
      rw [hz.out]
      exact ⟨rfl, hb2.out⟩
  · have dn0 : decide (num < 0) = true := decide_eq_true (by omega)
    have hz : Hid (Z = false) := by show Z = false; rw [← hZ.out, decide_eq_false n0]; rfl
    clear hZ
    go_wp2_with fail
    go_ret
    rw [hz.out]
    exact ⟨rfl, hb2.out⟩
set_option maxHeartbeats 4000000 in
set_option maxRecDepth 20000 in
theorem implRno (kd : Int) (num mat : Int) (text : ByteArray) (names keys : List ByteArray) (a1 a2 a3 : Option Addr) (c1 c2 c3 nk : Nat) (w : World) (h1 : Tx w.heap.size w a1 names) (h2 : names.length ≤ 1048576) (h3 : ∀ t ∈ names, t.size ≤ 1048576) (h4 : Tx w.heap.size w a2 keys) (h5 : keys.length ≤ 1048576) (h6 : ∀ t ∈ keys, t.size ≤ 1048576) (x3 : (kd == 3) = false) (x7 : (kd == 7) = false) (x8 : (kd == 8) = false) (x9 : (kd == 9) = false) (x10 : (kd == 10) = false) (x11 : (kd == 11) = false) (x28 : (kd == 28) = false) (x29 : (kd == 29) = false) (x30 : (kd == 30) = false) (x25 : (kd == 25) = false) (x26 : (kd == 26) = false) (x27 : (kd == 27) = false) (x31 : (kd == 31) = false) :
    Calls Try.prog 52 #[.agg #[.int .i64 kd, .int .i64 num, .int .i64 mat, .string text, .slice a1 names.length c1, .slice a2 keys.length c2, .slice a3 nk c3]] w fun e w' => e = .returned (.bool (decide (0 ≤ num) && (decide (num ≤ 0) && (decide (0 ≤ mat) && (decide (mat ≤ 0) && (decide ((text.size : Int) ≤ 0) && ((Fn.rightT names 0 && Fn.rightT keys 0)))))))) ∧ Below w.heap.size w w' := by
  have HT1 := mkH fun (w' : World) (hb : Below w.heap.size w w') => implRightTexts a1 names c1 0 w' ((h1.below hb).mono hb.size) h2 h3
  have HT2 := mkH fun (w' : World) (hb : Below w.heap.size w w') => implRightTexts a2 keys c2 0 w' ((h4.below hb).mono hb.size) h5 h6
  clear h1 h2 h3 h4 h5 h6
  have e1 : ∀ F m, (decide (min 1 ((m : Nat) : Int) ≤ ((F : List ByteArray).length : Int)) && (decide ((F.length : Int) ≤ (m : Int)) && !(F.any fun t => !decide (t.size ≤ 1000)))) = Fn.rightT F m := fun _ _ => rfl
  simp only [e1] at HT1 HT2
  clear e1
  generalize Fn.rightT names 0 = A at *
  generalize Fn.rightT keys 0 = C at *
  obtain ⟨Z, hZ⟩ : ∃ Z, (decide (0 ≤ num) && (decide (num ≤ 0) && (decide (0 ≤ mat) && (decide (mat ≤ 0) && (decide ((text.size : Int) ≤ 0) && ((A && C))))))) = Z := ⟨_, rfl⟩
  rw [hZ]
  replace hZ := mkH hZ
  have hW0 : Below w.heap.size w (w.alloc (.cells #[.int .i64 kd, .int .i64 num, .int .i64 mat, .string text, .slice a1 names.length c1, .slice a2 keys.length c2, .slice a3 nk c3] 44)) := (Below.refl _ _).alloc (Nat.le_refl _) _
  have hP0 : (w.alloc (.cells #[.int .i64 kd, .int .i64 num, .int .i64 mat, .string text, .slice a1 names.length c1, .slice a2 keys.length c2, .slice a3 nk c3] 44)).heap[w.heap.size]? = some (.cells #[.int .i64 kd, .int .i64 num, .int .i64 mat, .string text, .slice a1 names.length c1, .slice a2 keys.length c2, .slice a3 nk c3] 44 (0, 0)) := hp_allocN _ _
  have hBo := mkH (implBno kd (w.alloc (.cells #[.int .i64 kd, .int .i64 num, .int .i64 mat, .string text, .slice a1 names.length c1, .slice a2 keys.length c2, .slice a3 nk c3] 44)) x3 x7 x8 x9 x10 x11 x28 x29 x30 x25 x26 x27 x31)
  have hA0 : w.heap.size < (w.alloc (.cells #[.int .i64 kd, .int .i64 num, .int .i64 mat, .string text, .slice a1 names.length c1, .slice a2 keys.length c2, .slice a3 nk c3] 44)).heap.size := by simp
  go_enter Try.func52, Try.ntmps52
  go_wp2_with fail
  refine hBo.out.mono ?_
  rintro e w1 ⟨rfl, hb1⟩
  have hP1 := (hb1.block w.heap.size hA0).trans hP0
  have hbw1 := mkH (hW0.trans (hb1.mono (Nat.le_of_lt hA0)))
  have hsz1 := hb1.size
  have hl1 : w.heap.size < w1.heap.size := Nat.lt_of_lt_of_le hA0 hsz1
  have p0 : w1.cell? ⟨w.heap.size, 0, none⟩ = some (.int .i64 kd) := by simp [World.cell?, hP1]
  have p1 : w1.cell? ⟨w.heap.size, 1, none⟩ = some (.int .i64 num) := by simp [World.cell?, hP1]
  have p2 : w1.cell? ⟨w.heap.size, 2, none⟩ = some (.int .i64 mat) := by simp [World.cell?, hP1]
  have p3 : w1.cell? ⟨w.heap.size, 3, none⟩ = some (.string text) := by simp [World.cell?, hP1]
  have p4 : w1.cell? ⟨w.heap.size, 4, none⟩ = some (.slice a1 names.length c1) := by simp [World.cell?, hP1]
  have p5 : w1.cell? ⟨w.heap.size, 5, none⟩ = some (.slice a2 keys.length c2) := by simp [World.cell?, hP1]
  have hne : ¬ w.heap.size = w1.heap.size := by omega
  have hne' : ¬ w1.heap.size = w.heap.size := by omega
  have hb2 := mkH (hbw1.out.alloc (o := (.cells #[.int .i64 0, .int .i64 0, .int .i64 0, .int .i64 0, .int .i64 0] 86)) hbw1.out.size)
  clear hBo hb1 hP1 hP0 hW0 hA0
  by_cases n0 : 0 ≤ num
  · have dn0 : decide (num < 0) = false := decide_eq_false (by omega)
    by_cases n1 : num ≤ 0
    · have dn1 : decide ((0 : Int) < num) = false := decide_eq_false (by omega)
      by_cases m0 : 0 ≤ mat
      · have dm0 : decide (mat < 0) = false := decide_eq_false (by omega)
        by_cases m1 : mat ≤ 0
        · have dm1 : decide ((0 : Int) < mat) = false := decide_eq_false (by omega)
          by_cases t0 : (text.size : Int) ≤ 0
          · have dt0 : decide ((0 : Int) < (text.size : Int)) = false := decide_eq_false (by omega)
            cases A
            · have hz : Hid (Z = false) := by show Z = false; rw [← hZ.out, decide_eq_true n0, decide_eq_true n1, decide_eq_true m0, decide_eq_true m1, decide_eq_true t0]; rfl
              clear hZ
              go_wp2_with fail
              refine ((HT1).out _ hb2.out).mono ?_
              rintro e w3 ⟨rfl, hw3⟩
              subst hw3
              go_wp2_with fail
              go_ret
              rw [hz.out]
              exact ⟨rfl, hb2.out⟩
            · have hz : Hid (Z = C) := by show Z = C; rw [← hZ.out, decide_eq_true n0, decide_eq_true n1, decide_eq_true m0, decide_eq_true m1, decide_eq_true t0]; rfl
              clear hZ
              go_wp2_with fail
              refine ((HT1).out _ hb2.out).mono ?_
              rintro e w3 ⟨rfl, hw3⟩
              subst hw3
              go_wp2_with fail
              refine ((HT2).out _ hb2.out).mono ?_
              rintro e w3 ⟨rfl, hw3⟩
              subst hw3
              go_wp2_with fail
              go_ret
              rw [hz.out]
              exact ⟨rfl, hb2.out⟩
          · have dt0 : decide ((0 : Int) < (text.size : Int)) = true := decide_eq_true (by omega)
            have hz : Hid (Z = false) := by show Z = false; rw [← hZ.out, decide_eq_true n0, decide_eq_true n1, decide_eq_true m0, decide_eq_true m1, decide_eq_false t0]; rfl
            clear hZ
            go_wp2_with fail
            go_ret
            rw [hz.out]
            exact ⟨rfl, hb2.out⟩
        · have dm1 : decide ((0 : Int) < mat) = true := decide_eq_true (by omega)
          have hz : Hid (Z = false) := by show Z = false; rw [← hZ.out, decide_eq_true n0, decide_eq_true n1, decide_eq_true m0, decide_eq_false m1]; rfl
          clear hZ
          go_wp2_with fail
          go_ret
          rw [hz.out]
          exact ⟨rfl, hb2.out⟩
      · have dm0 : decide (mat < 0) = true := decide_eq_true (by omega)
        have hz : Hid (Z = false) := by show Z = false; rw [← hZ.out, decide_eq_true n0, decide_eq_true n1, decide_eq_false m0]; rfl
        clear hZ
        go_wp2_with fail
        go_ret
        rw [hz.out]
        exact ⟨rfl, hb2.out⟩
    · have dn1 : decide ((0 : Int) < num) = true := decide_eq_true (by omega)
      have hz : Hid (Z = false) := by show Z = false; rw [← hZ.out, decide_eq_true n0, decide_eq_false n1]; rfl
      clear hZ
      go_wp2_with fail
      go_ret
      rw [hz.out]
      exact ⟨rfl, hb2.out⟩
  · have dn0 : decide (num < 0) = true := decide_eq_true (by omega)
    have hz : Hid (Z = false) := by show Z = false; rw [← hZ.out, decide_eq_false n0]; rfl
    clear hZ
    go_wp2_with fail
    go_ret
    rw [hz.out]
    exact ⟨rfl, hb2.out⟩
end Go.Proofs.Ytonnmbkfjiddnaa
