
/- The specification's Chance. -/
import Derived.Test.YtgmjbgnjmpllmaaScoreTable
namespace Go.Proofs.Ytgmjbgnjmpllmaa
open Go.RowKit Go.Lib Go.Maps
namespace Sc
/-- How many words at the beginning are less. -/
def place (t : ByteArray) : List Wc → Nat
  | [] => 0
  | c :: r => if Op.bytesLess c.word.toList t.toList = true then place t r + 1 else 0
theorem place_le (t : ByteArray) : ∀ F, place t F ≤ F.length
  | [] => Nat.le_refl _
  | c :: r => by
    unfold place
    have := place_le t r
    split
    · simp; omega
    · simp
theorem place_step (t : ByteArray) (F : List Wc) (k : Nat) (h : k < F.length) : place t (F.drop k) = if Op.bytesLess F[k].word.toList t.toList = true then place t (F.drop (k + 1)) + 1 else 0 := by
  rw [List.drop_eq_getElem_cons h, place]
def chanceOf (g b : Int) (c : Wc) : Int :=
  if c.good + c.bad < 3 ∨ c.bad * g + c.good * b = 0 then 50 else
  let q := 100 * (c.bad * g) / (c.bad * g + c.good * b)
  if q < 1 then 1 else if 99 < q then 99 else q
def chanceAt (g b : Int) (F : List Wc) (t : ByteArray) : Int := match F[place t F]? with
  | some c => if c.word.toList = t.toList then chanceOf g b c else 50
  | none => 50
def chance (g b : Int) (F : List Wc) (t : ByteArray) : Int := if okT g b F = true then (if t.size ≤ 20 then chanceAt g b F t else 50) else 50
theorem rows_at (g b : Int) : ∀ (F : List Wc) (p : Option ByteArray), rows g b p F = true → ∀ c ∈ F, (0 ≤ c.good ∧ c.good ≤ g) ∧ (0 ≤ c.bad ∧ c.bad ≤ b)
  | [], _, _, c, hc => by cases hc
  | a :: r, p, h, c, hc => by
    rw [rows, Bool.and_eq_true] at h
    rcases List.mem_cons.1 hc with rfl | hc
    · have h1 := h.1
      unfold okRow at h1
      simp only [Bool.and_eq_true, decide_eq_true_eq] at h1
      exact ⟨⟨h1.2.2.1, h1.2.2.2.1⟩, ⟨h1.2.2.2.2.1, h1.2.2.2.2.2.1⟩⟩
    · exact rows_at g b r _ h.2 c hc
theorem okT_at (g b : Int) (F : List Wc) (h : okT g b F = true) : (0 ≤ g ∧ g ≤ 1000000) ∧ (0 ≤ b ∧ b ≤ 1000000) ∧ F.length ≤ 1000 ∧ ∀ c ∈ F, (0 ≤ c.good ∧ c.good ≤ g) ∧ (0 ≤ c.bad ∧ c.bad ≤ b) := by
  unfold okT at h
  simp only [Bool.and_eq_true, decide_eq_true_eq] at h
  exact ⟨⟨h.1, h.2.1⟩, ⟨h.2.2.1, h.2.2.2.1⟩, h.2.2.2.2.1, rows_at g b F none h.2.2.2.2.2⟩
end Sc
set_option maxHeartbeats 2000000 in
set_option maxRecDepth 20000 in
theorem specPlace (g b : Int) (o : Option Addr) (F : List Wc) (cap : Nat) (t : ByteArray) (w : World) (hF : Wcs w.heap.size w o F) (hlF : F.length ≤ 1048576) :
    Calls Try.prog 19 #[tbV g b (.slice o F.length cap), .string t] w fun e w' => e = .returned (.int .i64 (Sc.place t F)) ∧ Below w.heap.size w w' := by
  have HF := mkHw hF
  clear hF
  unfold tbV
  obtain ⟨P, hP⟩ : ∃ P, Sc.place t F = P := ⟨_, rfl⟩
  rw [hP]
  have HP : Hid (0 + Sc.place t (F.drop 0) = P) := by rw [List.drop_zero, Nat.zero_add]; exact hP
  have hbA : Below w.heap.size w (w.alloc (.cells #[.int .i64 g, .int .i64 b, .slice o F.length cap] 29)) := (Below.refl _ _).alloc (Nat.le_refl _) _
  obtain ⟨W, hW⟩ : ∃ W, W = w.alloc (.cells #[.int .i64 g, .int .i64 b, .slice o F.length cap] 29) := ⟨_, rfl⟩
  have t2 : W.cell? ⟨w.heap.size, 2, none⟩ = some (.slice o F.length cap) := by rw [hW]; simp
  rw [← hW] at hbA
  have HW := mkHw hW
  clear hW hP
  go_enter Try.func19, Try.ntmps19
  go_wp2
  rw [← HW.out]
  clear HW
  go_loopw [5] (fun iv wr => ∃ (i : Nat), i ≤ F.length ∧ iv = .int .i64 i ∧ Hid (i + Sc.place t (F.drop i) = P) ∧ wr = W) (fun iv _ => F.length - (Lib.intOf iv).toNat)
  case atStart => exact ⟨0, Nat.zero_le _, rfl, HP, rfl⟩
  case round =>
    clear HP
    obtain ⟨i, hi, rfl, hz, hWr⟩ := hrel
    have hWr' : wr = W := hWr
    clear hWr
    subst hWr'
    by_cases hlt : i < F.length
    · obtain ⟨a, rfl, ha, hA⟩ := (HF.out.below hbA) i hlt
      have c0 := hA.c0
      have hz1 := hz.out
      rw [Sc.place_step t F i hlt] at hz1
      replace hz1 := mkHw hz1
      clear hA hz
      generalize F[i].word = n at *
      by_cases hl : Op.bytesLess n.toList t.toList = true
      · have hr : Hid (i + 1 + Sc.place t (F.drop (i + 1)) = P) := by
          show _ = P
          rw [← hz1.out, if_pos hl]
          omega
        clear hz1
        go_wp2
        go_roundw
        case rel => exact ⟨i + 1, by omega, by go_num, hr, trivial⟩
        case measure => simp [Lib.intOf]; omega
      · have hr : Hid (P = i) := by
          show P = i
          rw [← hz1.out, if_neg hl]
          rfl
        have hl' : Op.bytesLess n.toList t.toList = false := by simpa only [Bool.not_eq_true] using hl
        clear hz1 hl
        go_wp2
        go_ret
        rw [hr.out]
        exact ⟨rfl, hbA⟩
    · have hr : Hid (P = i) := by
        show P = i
        have := hz.out
        rw [List.drop_eq_nil_of_le (by omega), Sc.place] at this
        omega
      go_wp2
      go_ret
      rw [hr.out]
      exact ⟨rfl, hbA⟩
set_option maxHeartbeats 4000000 in
set_option maxRecDepth 20000 in
theorem specChanceAt (g b : Int) (o : Option Addr) (F : List Wc) (cap : Nat) (t : ByteArray) (w : World) (hF : Wcs w.heap.size w o F) (hok : Sc.okT g b F = true) :
    Calls Try.prog 11 #[tbV g b (.slice o F.length cap), .string t] w fun e w' => e = .returned (.int .i64 (Sc.chanceAt g b F t)) ∧ Below w.heap.size w w' := by
  obtain ⟨⟨g0, g1⟩, ⟨b0, b1⟩, l1, hrow⟩ := Sc.okT_at g b F hok
  have HF := mkHw hF
  have Hrow := mkHw hrow
  clear hF hrow hok
  obtain ⟨Z, hZ⟩ : ∃ Z, Sc.chanceAt g b F t = Z := ⟨_, rfl⟩
  rw [hZ]
  unfold Sc.chanceAt at hZ
  have hbA : Below w.heap.size w (w.alloc (.cells #[.int .i64 g, .int .i64 b, .slice o F.length cap] 29)) := (Below.refl _ _).alloc (Nat.le_refl _) _
  obtain ⟨W, hW⟩ : ∃ W, W = w.alloc (.cells #[.int .i64 g, .int .i64 b, .slice o F.length cap] 29) := ⟨_, rfl⟩
  rw [← hW] at hbA
  have t0 : W.cell? ⟨w.heap.size, 0, none⟩ = some (.int .i64 g) := by rw [hW]; simp
  have t1 : W.cell? ⟨w.heap.size, 1, none⟩ = some (.int .i64 b) := by rw [hW]; simp
  have t2 : W.cell? ⟨w.heap.size, 2, none⟩ = some (.slice o F.length cap) := by rw [hW]; simp
  have hWs : w.heap.size < W.heap.size := by rw [hW]; simp
  have cP := mkHw (specPlace g b o F cap t W ((HF.out.below hbA).mono hbA.size) (by omega))
  have hPl := Sc.place_le t F
  have HW := mkHw hW
  clear hW
  unfold tbV at cP ⊢
  generalize Sc.place t F = P at *
  go_enter Try.func11, Try.ntmps11
  go_wp2_with fail
  rw [← HW.out]
  clear HW
  refine cP.out.mono ?_
  rintro e w1 ⟨rfl, hb1⟩
  clear cP
  have r0 := (hb1.cell (p := ⟨w.heap.size, 0, none⟩) hWs).trans t0
  have r1 := (hb1.cell (p := ⟨w.heap.size, 1, none⟩) hWs).trans t1
  have r2 := (hb1.cell (p := ⟨w.heap.size, 2, none⟩) hWs).trans t2
  have hbB := hbA.trans (hb1.mono (Nat.le_of_lt hWs))
  clear t0 t1 t2
  by_cases hlt : P < F.length
  · obtain ⟨a, rfl, ha, hA⟩ := (HF.out.below hbB) P hlt
    have c0 := hA.c0
    have c1 := hA.c1
    have c2 := hA.c2
    obtain ⟨⟨n0, n1⟩, ⟨n2, n3⟩⟩ := Hrow.out F[P] (List.getElem_mem hlt)
    rw [List.getElem?_eq_getElem hlt] at hZ
    dsimp only at hZ
    have x1 : ((P : Int) == (F.length : Int)) = false := by rw [beq_eq_false_iff_ne]; omega
    have hs1 : w.heap.size < w1.heap.size := Nat.lt_of_lt_of_le hWs hb1.size
    clear hA
    generalize F[P] = n at *
    by_cases hw : n.word.toList = t.toList
    · rw [if_pos hw] at hZ
      have x2 : (n.word.toList == t.toList) = true := by rw [beq_iff_eq]; exact hw
      have x3 : (n.word.toList != t.toList) = false := by rw [bne, x2]; rfl
      unfold Sc.chanceOf at hZ
      obtain ⟨bd, hbd⟩ : ∃ bd, n.bad * g = bd := ⟨_, rfl⟩
      obtain ⟨gd, hgd⟩ : ∃ gd, n.good * b = gd := ⟨_, rfl⟩
      have bd0 : 0 ≤ bd := by rw [← hbd]; exact Int.mul_nonneg n2 g0
      have gd0 : 0 ≤ gd := by rw [← hgd]; exact Int.mul_nonneg n0 b0
      have bd1 : bd ≤ 1000000 * 1000000 := by rw [← hbd]; exact Int.le_trans (Int.mul_le_mul_of_nonneg_right (show n.bad ≤ 1000000 by omega) g0) (Int.mul_le_mul_of_nonneg_left g1 (by omega))
      have gd1 : gd ≤ 1000000 * 1000000 := by rw [← hgd]; exact Int.le_trans (Int.mul_le_mul_of_nonneg_right (show n.good ≤ 1000000 by omega) b0) (Int.mul_le_mul_of_nonneg_left b1 (by omega))
      rw [hbd, hgd] at hZ
      have y1 : IntKind.i64.wrap (n.bad * g) = bd := by rw [hbd, wrap_inW _ (by omega) (by omega)]
      have y2 : IntKind.i64.wrap (n.good * b) = gd := by rw [hgd, wrap_inW _ (by omega) (by omega)]
      have y3 : IntKind.i64.wrap (n.good + n.bad) = n.good + n.bad := wrap_inW _ (by omega) (by omega)
      have y4 : IntKind.i64.wrap (bd + gd) = bd + gd := wrap_inW _ (by omega) (by omega)
      have y5 : IntKind.i64.wrap (100 * bd) = 100 * bd := wrap_inW _ (by omega) (by omega)
      replace hbd := mkHw hbd
      replace hgd := mkHw hgd
      replace hw := mkHw hw
      obtain ⟨V, hV⟩ : ∃ V, V = w1.alloc (.cells #[.string n.word, .int .i64 n.good, .int .i64 n.bad] 47) := ⟨_, rfl⟩
      have hbV : Below w1.heap.size w1 V := by rw [hV]; exact (Below.refl _ _).alloc (Nat.le_refl _) _
      have hbe := mkHw (hbB.trans (hbV.mono hbB.size))
      replace hV := mkHw hV
      by_cases h3 : n.good + n.bad < 3
      · have z1 : decide (n.good + n.bad < 3) = true := decide_eq_true h3
        rw [if_pos (.inl h3)] at hZ
        replace hZ := mkHw hZ
        replace h3 := mkHw h3
        go_wp2
        go_ret
        rw [← hZ.out, ← hV.out]
        exact ⟨rfl, hbe.out⟩
      · have z1 : decide (n.good + n.bad < 3) = false := decide_eq_false h3
        by_cases h4 : bd + gd = 0
        · have z2 : (bd + gd == 0) = true := by rw [beq_iff_eq]; exact h4
          rw [if_pos (.inr h4)] at hZ
          replace hZ := mkHw hZ
          replace h4 := mkHw h4
          go_wp2
          go_ret
          rw [← hZ.out, ← hV.out]
          exact ⟨rfl, hbe.out⟩
        · have z2 : (bd + gd == 0) = false := by rw [beq_eq_false_iff_ne]; exact h4
          rw [if_neg (by intro h; rcases h with h | h; exact h3 h; exact h4 h)] at hZ
          dsimp only at hZ
          have h5 : 0 < bd + gd := by omega
          replace h3 := mkHw h3
          replace h4 := mkHw h4
          by_cases h6 : 100 * bd / (bd + gd) < 1
          · have z3 : decide (100 * bd / (bd + gd) < 1) = true := decide_eq_true h6
            rw [if_pos h6] at hZ
            replace hZ := mkHw hZ
            replace h6 := mkHw h6
            go_wp2
            go_ret
            rw [← hZ.out, ← hV.out]
            exact ⟨rfl, hbe.out⟩
          · have z3 : decide (100 * bd / (bd + gd) < 1) = false := decide_eq_false h6
            rw [if_neg h6] at hZ
            by_cases h7 : 99 < 100 * bd / (bd + gd)
            · have z4 : decide (99 < 100 * bd / (bd + gd)) = true := decide_eq_true h7
              rw [if_pos h7] at hZ
              replace hZ := mkHw hZ
              replace h6 := mkHw h6
              replace h7 := mkHw h7
              go_wp2
              go_ret
              rw [← hZ.out, ← hV.out]
              exact ⟨rfl, hbe.out⟩
            · have z4 : decide (99 < 100 * bd / (bd + gd)) = false := decide_eq_false h7
              rw [if_neg h7] at hZ
              replace hZ := mkHw hZ
              replace h6 := mkHw h6
              replace h7 := mkHw h7
              go_wp2
              go_ret
              rw [← hZ.out, ← hV.out]
              exact ⟨rfl, hbe.out⟩
    · rw [if_neg hw] at hZ
      have x2 : (n.word.toList == t.toList) = false := by rw [beq_eq_false_iff_ne]; exact hw
      have x3 : (n.word.toList != t.toList) = true := by rw [bne, x2]; rfl
      replace hZ := mkHw hZ
      clear hw
      go_wp2
      go_ret
      rw [← hZ.out]
      exact ⟨rfl, hbB⟩
  · have x1 : ((P : Int) == (F.length : Int)) = true := by rw [beq_iff_eq]; omega
    rw [List.getElem?_eq_none (by omega)] at hZ
    replace hZ := mkHw hZ
    go_wp2
    go_ret
    rw [← hZ.out]
    exact ⟨rfl, hbB⟩
set_option maxHeartbeats 2000000 in
set_option maxRecDepth 20000 in
theorem specChance (g b : Int) (o : Option Addr) (F : List Wc) (cap : Nat) (t : ByteArray) (w : World) (hF : Wcs w.heap.size w o F) (hlF : F.length ≤ 1048576) (hfit : ∀ c ∈ F, c.word.size ≤ 1048576) (ht : t.size ≤ 1048576) :
    Calls Try.prog 5 #[tbV g b (.slice o F.length cap), .string t] w fun e w' => e = .returned (.int .i64 (Sc.chance g b F t)) ∧ Below w.heap.size w w' := by
  obtain ⟨Z, hZ⟩ : ∃ Z, Sc.chance g b F t = Z := ⟨_, rfl⟩
  rw [hZ]
  unfold Sc.chance at hZ
  have hbA : Below w.heap.size w (w.alloc (.cells #[.int .i64 g, .int .i64 b, .slice o F.length cap] 29)) := (Below.refl _ _).alloc (Nat.le_refl _) _
  obtain ⟨W, hW⟩ : ∃ W, W = w.alloc (.cells #[.int .i64 g, .int .i64 b, .slice o F.length cap] 29) := ⟨_, rfl⟩
  rw [← hW] at hbA
  have t0 : W.cell? ⟨w.heap.size, 0, none⟩ = some (.int .i64 g) := by rw [hW]; simp
  have t1 : W.cell? ⟨w.heap.size, 1, none⟩ = some (.int .i64 b) := by rw [hW]; simp
  have t2 : W.cell? ⟨w.heap.size, 2, none⟩ = some (.slice o F.length cap) := by rw [hW]; simp
  have hWs : w.heap.size < W.heap.size := by rw [hW]; simp
  have HF := mkHw ((hF.below hbA).mono hbA.size)
  have cT := mkHw (specTable g b o F cap W HF.out hlF hfit)
  have HW := mkHw hW
  clear hW hF hfit
  by_cases hok : Sc.okT g b F = true
  · rw [if_pos hok] at hZ
    rw [hok] at cT
    have cC := mkHw fun (w' : World) (hb : Below W.heap.size W w') => specChanceAt g b o F cap t w' ((HF.out.below hb).mono hb.size) hok
    replace hok := mkHw hok
    unfold tbV at cT cC ⊢
    rw [show Sc.code true = 0 from rfl] at cT
    go_enter Try.func5, Try.ntmps5
    go_wp2_with fail
    rw [← HW.out]
    refine cT.out.mono ?_
    rintro e w1 ⟨rfl, hb1⟩
    have r0 := (hb1.cell (p := ⟨w.heap.size, 0, none⟩) hWs).trans t0
    have r1 := (hb1.cell (p := ⟨w.heap.size, 1, none⟩) hWs).trans t1
    have r2 := (hb1.cell (p := ⟨w.heap.size, 2, none⟩) hWs).trans t2
    clear t0 t1 t2 cT HW
    by_cases hl : t.size ≤ 20
    · rw [if_pos hl] at hZ
      have x1 : decide ((20 : Int) < (t.size : Int)) = false := decide_eq_false (by omega)
      rw [hZ] at cC
      replace hZ := mkHw hZ
      clear hl
      go_wp2_with fail
      refine (cC.out w1 hb1).mono ?_
      rintro e w2 ⟨rfl, hb2⟩
      have hbe := mkHw (hbA.trans ((hb1.trans (hb2.mono hb1.size)).mono (Nat.le_of_lt hWs)))
      clear cC r0 r1 r2
      go_wp2
      go_ret
      exact ⟨rfl, hbe.out⟩
    · rw [if_neg hl] at hZ
      have x1 : decide ((20 : Int) < (t.size : Int)) = true := decide_eq_true (by omega)
      have hbe := mkHw (hbA.trans (hb1.mono (Nat.le_of_lt hWs)))
      replace hZ := mkHw hZ
      clear hl cC
      go_wp2
      go_ret
      rw [← hZ.out]
      exact ⟨rfl, hbe.out⟩
  · rw [if_neg hok] at hZ
    have hok' : Sc.okT g b F = false := by simpa only [Bool.not_eq_true] using hok
    rw [hok', show Sc.code false = 1 from rfl] at cT
    replace hZ := mkHw hZ
    unfold tbV at cT ⊢
    clear hok hok'
    go_enter Try.func5, Try.ntmps5
    go_wp2_with fail
    rw [← HW.out]
    refine cT.out.mono ?_
    rintro e w1 ⟨rfl, hb1⟩
    have hbe := mkHw (hbA.trans (hb1.mono (Nat.le_of_lt hWs)))
    clear cT HW
    go_wp2
    go_ret
    rw [← hZ.out]
    exact ⟨rfl, hbe.out⟩
end Go.Proofs.Ytgmjbgnjmpllmaa
