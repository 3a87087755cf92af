/- The program's Chance. -/
import Derived.Test.YtgmjbgnjmpllmaaScoreTally
namespace Go.Proofs.Ytgmjbgnjmpllmaa
open Go.RowKit Go.Lib Go.Maps
set_option maxHeartbeats 1000000 in
theorem implPercent (n d : Int) (w : World) (h0 : 0 ≤ n) (h1 : n ≤ 1000000000000) (h2 : 0 < d) (h3 : d ≤ 2000000000000) :
    Calls Try.prog 25 #[.agg #[.int .i64 n, .int .i64 d]] w fun e w' => e = .returned (.int .i64 (100 * n / d)) ∧ Below w.heap.size w w' := by
  have y5 : IntKind.i64.wrap (100 * n) = 100 * n := wrap_inW _ (by omega) (by omega)
  go_enter Try.func25, Try.ntmps25
  go_wp2
  go_ret
  exact ⟨rfl, (Below.refl _ _).alloc (Nat.le_refl _) _⟩
set_option maxHeartbeats 4000000 in
set_option maxRecDepth 20000 in
theorem implChanceIn (g b : Int) (m : Nat) (n : Nat) (F : List Wc) (t : ByteArray) (w : World) (hT : Tal w m n F) (hok : Sc.okT g b F = true) (ht : t.size ≤ 1048576) :
    Calls Try.prog 15 #[tlV g b m, .string t] w fun e w' => e = .returned (.int .i64 (Sc.chanceIn g b (Sc.seen t.data.toList F))) ∧ Below w.heap.size w w' := by
  obtain ⟨⟨g0, g1⟩, ⟨b0, b1⟩, l1, hrow⟩ := Sc.okT_at g b F hok
  obtain ⟨⟨n0, n1⟩, ⟨n2, n3⟩⟩ := Sc.seen_in F (fun s => (0 ≤ s.1 ∧ s.1 ≤ b + g) ∧ (0 ≤ s.2 ∧ s.2 ≤ b + g)) t.data.toList ⟨⟨by omega, by show (0 : Int) ≤ _; omega⟩, ⟨by omega, by show (0 : Int) ≤ _; omega⟩⟩ (fun c hc => by have := hrow c hc; dsimp only; omega)
  have n1 : (Sc.seen t.data.toList F).1 ≤ 1000000 := (Sc.seen_in F (fun s => s.1 ≤ 1000000) t.data.toList (by decide) (fun c hc => by have := hrow c hc; dsimp only; omega))
  have n3 : (Sc.seen t.data.toList F).2 ≤ 1000000 := (Sc.seen_in F (fun s => s.2 ≤ 1000000) t.data.toList (by decide) (fun c hc => by have := hrow c hc; dsimp only; omega))
  clear hrow hok
  obtain ⟨W, hW⟩ : ∃ W, W = w.alloc (.cells #[.int .i64 g, .int .i64 b, .map (some m)] 40) := ⟨_, rfl⟩
  have hbA : Below w.heap.size w W := by rw [hW]; exact (Below.refl _ _).alloc (Nat.le_refl _) _
  have hlook := (hT.below hbA hT.lt).look t (by unfold maxLen; omega) (by kernel_rfl)
  obtain ⟨Z, hZ⟩ : ∃ Z, Sc.chanceIn g b (Sc.seen t.data.toList F) = Z := ⟨_, rfl⟩
  rw [hZ]
  unfold Sc.chanceIn at hZ
  generalize (Sc.seen t.data.toList F).1 = x at *
  generalize (Sc.seen t.data.toList F).2 = y at *
  unfold tlV
  rw [hW] at hlook
  have hbe : Hid (∀ o1 o2 o3, Below w.heap.size w (((w.alloc o1).alloc o2).alloc o3)) := fun o1 o2 o3 => (((Below.refl _ _).alloc (Nat.le_refl _) _).alloc (by simp) _).alloc (by simp; omega) _
  have hbf : Hid (∀ o1 o2 o3 o4, Below w.heap.size w ((((w.alloc o1).alloc o2).alloc o3).alloc o4)) := fun o1 o2 o3 o4 => (hbe.out o1 o2 o3).alloc (by simp; omega) _
  clear hW hbA
  obtain ⟨bd, hbd⟩ : ∃ bd, y * g = bd := ⟨_, rfl⟩
  obtain ⟨gd, hgd⟩ : ∃ gd, x * b = gd := ⟨_, rfl⟩
  have bd0 : 0 ≤ bd := by rw [← hbd]; exact Int.mul_nonneg n2 g0
  have gd0 : 0 ≤ gd := by rw [← hgd]; exact Int.mul_nonneg n0 b0
  have bd1 : bd ≤ 1000000 * 1000000 := by rw [← hbd]; exact Int.le_trans (Int.mul_le_mul_of_nonneg_right (show y ≤ 1000000 by omega) g0) (Int.mul_le_mul_of_nonneg_left g1 (by omega))
  have gd1 : gd ≤ 1000000 * 1000000 := by rw [← hgd]; exact Int.le_trans (Int.mul_le_mul_of_nonneg_right (show x ≤ 1000000 by omega) b0) (Int.mul_le_mul_of_nonneg_left b1 (by omega))
  rw [hbd, hgd] at hZ
  have y1 : IntKind.i64.wrap (y * g) = bd := by rw [hbd, wrap_inW _ (by omega) (by omega)]
  have y2 : IntKind.i64.wrap (x * b) = gd := by rw [hgd, wrap_inW _ (by omega) (by omega)]
  have y3 : IntKind.i64.wrap (x + y) = x + y := wrap_inW _ (by omega) (by omega)
  have y4 : IntKind.i64.wrap (bd + gd) = bd + gd := wrap_inW _ (by omega) (by omega)
  have y5 : IntKind.i64.wrap (100 * bd) = 100 * bd := wrap_inW _ (by omega) (by omega)
  replace hbd := mkHw hbd
  replace hgd := mkHw hgd
  by_cases h3 : x + y < 3
  · have z1 : decide (x + y < 3) = true := decide_eq_true h3
    rw [if_pos (.inl h3)] at hZ
    replace hZ := mkHw hZ
    replace h3 := mkHw h3
    go_enter Try.func15, Try.ntmps15
    go_wp2
    go_ret
    rw [← hZ.out]
    exact ⟨rfl, hbe.out _ _ _⟩
  · have z1 : decide (x + y < 3) = false := decide_eq_false h3
    by_cases h4 : bd + gd = 0
    · have z2 : (bd + gd == 0) = true := by rw [beq_iff_eq]; exact h4
      rw [if_pos (.inr h4)] at hZ
      replace hZ := mkHw hZ
      replace h4 := mkHw h4
      go_enter Try.func15, Try.ntmps15
      go_wp2
      go_ret
      rw [← hZ.out]
      exact ⟨rfl, hbe.out _ _ _⟩
    · have z2 : (bd + gd == 0) = false := by rw [beq_eq_false_iff_ne]; exact h4
      rw [if_neg (by intro h; rcases h with h | h; exact h3 h; exact h4 h)] at hZ
      dsimp only at hZ
      have h5 : 0 < bd + gd := by omega
      have hq : Hid (Z = min (max (100 * bd / (bd + gd)) 1) 99) := by
        show Z = _
        rw [← hZ]
        generalize 100 * bd / (bd + gd) = q
        split
        · omega
        · split <;> omega
      have cP : Hid (∀ W', Calls Try.prog 25 #[.agg #[.int .i64 bd, .int .i64 (bd + gd)]] W' fun e w' => e = .returned (.int .i64 (100 * bd / (bd + gd))) ∧ Below W'.heap.size W' w') := fun W' => implPercent bd (bd + gd) W' bd0 (by omega) h5 (by omega)
      replace h3 := mkHw h3
      replace h4 := mkHw h4
      clear hZ
      go_enter Try.func15, Try.ntmps15
      go_wp2_with fail
      refine (cP.out _).mono ?_
      rintro e w1 ⟨rfl, hb1⟩
      have hbz := mkHw ((hbe.out _ _ _).trans (hb1.mono (hbe.out _ _ _).size))
      clear cP hb1
      generalize 100 * bd / (bd + gd) = q at *
      go_wp2
      go_ret
      rw [hq.out]
      exact ⟨rfl, hbz.out⟩
set_option maxHeartbeats 4000000 in
set_option maxRecDepth 20000 in
theorem implChance (g b : Int) (o : Option Addr) (F : List Wc) (cap : Nat) (t : ByteArray) (w : World) (hF : Wcs w.heap.size w o F) (hlF : F.length ≤ 1048576) (hfit : ∀ c ∈ F, c.word.size ≤ 1048576) (ht : t.size ≤ 1048576) :
    Calls Try.prog 7 #[tbV g b (.slice o F.length cap), .string t] w fun e w' => e = .returned (.int .i64 (Sc.chance g b F t)) ∧ Below w.heap.size w w' := by
  obtain ⟨W, hW⟩ : ∃ W, W = w.alloc (.cells #[.int .i64 g, .int .i64 b, .slice o F.length cap] 29) := ⟨_, rfl⟩
  have hbA : Below w.heap.size w W := by rw [hW]; exact (Below.refl _ _).alloc (Nat.le_refl _) _
  have t0 : W.cell? ⟨w.heap.size, 0, none⟩ = some (.int .i64 g) := by rw [hW]; simp
  have t1 : W.cell? ⟨w.heap.size, 1, none⟩ = some (.int .i64 b) := by rw [hW]; simp
  have t2 : W.cell? ⟨w.heap.size, 2, none⟩ = some (.slice o F.length cap) := by rw [hW]; simp
  have hWs : w.heap.size < W.heap.size := by rw [hW]; simp
  have HF := mkHw ((hF.below hbA).mono hbA.size)
  have cT := mkHw (implTable g b o F cap W HF.out hlF hfit)
  have Hfit := mkHw hfit
  have HW := mkHw hW
  clear hW hF hfit
  unfold tbV at *
  obtain ⟨Z, hZ⟩ : ∃ Z, Sc.chance g b F t = Z := ⟨_, rfl⟩
  rw [hZ]
  go_enter Try.func7, Try.ntmps7
  go_wp2_with fail
  rw [← HW.out]
  clear HW
  refine cT.out.mono ?_
  rintro e w1 ⟨rfl, hb1⟩
  clear cT
  have hbB := hbA.trans (hb1.mono (Nat.le_of_lt hWs))
  have r0 := (hb1.cell (p := ⟨w.heap.size, 0, none⟩) hWs).trans t0
  have r1 := (hb1.cell (p := ⟨w.heap.size, 1, none⟩) hWs).trans t1
  have r2 := (hb1.cell (p := ⟨w.heap.size, 2, none⟩) hWs).trans t2
  by_cases hok : Sc.okT g b F = true
  · rw [hok]
    have hs := Sc.chance_seen g b F t hok
    rw [hs] at hZ
    have HF1 := mkHw ((HF.out.below hb1).mono hb1.size)
    have cL := mkHw (implTally g b o F cap w1 HF1.out hlF Hfit.out)
    unfold tbV tlV at cL
    replace hZ := mkHw hZ
    replace hs := mkHw hs
    replace hok := mkHw hok
    go_wp2_with fail
    refine cL.out.mono ?_
    rintro e w2 ⟨m, rfl, hT2, hb2⟩
    have cC := mkHw (implChanceIn g b m F.length F t w2 hT2 hok.out ht)
    unfold tlV at cC
    rw [hZ.out] at cC
    have hb3 := mkHw (hbB.trans (hb2.mono hbB.size))
    clear cL r0 r1 r2 t0 t1 t2 hb2 hb1
    go_wp2_with fail
    refine cC.out.mono ?_
    rintro e w3 ⟨rfl, hb4⟩
    have hb5 := mkHw (hb3.out.trans (hb4.mono hb3.out.size))
    clear cC hb4
    go_wp2
    go_ret
    exact ⟨rfl, hb5.out⟩
  · have hr : Hid (Z = 50) := by
      rw [← hZ]
      unfold Sc.chance
      rw [if_neg hok]
      rfl
    rw [Bool.not_eq_true] at hok
    rw [hok]
    clear hZ hok
    unfold Sc.code
    go_wp2
    go_ret
    rw [hr.out]
    exact ⟨rfl, hbB⟩
end Go.Proofs.Ytgmjbgnjmpllmaa
