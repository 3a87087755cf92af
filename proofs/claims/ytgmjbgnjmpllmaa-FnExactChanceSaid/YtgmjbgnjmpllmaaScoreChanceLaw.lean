
/- The law on Chance; wants a text ScoreChanceImpl with implChance, stated as specChance is. -/
import Derived.Test.YtgmjbgnjmpllmaaScoreChanceImpl
import Derived.Test.YtgmjbgnjmpllmaaCountsArg
namespace Go.Proofs.Ytgmjbgnjmpllmaa
open Go.RowKit Go.Lib Go.Maps
set_option maxHeartbeats 2000000 in
set_option maxRecDepth 20000 in
theorem chanceWalk (n d : Int) (t : ByteArray) (o : Option Addr) (F : List Wc) (cap : Nat) (w : World) (htl : t.size ≤ maxLen) (hF : Wcs w.heap.size w o F) (hlen : F.length ≤ maxLen) (hsz : ∀ f ∈ F, f.word.size ≤ maxLen) :
    Calls Try.prog 3 #[tbV n d (.slice o F.length cap), .string t] w fun e w' => e = .returned (.bool true) ∧ Below w.heap.size w w' := by
  obtain ⟨W, hW⟩ : ∃ W, W = w.alloc (.cells #[.int .i64 n, .int .i64 d, .slice o F.length cap] 24) := ⟨_, rfl⟩
  have hbA : Below w.heap.size w W := by rw [hW]; exact (Below.refl _ _).alloc (Nat.le_refl _) _
  have hWs : w.heap.size < W.heap.size := by rw [hW]; simp
  have t0 : W.cell? ⟨w.heap.size, 0, none⟩ = some (.int .i64 n) := by rw [hW]; simp
  have t1 : W.cell? ⟨w.heap.size, 1, none⟩ = some (.int .i64 d) := by rw [hW]; simp
  have t2 : W.cell? ⟨w.heap.size, 2, none⟩ = some (.slice o F.length cap) := by rw [hW]; simp
  have HF := mkHw ((hF.below hbA).mono hbA.size)
  have hS := mkHw (lawSzTable n d o F cap W HF.out hlen hsz)
  replace hW := mkHw hW
  clear hF hsz
  unfold maxLen at hlen
  unfold tbV at hS ⊢
  unfold maxLen at htl
  by_cases ht : 1048576 < t.size
  · clear hS t0 t1 t2
    go_enter Try.func3, Try.ntmps3
    go_wp2
    go_ret
    rw [← hW.out]
    exact ⟨rfl, hbA⟩
  replace ht : t.size ≤ 1048576 := by omega
  go_enter Try.func3, Try.ntmps3
  go_wp2_with fail
  rw [← hW.out]
  refine hS.out.mono ?_
  rintro e w1 ⟨r, rfl, hr, hb1⟩
  have s0 := (hb1.cell (p := ⟨w.heap.size, 0, none⟩) hWs).trans t0
  have s1 := (hb1.cell (p := ⟨w.heap.size, 1, none⟩) hWs).trans t1
  have s2 := (hb1.cell (p := ⟨w.heap.size, 2, none⟩) hWs).trans t2
  clear hS
  rcases hr.out with rfl | ⟨h0, hl, hf⟩
  · go_wp2
    go_ret
    exact ⟨rfl, hbA.trans (hb1.mono (Nat.le_of_lt hWs))⟩
  · clear hr
    replace hf := mkHw hf
    have hB1 := hb1
    have cT := mkHw (lawToTable n d o F cap w1 ((HF.out.below hB1).mono hB1.size) hl)
    unfold tbV at cT
    go_wp2_with fail
    refine cT.out.mono ?_
    rintro e w2 ⟨k2, rfl, n2, hb2⟩
    have hB2 := hB1.trans (hb2.mono hB1.size)
    clear cT s0 s1 s2
    have s0 := (hB2.cell (p := ⟨w.heap.size, 0, none⟩) hWs).trans t0
    have s1 := (hB2.cell (p := ⟨w.heap.size, 1, none⟩) hWs).trans t1
    have s2 := (hB2.cell (p := ⟨w.heap.size, 2, none⟩) hWs).trans t2
    have cS := mkHw (specChance n d (some ⟨k2, 0, none⟩) F F.length t w2 n2.out hl hf.out ht)
    unfold tbV at cS
    go_wp2_with fail
    refine cS.out.mono ?_
    rintro e w3 ⟨rfl, hb3⟩
    have hB3 := hB2.trans (hb3.mono hB2.size)
    clear cS s0 s1 s2 n2
    have s0 := (hB3.cell (p := ⟨w.heap.size, 0, none⟩) hWs).trans t0
    have s1 := (hB3.cell (p := ⟨w.heap.size, 1, none⟩) hWs).trans t1
    have s2 := (hB3.cell (p := ⟨w.heap.size, 2, none⟩) hWs).trans t2
    have cT := mkHw (lawToTable n d o F cap w3 ((HF.out.below hB3).mono hB3.size) hl)
    unfold tbV at cT
    go_wp2_with fail
    refine cT.out.mono ?_
    rintro e w4 ⟨k4, rfl, n4, hb4⟩
    have hB4 := hB3.trans (hb4.mono hB3.size)
    clear cT s0 s1 s2
    have s0 := (hB4.cell (p := ⟨w.heap.size, 0, none⟩) hWs).trans t0
    have s1 := (hB4.cell (p := ⟨w.heap.size, 1, none⟩) hWs).trans t1
    have s2 := (hB4.cell (p := ⟨w.heap.size, 2, none⟩) hWs).trans t2
    obtain ⟨V, hV⟩ : ∃ V, V = w4.alloc (.cells #[.int .i64 n, .int .i64 d, .slice (some ⟨k4, 0, none⟩) F.length F.length] 29) := ⟨_, rfl⟩
    have hbV : Below w4.heap.size w4 V := by rw [hV]; exact (Below.refl _ _).alloc (Nat.le_refl _) _
    have hVs : w4.heap.size < V.heap.size := by rw [hV]; simp
    have y0 : V.cell? ⟨w4.heap.size, 0, none⟩ = some (.int .i64 n) := by rw [hV]; simp
    have y1 : V.cell? ⟨w4.heap.size, 1, none⟩ = some (.int .i64 d) := by rw [hV]; simp
    have y2 : V.cell? ⟨w4.heap.size, 2, none⟩ = some (.slice (some ⟨k4, 0, none⟩) F.length F.length) := by rw [hV]; simp
    have hBV := hB4.trans (hbV.mono hB4.size)
    have nV := mkHw ((n4.out.below hbV).mono hbV.size)
    replace hV := mkHw hV
    clear n4
    have cI := mkHw (implChance n d (some ⟨k4, 0, none⟩) F F.length t V nV.out hl hf.out ht)
    unfold tbV at cI
    go_wp2_with fail
    rw [← hV.out]
    refine cI.out.mono ?_
    rintro e w5 ⟨rfl, hb5⟩
    have hB5 := hBV.trans (hb5.mono hBV.size)
    have n5 := mkHw ((nV.out.below hb5).mono hb5.size)
    have x0 := (hb5.cell (p := ⟨w4.heap.size, 0, none⟩) hVs).trans y0
    have x1 := (hb5.cell (p := ⟨w4.heap.size, 1, none⟩) hVs).trans y1
    have x2 := (hb5.cell (p := ⟨w4.heap.size, 2, none⟩) hVs).trans y2
    have hs5 : w4.heap.size < w5.heap.size := Nat.lt_of_lt_of_le hVs hb5.size
    clear cI s0 s1 s2 nV y0 y1 y2 hV
    have s0 := (hB5.cell (p := ⟨w.heap.size, 0, none⟩) hWs).trans t0
    have s1 := (hB5.cell (p := ⟨w.heap.size, 1, none⟩) hWs).trans t1
    have s2 := (hB5.cell (p := ⟨w.heap.size, 2, none⟩) hWs).trans t2
    generalize Sc.chance n d F t = z at *
    have z1 : (z != z) = false := by simp
    have z2 : (z == z) = true := by simp
    have cT : Hid (∀ W' : World, Below w5.heap.size w5 W' → Calls Try.prog 6 #[.agg #[.int .i64 n, .int .i64 d, .slice o F.length cap]] W' fun e w'' => ∃ k : Nat, e = .returned (.agg #[.int .i64 n, .int .i64 d, .slice (some ⟨k, 0, none⟩) F.length F.length]) ∧ Hid (Wcs w''.heap.size w'' (some ⟨k, 0, none⟩) F) ∧ Below w5.heap.size w5 w'') := fun W' hb' =>
      (lawToTable n d o F cap W' (((HF.out.below hB5).mono hB5.size |>.below hb').mono hb'.size) hl).mono fun e w'' ⟨k, e1, e2, e3⟩ => ⟨k, e1, e2, hb'.trans (e3.mono hb'.size)⟩
    have cE : Hid (∀ (W' : World) (k : Nat), Below w5.heap.size w5 W' → Wcs W'.heap.size W' (some ⟨k, 0, none⟩) F → Calls Try.prog 8 #[.agg #[.int .i64 n, .int .i64 d, .slice (some ⟨k4, 0, none⟩) F.length F.length], .agg #[.int .i64 n, .int .i64 d, .slice (some ⟨k, 0, none⟩) F.length F.length]] W' fun e w'' => e = .returned (.bool true) ∧ Below w5.heap.size w5 w'') := fun W' k hb' hk =>
      (lawEqTable n d (some ⟨k4, 0, none⟩) (some ⟨k, 0, none⟩) F F.length F.length W' ((n5.out.below hb').mono hb'.size) hk hl).mono fun e w'' ⟨e1, e2⟩ => ⟨e1, hb'.trans (e2.mono hb'.size)⟩
    have hs5w : w.heap.size < w5.heap.size := Nat.lt_of_lt_of_le hWs hB5.size
    have hb0 : Below w5.heap.size w5 w5 := Below.refl _ _
    clear n5
    go_wp2
    refine wp_region_any (by kernel_rfl) ?_
    refine wpAny_ready (rs := [0, 1]) (by kernel_rfl) (by simp) ?_
    refine AllReady.cons rfl (fun K hK => ?_) (AllReady.cons rfl (fun K hK => ?_) AllReady.nil)
    · go_simp
      refine hK _ _ ?_
      clear hK K
      go_simp
      refine wpAny_ready (rs := [1]) (by kernel_rfl) (by simp) ?_
      refine AllReady.cons rfl (fun K hK => ?_) AllReady.nil
      go_simp
      refine hK _ _ ?_
      clear hK K
      go_simp
      refine wpAny_ready (rs := [2]) (by kernel_rfl) (by simp) ?_
      refine AllReady.cons rfl (fun K hK => ?_) AllReady.nil
      go_simp
      go_wp2_with fail
      refine (cT.out _ (by first | exact hb0 | exact hb0.drew | exact hb0.drew.drew)).mono ?_
      rintro e w6 ⟨k6, rfl, n6, hb6⟩
      have v0 := (hb6.cell (p := ⟨w4.heap.size, 0, none⟩) hs5).trans x0
      have v1 := (hb6.cell (p := ⟨w4.heap.size, 1, none⟩) hs5).trans x1
      have v2 := (hb6.cell (p := ⟨w4.heap.size, 2, none⟩) hs5).trans x2
      show K _ w6
      refine hK _ _ ?_
      clear hK K
      go_simp
      refine wpAny_ready (rs := [3]) (by kernel_rfl) (by simp) ?_
      refine AllReady.cons rfl (fun K hK => ?_) AllReady.nil
      go_simp
      go_wp2_with fail
      refine (cE.out _ k6 (by first | exact hb6 | exact hb6.drew | exact hb6.drew.drew) (by first | exact n6.out | exact n6.out.below (Below.refl _ _).drew)).mono ?_
      rintro e w7 ⟨rfl, hb7⟩
      show K _ w7
      refine hK _ _ ?_
      clear hK K
      go_simp
      refine wpAny_take (i := 4) (v := .bool false) rfl (by kernel_rfl) (by kernel_rfl) (by kernel_rfl) (fun _ _ _ h => h) (Or.inl ⟨by rfl, ?_⟩) ?_
      · intro w
        go_simp
      go_simp
      refine wpAny_done (by kernel_rfl) ?_ _
      have hbe := mkHw (hbA.trans ((hB5.trans (hb7.mono hB5.size)).mono (Nat.le_of_lt hWs)))
      go_wp2
      go_ret
      exact ⟨rfl, hbe.out⟩
    · go_simp
      refine hK _ _ ?_
      clear hK K
      go_simp
      refine wpAny_ready (rs := [0, 2]) (by kernel_rfl) (by simp) ?_
      refine AllReady.cons rfl (fun K hK => ?_) (AllReady.cons rfl (fun K hK => ?_) AllReady.nil)
      · go_simp
        refine hK _ _ ?_
        clear hK K
        go_simp
        refine wpAny_ready (rs := [2]) (by kernel_rfl) (by simp) ?_
        refine AllReady.cons rfl (fun K hK => ?_) AllReady.nil
        go_simp
        go_wp2_with fail
        refine (cT.out _ (by first | exact hb0 | exact hb0.drew | exact hb0.drew.drew)).mono ?_
        rintro e w6 ⟨k6, rfl, n6, hb6⟩
        have v0 := (hb6.cell (p := ⟨w4.heap.size, 0, none⟩) hs5).trans x0
        have v1 := (hb6.cell (p := ⟨w4.heap.size, 1, none⟩) hs5).trans x1
        have v2 := (hb6.cell (p := ⟨w4.heap.size, 2, none⟩) hs5).trans x2
        show K _ w6
        refine hK _ _ ?_
        clear hK K
        go_simp
        refine wpAny_ready (rs := [3]) (by kernel_rfl) (by simp) ?_
        refine AllReady.cons rfl (fun K hK => ?_) AllReady.nil
        go_simp
        go_wp2_with fail
        refine (cE.out _ k6 (by first | exact hb6 | exact hb6.drew | exact hb6.drew.drew) (by first | exact n6.out | exact n6.out.below (Below.refl _ _).drew)).mono ?_
        rintro e w7 ⟨rfl, hb7⟩
        show K _ w7
        refine hK _ _ ?_
        clear hK K
        go_simp
        refine wpAny_take (i := 4) (v := .bool false) rfl (by kernel_rfl) (by kernel_rfl) (by kernel_rfl) (fun _ _ _ h => h) (Or.inl ⟨by rfl, ?_⟩) ?_
        · intro w
          go_simp
        go_simp
        refine wpAny_done (by kernel_rfl) ?_ _
        have hbe := mkHw (hbA.trans ((hB5.trans (hb7.mono hB5.size)).mono (Nat.le_of_lt hWs)))
        go_wp2
        go_ret
        exact ⟨rfl, hbe.out⟩
      · go_simp
        go_wp2_with fail
        refine (cT.out _ (by first | exact hb0 | exact hb0.drew | exact hb0.drew.drew)).mono ?_
        rintro e w6 ⟨k6, rfl, n6, hb6⟩
        have v0 := (hb6.cell (p := ⟨w4.heap.size, 0, none⟩) hs5).trans x0
        have v1 := (hb6.cell (p := ⟨w4.heap.size, 1, none⟩) hs5).trans x1
        have v2 := (hb6.cell (p := ⟨w4.heap.size, 2, none⟩) hs5).trans x2
        show K _ w6
        refine hK _ _ ?_
        clear hK K
        go_simp
        refine wpAny_ready (rs := [0]) (by kernel_rfl) (by simp) ?_
        refine AllReady.cons rfl (fun K hK => ?_) AllReady.nil
        go_simp
        refine hK _ _ ?_
        clear hK K
        go_simp
        refine wpAny_ready (rs := [3]) (by kernel_rfl) (by simp) ?_
        refine AllReady.cons rfl (fun K hK => ?_) AllReady.nil
        go_simp
        go_wp2_with fail
        refine (cE.out _ k6 (by first | exact hb6 | exact hb6.drew | exact hb6.drew.drew) (by first | exact n6.out | exact n6.out.below (Below.refl _ _).drew)).mono ?_
        rintro e w7 ⟨rfl, hb7⟩
        show K _ w7
        refine hK _ _ ?_
        clear hK K
        go_simp
        refine wpAny_take (i := 4) (v := .bool false) rfl (by kernel_rfl) (by kernel_rfl) (by kernel_rfl) (fun _ _ _ h => h) (Or.inl ⟨by rfl, ?_⟩) ?_
        · intro w
          go_simp
        go_simp
        refine wpAny_done (by kernel_rfl) ?_ _
        have hbe := mkHw (hbA.trans ((hB5.trans (hb7.mono hB5.size)).mono (Nat.le_of_lt hWs)))
        go_wp2
        go_ret
        exact ⟨rfl, hbe.out⟩
end Go.Proofs.Ytgmjbgnjmpllmaa
