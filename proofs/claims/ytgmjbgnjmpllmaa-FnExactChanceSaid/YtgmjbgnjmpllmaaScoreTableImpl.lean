
/- The program's TableFault. -/
import Derived.Test.YtgmjbgnjmpllmaaScoreTableImplA
import Derived.Test.YtgmjbgnjmpllmaaScoreTable
namespace Go.Proofs.Ytgmjbgnjmpllmaa
open Go.RowKit Go.Lib Go.Maps
namespace Sc
theorem okT_within (g b : Int) (F : List Wc) : okT g b F = (within g b 1000000 1000000 && (decide (F.length ≤ 1000) && rows g b none F)) := by
  unfold okT within
  simp only [Bool.and_assoc]
theorem okRow_in (g b : Int) (p : Option ByteArray) (c : Wc) : okRow g b p c = (word c.word && (within c.good c.bad g b && (!(decide (c.good = 0) && decide (c.bad = 0)) && less p c.word))) := by
  unfold okRow within
  by_cases h1 : 0 ≤ c.good
  · by_cases h2 : 0 ≤ c.bad
    · have : (c.good + c.bad == 0) = (decide (c.good = 0) && decide (c.bad = 0)) := by
        by_cases h3 : c.good = 0
        · by_cases h4 : c.bad = 0
          · simp [h3, h4]
          · simp [h3, h4]
        · have : c.good + c.bad ≠ 0 := by omega
          simp [h3, this]
      rw [this]
      cases word c.word <;> cases less p c.word <;> cases (decide (c.good = 0) && decide (c.bad = 0)) <;> simp
    · simp [h2]
  · simp [h1]
end Sc
set_option maxHeartbeats 4000000 in
set_option maxRecDepth 20000 in
theorem implTable (g b : Int) (o : Option Addr) (F : List Wc) (cap : Nat) (w : World) (hF : Wcs w.heap.size w o F) (hlF : F.length ≤ 1048576) (hfit : ∀ c ∈ F, c.word.size ≤ 1048576) :
    Calls Try.prog 13 #[tbV g b (.slice o F.length cap)] w fun e w' => e = .returned (.int .i64 (Sc.code (Sc.okT g b F))) ∧ Below w.heap.size w w' := by
  have HF := mkHw hF
  have Hfit := mkHw hfit
  clear hF hfit
  obtain ⟨Z, hZ⟩ : ∃ Z, Sc.code (Sc.okT g b F) = Z := ⟨_, rfl⟩
  rw [hZ]
  rw [Sc.okT_within] at hZ
  obtain ⟨W, hW⟩ : ∃ W, W = w.alloc (.cells #[.int .i64 g, .int .i64 b, .slice o F.length cap] 29) := ⟨_, rfl⟩
  have hbA : Below w.heap.size w W := by rw [hW]; exact (Below.refl _ _).alloc (Nat.le_refl _) _
  have t0 : W.cell? ⟨w.heap.size, 0, none⟩ = some (.int .i64 g) := by rw [hW]; simp
  have t1 : W.cell? ⟨w.heap.size, 1, none⟩ = some (.int .i64 b) := by rw [hW]; simp
  have t2 : W.cell? ⟨w.heap.size, 2, none⟩ = some (.slice o F.length cap) := by rw [hW]; simp
  have hWs : w.heap.size < W.heap.size := by rw [hW]; simp
  have HW := mkHw hW
  have cC := mkHw (implTabCounts g b (.slice o F.length cap) W)
  clear hW
  unfold tbV ctV at *
  replace hZ := mkHw hZ
  go_enter Try.func13, Try.ntmps13
  go_wp2_with fail
  rw [← HW.out]
  clear HW
  generalize hG : w.heap.size = G at *
  refine cC.out.mono ?_
  rintro e w1 ⟨rfl, hb1⟩
  obtain ⟨X, hX⟩ : ∃ X, X = w1.alloc (.cells #[.int .i64 g, .int .i64 b] 37) := ⟨_, rfl⟩
  have hbX1 : Below w1.heap.size w1 X := by rw [hX]; exact (Below.refl _ _).alloc (Nat.le_refl _) _
  have u0 : X.cell? ⟨w1.heap.size, 0, none⟩ = some (.int .i64 g) := by rw [hX]; simp
  have u1 : X.cell? ⟨w1.heap.size, 1, none⟩ = some (.int .i64 b) := by rw [hX]; simp
  have hXs : w1.heap.size < X.heap.size := by rw [hX]; simp
  have hbWX := hb1.trans (hbX1.mono hb1.size)
  have hbwX := hbA.trans (hbWX.mono (Nat.le_of_lt hWs))
  have HX := mkHw hX
  clear hX cC
  have cI := mkHw (implWithin g b 1000000 1000000 X)
  unfold ctV at cI
  go_wp2_with fail
  rw [← HX.out]
  refine cI.out.mono ?_
  rintro e w2 ⟨rfl, hb2⟩
  have hbX2 := hbwX.trans (hb2.mono (by have := hbwX.size; omega))
  have hGX : G < X.heap.size := Nat.lt_of_lt_of_le hWs hbWX.size
  have v2 := ((hb2.cell (p := ⟨G, 2, none⟩) hGX).trans ((hbWX.cell (p := ⟨G, 2, none⟩) hWs).trans t2))
  have u0' := (hb2.cell (p := ⟨w1.heap.size, 0, none⟩) hXs).trans u0
  have u1' := (hb2.cell (p := ⟨w1.heap.size, 1, none⟩) hXs).trans u1
  have hG2 : G < w2.heap.size := Nat.lt_of_lt_of_le hGX hb2.size
  have hH2 : w1.heap.size < w2.heap.size := Nat.lt_of_lt_of_le hXs hb2.size
  clear cI HX u0 u1 t0 t1 t2 hbX1 hbWX hbwX hb1 hb2 hbA hXs hWs hGX
  generalize w1.heap.size = H at *
  clear w1 W X
  cases hI : Sc.within g b 1000000 1000000
  · have hr : Hid (Z = 1) := by rw [hI] at hZ; exact hZ.out.symm
    clear hI hZ
    go_wp2
    go_ret
    rw [hr.out, hG]
    exact ⟨rfl, hbX2⟩
  · by_cases hn : F.length ≤ 1000
    · have hr : Hid (Sc.code (Sc.rows g b none (F.drop 0)) = Z) := by
        rw [hI, decide_eq_true hn] at hZ
        rw [List.drop_zero]
        exact hZ.out
      have x14 : decide ((1000 : Int) < (F.length : Int)) = false := decide_eq_false (by omega)
      clear hI hZ
      go_wp2
      go_loopw [21] (fun iv wr => ∃ (i : Nat) (p : Option ByteArray), i ≤ F.length ∧ iv = .int .i64 i ∧ Hid (Sc.code (Sc.rows g b p (F.drop i)) = Z) ∧ Hid ((i = 0 ∧ p = none) ∨ ∃ (j : Nat) (h : j < F.length), i = j + 1 ∧ p = some F[j].word) ∧ Below w2.heap.size w2 wr) (fun iv _ => F.length - (Lib.intOf iv).toNat)
      case atStart => exact ⟨0, none, Nat.zero_le _, rfl, hr, .inl ⟨rfl, rfl⟩, Below.refl _ _⟩
      case round =>
        clear hr
        obtain ⟨i, p, hi, rfl, hz, hp, hb⟩ := hrel
        have hGr : G < wr.heap.size := Nat.lt_of_lt_of_le hG2 hb.size
        have hHr : H < wr.heap.size := Nat.lt_of_lt_of_le hH2 hb.size
        have r2 := (hb.cell (p := ⟨G, 2, none⟩) hG2).trans v2
        have a0 := (hb.cell (p := ⟨H, 0, none⟩) hH2).trans u0'
        have a1 := (hb.cell (p := ⟨H, 1, none⟩) hH2).trans u1'
        have hbB := hbX2.trans (hb.mono (Nat.le_of_lt hG2))
        by_cases hlt : i < F.length
        · obtain ⟨a, rfl, ha, hA⟩ := (HF.out.below hbB) i hlt
          have c0 := hA.c0
          have c1 := hA.c1
          have c2 := hA.c2
          have hz1 := hz.out
          rw [Sc.rows_step g b p F i hlt, Sc.okRow_in] at hz1
          replace hz1 := mkHw hz1
          have hnf := mkHw (Hfit.out F[i] (List.getElem_mem hlt))
          obtain ⟨n, hn⟩ : ∃ n, F[i] = n := ⟨_, rfl⟩
          have hnw : Hid (some n.word = some F[i].word) := by rw [← hn]; rfl
          rw [hn] at c0 c1 c2 hz1 hnf
          obtain ⟨V, hV⟩ : ∃ V, V = wr.alloc (.cells #[.string n.word, .int .i64 n.good, .int .i64 n.bad] 47) := ⟨_, rfl⟩
          have q0 : V.cell? ⟨wr.heap.size, 0, none⟩ = some (.string n.word) := by rw [hV]; simp
          have q1 : V.cell? ⟨wr.heap.size, 1, none⟩ = some (.int .i64 n.good) := by rw [hV]; simp
          have q2 : V.cell? ⟨wr.heap.size, 2, none⟩ = some (.int .i64 n.bad) := by rw [hV]; simp
          have hbV : Below wr.heap.size wr V := by rw [hV]; exact (Below.refl _ _).alloc (Nat.le_refl _) _
          have hVs : wr.heap.size < V.heap.size := by rw [hV]; simp
          have HV := mkHw hV
          clear hV hn
          go_wp2
          rw [← HV.out]
          have k0 : ∀ d os, (Go.Sort.grow (redrawn V d) os).cell? ⟨wr.heap.size, 0, none⟩ = some (.string n.word) := fun d os => cell_regrown q0 d os
          have k1 : ∀ d os, (Go.Sort.grow (redrawn V d) os).cell? ⟨wr.heap.size, 1, none⟩ = some (.int .i64 n.good) := fun d os => cell_regrown q1 d os
          have k2 : ∀ d os, (Go.Sort.grow (redrawn V d) os).cell? ⟨wr.heap.size, 2, none⟩ = some (.int .i64 n.bad) := fun d os => cell_regrown q2 d os
          have e0 : ∀ d os, (Go.Sort.grow (redrawn V d) os).cell? ⟨H, 0, none⟩ = some (.int .i64 g) := fun d os => cell_regrown ((hbV.cell (p := ⟨H, 0, none⟩) hHr).trans a0) d os
          have e1 : ∀ d os, (Go.Sort.grow (redrawn V d) os).cell? ⟨H, 1, none⟩ = some (.int .i64 b) := fun d os => cell_regrown ((hbV.cell (p := ⟨H, 1, none⟩) hHr).trans a1) d os
          have cW : Hid (∀ d os, Calls Try.prog 23 #[.string n.word] (Go.Sort.grow (redrawn V d) os) fun e w'' => e = .returned (.bool (Sc.word n.word)) ∧ ∃ p : Regrown, w'' = Go.Sort.grow (redrawn V p.d) p.os) := fun d os => Calls.regrown_of ((implWord n.word _ hnf.out).mono fun e w' ⟨h1, h2⟩ => ⟨h1, h2 ▸ Below.refl _ _⟩)
          have cN : Hid (∀ d os, Calls Try.prog 24 #[.agg #[.string n.word, .int .i64 n.good, .int .i64 n.bad]] (Go.Sort.grow (redrawn V d) os) fun e w'' => e = .returned (.agg #[.int .i64 n.good, .int .i64 n.bad]) ∧ ∃ p : Regrown, w'' = Go.Sort.grow (redrawn V p.d) p.os) := fun d os => Calls.regrown_of (implWordCounts n _)
          have cI : Hid (∀ d os, Calls Try.prog 22 #[.agg #[.int .i64 n.good, .int .i64 n.bad], .agg #[.int .i64 g, .int .i64 b]] (Go.Sort.grow (redrawn V d) os) fun e w'' => e = .returned (.bool (Sc.within n.good n.bad g b)) ∧ ∃ p : Regrown, w'' = Go.Sort.grow (redrawn V p.d) p.os) := fun d os => Calls.regrown_of (implWithin n.good n.bad g b _)
          have hGV : w2.heap.size ≤ V.heap.size := Nat.le_trans hb.size hbV.size
          have hbV2 := mkHw (hb.trans (hbV.mono hb.size))
          clear q0 q1 q2 c0 c1 c2
          cases hw1 : Sc.word n.word
          · have hr : Hid (Z = 1) := by
              have := hz1.out
              rw [hw1] at this
              exact this.symm
            rw [hw1] at cW
            clear hw1
            refine wp_region_quiet_below (by kernel_rfl) (by kernel_rfl) ?_
            repeat (go_big_quiet_step (first | exact cW.out _ _ | exact cN.out _ _ | exact cI.out _ _))
            refine wpQuiet_nil ?_
            intro _ hw'
            obtain ⟨⟨dq, osq⟩, hw''⟩ := hw'
            subst hw''
            have hbe := mkHw (hbX2.trans ((hbV2.out.trans ((below_regrown V dq osq).mono hGV)).mono (Nat.le_of_lt hG2)))
            clear k0 k1 k2 e0 e1 cW cN cI
            go_wp2
            go_ret
            rw [hr.out, hG]
            exact ⟨rfl, hbe.out⟩
          · rw [hw1] at cW
            cases hi1 : Sc.within n.good n.bad g b
            · have hr : Hid (Z = 1) := by
                have := hz1.out
                rw [hw1, hi1] at this
                exact this.symm
              rw [hi1] at cI
              clear hw1 hi1
              refine wp_region_quiet_below (by kernel_rfl) (by kernel_rfl) ?_
              repeat (go_big_quiet_step (first | exact cW.out _ _ | exact cN.out _ _ | exact cI.out _ _))
              refine wpQuiet_nil ?_
              intro _ hw'
              obtain ⟨⟨dq, osq⟩, hw''⟩ := hw'
              subst hw''
              have hbe := mkHw (hbX2.trans ((hbV2.out.trans ((below_regrown V dq osq).mono hGV)).mono (Nat.le_of_lt hG2)))
              clear k0 k1 k2 e0 e1 cW cN cI
              go_wp2
              go_ret
              rw [hr.out, hG]
              exact ⟨rfl, hbe.out⟩
            · rw [hi1] at cI
              cases hzz : (decide (n.good = 0) && decide (n.bad = 0))
              · have hnz : Hid (¬ (n.good = 0 ∧ n.bad = 0)) := by
                  intro h
                  rw [decide_eq_true h.1, decide_eq_true h.2] at hzz
                  cases hzz
                have hz2 : Hid (Sc.code (Sc.less p n.word && Sc.rows g b (some n.word) (F.drop (i + 1))) = Z) := by
                  have := hz1.out
                  rw [hw1, hi1, hzz] at this
                  exact this
                clear hw1 hi1 hzz hz1
                refine wp_region_quiet_below (by kernel_rfl) (by kernel_rfl) ?_
                iterate 15 (go_big_quiet_step (first | exact cW.out _ _ | exact cN.out _ _ | exact cI.out _ _))
                go_big_quiet_want
                go_big_quiet_op
                refine ⟨.bool false, fun _ => ?_, ?_⟩
                · by_cases hg0 : n.good = 0
                  · rw [if_pos hg0, if_neg (fun h => hnz.out ⟨hg0, h⟩)]
                    exact ⟨rfl, rfl⟩
                  · rw [if_neg hg0]
                    exact ⟨rfl, rfl⟩
                go_big_quiet_on
                go_big_quiet_step (fail)
                refine wpQuiet_nil ?_
                intro _ hw'
                obtain ⟨⟨dq, osq⟩, hw''⟩ := hw'
                subst hw''
                have hbQ := below_regrown V dq osq
                have hwq : wr.heap.size < (Go.Sort.grow (redrawn V dq) osq).heap.size := Nat.lt_of_lt_of_le hVs hbQ.size
                have m0 := k0 dq osq
                have m2 := (hbQ.cell (p := ⟨G, 2, none⟩) (Nat.lt_trans hGr hVs)).trans ((hbV.cell (p := ⟨G, 2, none⟩) hGr).trans r2)
                have hbq := mkHw (hbV2.out.trans (hbQ.mono hGV))
                clear k0 k1 k2 e0 e1 cW cN cI
                rcases hp.out with ⟨rfl, rfl⟩ | ⟨j, hj, rfl, rfl⟩
                · have hz3 : Hid (Sc.code (Sc.rows g b (some n.word) (F.drop (0 + 1))) = Z) := by
                    have := hz2.out
                    exact this
                  have hilt := mkHw hlt
                  clear hA hp
                  generalize Go.Sort.grow (redrawn V dq) osq = wq at *
                  clear hbQ hbV hVs HV a0 a1 hz2
                  go_wp2
                  go_quiet (fail)
                  have hbn := mkHw (below_drewN hbq.out nq)
                  clear m0 m2
                  go_wp2
                  go_roundw
                  case rel => exact ⟨1, some n.word, by omega, by go_num, hz3, .inr ⟨0, hilt.out, rfl, hnw.out⟩, hbn.out⟩
                  case measure => simp [Lib.intOf]; omega
                · obtain ⟨a', ea, ha', hA'⟩ := (HF.out.below hbB) j hj
                  cases ea
                  have hal : (a.add (j * 3)).block < wr.heap.size := by rw [add_blockW]; omega
                  have s3 := (hbQ.cell (p := a.add (j * 3)) (Nat.lt_trans hal hVs)).trans ((hbV.cell (p := a.add (j * 3)) hal).trans hA'.c0)
                  have hji : ((j + 1 : Nat) : Int) - 1 = (j : Int) := by omega
                  have hj0 : decide ((0 : Int) < ((j + 1 : Nat) : Int)) = true := by simp
                  have hwj : IntKind.i64.wrap (j : Int) = (j : Int) := wrap_inW _ (by omega) (by omega)
                  have hjI : (0 : Int) ≤ (j : Int) ∧ (j : Int) < (F.length : Int) := ⟨by omega, by omega⟩
                  have hlt' := mkHw hlt
                  clear hA' hA hp
                  generalize F[j].word = pw at *
                  generalize Go.Sort.grow (redrawn V dq) osq = wq at *
                  clear hbQ hbV hVs HV a0 a1
                  by_cases hls : Sc.less (some pw) n.word = true
                  · have x8 : Op.bytesLess pw.toList n.word.toList = true := hls
                    have hz3 : Hid (Sc.code (Sc.rows g b (some n.word) (F.drop (j + 1 + 1))) = Z) := by
                      have := hz2.out
                      rw [hls] at this
                      exact this
                    clear hls hz2
                    go_wp2
                    go_quiet (fail)
                    have hbn := mkHw (below_drewN hbq.out nq)
                    clear s3 m0 m2
                    go_wp2
                    go_roundw
                    case rel => exact ⟨j + 1 + 1, some n.word, by have := hlt'.out; omega, by go_num, hz3, .inr ⟨j + 1, hlt'.out, rfl, hnw.out⟩, hbn.out⟩
                    case measure => have := hlt'.out; simp [Lib.intOf]; omega
                  · rw [Bool.not_eq_true] at hls
                    have x8 : Op.bytesLess pw.toList n.word.toList = false := hls
                    have hr : Hid (Z = 1) := by
                      have := hz2.out
                      rw [hls] at this
                      exact this.symm
                    clear hls hz2
                    go_wp2
                    go_quiet (fail)
                    have hbn := mkHw (hbX2.trans ((below_drewN hbq.out nq).mono (Nat.le_of_lt hG2)))
                    clear s3 m0 m2
                    go_wp2
                    go_ret
                    rw [hr.out, hG]
                    exact ⟨rfl, hbn.out⟩
              · have hyz : Hid (n.good = 0 ∧ n.bad = 0) := by
                  rw [Bool.and_eq_true, decide_eq_true_iff, decide_eq_true_iff] at hzz
                  exact hzz
                have hr : Hid (Z = 1) := by
                  have := hz1.out
                  rw [hw1, hi1, hzz] at this
                  exact this.symm
                clear hw1 hi1 hzz hz1
                refine wp_region_quiet_below (by kernel_rfl) (by kernel_rfl) ?_
                iterate 15 (go_big_quiet_step (first | exact cW.out _ _ | exact cN.out _ _ | exact cI.out _ _))
                go_big_quiet_want
                go_big_quiet_op
                refine ⟨.bool true, fun _ => ?_, ?_⟩
                · rw [if_pos hyz.out.1, if_pos hyz.out.2]
                  exact ⟨rfl, rfl⟩
                go_big_quiet_on
                go_big_quiet_step (fail)
                refine wpQuiet_nil ?_
                intro _ hw'
                obtain ⟨⟨dq, osq⟩, hw''⟩ := hw'
                subst hw''
                have hbe := mkHw (hbX2.trans ((hbV2.out.trans ((below_regrown V dq osq).mono hGV)).mono (Nat.le_of_lt hG2)))
                clear k0 k1 k2 e0 e1 cW cN cI
                go_wp2
                go_ret
                rw [hr.out, hG]
                exact ⟨rfl, hbe.out⟩
        · have hr : Hid (Z = 0) := by
            have := hz.out
            rw [List.drop_eq_nil_of_le (by omega)] at this
            exact this.symm
          go_wp2
          go_ret
          rw [hr.out, hG]
          exact ⟨rfl, hbB⟩
    · have hr : Hid (Z = 1) := by rw [hI, decide_eq_false hn] at hZ; exact hZ.out.symm
      have x14 : decide ((1000 : Int) < (F.length : Int)) = true := decide_eq_true (by omega)
      clear hI hZ
      go_wp2
      go_ret
      rw [hr.out, hG]
      exact ⟨rfl, hbX2⟩
end Go.Proofs.Ytgmjbgnjmpllmaa
