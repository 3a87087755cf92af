
/- The program's isOneTree, at a filter's nodes. -/
import Derived.Test.YtonnmbkfjiddnaaNodeKidsM
namespace Go.Proofs.Ytonnmbkfjiddnaa
open Go.RowKit Go.Lib Go.Maps
set_option maxHeartbeats 20000000 in
set_option maxRecDepth 20000 in
theorem implOneTree (o : Option Addr) (F : List Nd) (cap : Nat) (w : World) (hF : Nds w.heap.size w o F) (hlF : F.length ≤ 2000) (hfit : ∀ n ∈ F, n.fits 1048576) :
    Calls Try.prog 50 #[.slice o F.length cap] w fun e w' => e = .returned (.bool (Tr.oneT (Fn.kids F) F.length)) ∧ Below w.heap.size w w' := by
  obtain ⟨i0, hi, hy0, hy1, hy2⟩ := info_parts Try.info2
  have HF := mkHid hF
  have Hfit := mkHid hfit
  clear hF hfit
  obtain ⟨R, hR⟩ : ∃ R, Tr.oneT (Fn.kids F) F.length = R := ⟨_, rfl⟩
  rw [hR]
  replace hR := mkHid hR
  go_enter Try.func50, Try.ntmps50
  go_wp2
  generalize hG : w.heap.size = G at *
  go_loopw [3, 9] (fun v iv wr => ∃ (i : Nat) (P : List Int), i ≤ F.length ∧ iv = .int .i64 i ∧ OwnN G v P wr ∧ Hid (Tr.run Tr.tt (Fn.kids F) i = some P) ∧ Below G w wr) (fun _ iv _ => F.length - (Lib.intOf iv).toNat)
  case atStart => exact ⟨0, [], Nat.zero_le _, rfl, OwnN.nil _ _, rfl, hG ▸ Below.refl _ _⟩
  case round =>
    obtain ⟨i, P, hi', rfl, hown, hrun, hb⟩ := hrel
    obtain ⟨oo, cc, rfl, hcc, hform⟩ := hown.form'
    by_cases hlt : i < F.length
    · obtain ⟨a, v4, v5, v6, rfl, ha, hA, hI⟩ := (HF.out.below hb) i hlt
      obtain ⟨⟨a4, e4, rfl, t4⟩, ⟨a5, e5, rfl, t5⟩, ⟨a6, e6, rfl, t6⟩⟩ := hI
      have hkids : Hid (Fn.kids F i = F[i].kids) := by show Fn.kids F i = _; unfold Fn.kids; rw [List.getElem?_eq_getElem hlt]; rfl
      have hnf := mkHid (Hfit.out F[i] (List.getElem_mem hlt))
      have hrange := mkHid (Tr.run_range i P hrun.out)
      have hPl : P.length ≤ 2000 := Nat.le_trans (Tr.run_len i P hrun.out) (by omega)
      have c0 := hA.c0
      have c1 := hA.c1
      have c2 := hA.c2
      have c3 := hA.c3
      have c4 := hA.c4
      have c5 := hA.c5
      have c6 := hA.c6
      have hkl : F[i].kids.length ≤ 1048576 := hnf.out.2.2.2.2.2
      replace t4 := mkHid t4
      replace t5 := mkHid t5
      replace t6 := mkHid t6
      have hsz := hb.size
      clear hA
      generalize F[i] = n at *
      have hb0 := mkHid (hb.alloc (by omega) (.cells #[.int .i64 n.kind, .int .i64 n.num, .int .i64 n.mat, .string n.text, .slice a4 n.names.length e4, .slice a5 n.keys.length e5, .slice a6 n.kids.length e6] 44))
      have hown0 := mkHid (hown.alloc (.cells #[.int .i64 n.kind, .int .i64 n.num, .int .i64 n.mat, .string n.text, .slice a4 n.names.length e4, .slice a5 n.keys.length e5, .slice a6 n.kids.length e6] 44))
      obtain ⟨V, hV⟩ : ∃ V, V = wr.alloc (.cells #[.int .i64 n.kind, .int .i64 n.num, .int .i64 n.mat, .string n.text, .slice a4 n.names.length e4, .slice a5 n.keys.length e5, .slice a6 n.kids.length e6] 44) := ⟨_, rfl⟩
      replace hV := mkHid hV
      have cM0 := methKidsB n (.slice a4 n.names.length e4) (.slice a5 n.keys.length e5) (.slice a6 n.kids.length e6) V
      unfold ndV at cM0
      have cM := mkHid cM0
      clear cM0
      go_wp2_with fail
      rw [← hV.out]
      rw [← hV.out] at hb0 hown0
      refine cM.out.mono ?_
      rintro e V2 ⟨rfl, hb2⟩
      have q0 : V.cell? ⟨wr.heap.size, 0, none⟩ = some (.int .i64 n.kind) := by rw [hV.out]; simp
      have q1 : V.cell? ⟨wr.heap.size, 1, none⟩ = some (.int .i64 n.num) := by rw [hV.out]; simp
      have q2 : V.cell? ⟨wr.heap.size, 2, none⟩ = some (.int .i64 n.mat) := by rw [hV.out]; simp
      have q3 : V.cell? ⟨wr.heap.size, 3, none⟩ = some (.string n.text) := by rw [hV.out]; simp
      have q4 : V.cell? ⟨wr.heap.size, 4, none⟩ = some (.slice a4 n.names.length e4) := by rw [hV.out]; simp
      have q5 : V.cell? ⟨wr.heap.size, 5, none⟩ = some (.slice a5 n.keys.length e5) := by rw [hV.out]; simp
      have q6 : V.cell? ⟨wr.heap.size, 6, none⟩ = some (.slice a6 n.kids.length e6) := by rw [hV.out]; simp
      have hVs : V.heap.size = wr.heap.size + 1 := by rw [hV.out]; simp
      have hg1 : wr.heap.size < V.heap.size := by omega
      have p0 := (hb2.cell (p := ⟨wr.heap.size, 0, none⟩) hg1).trans q0
      have p1 := (hb2.cell (p := ⟨wr.heap.size, 1, none⟩) hg1).trans q1
      have p2 := (hb2.cell (p := ⟨wr.heap.size, 2, none⟩) hg1).trans q2
      have p3 := (hb2.cell (p := ⟨wr.heap.size, 3, none⟩) hg1).trans q3
      have p4 := (hb2.cell (p := ⟨wr.heap.size, 4, none⟩) hg1).trans q4
      have p5 := (hb2.cell (p := ⟨wr.heap.size, 5, none⟩) hg1).trans q5
      have p6 := (hb2.cell (p := ⟨wr.heap.size, 6, none⟩) hg1).trans q6
      have hGV : G ≤ V.heap.size := by omega
      have hbw := mkHid (hb0.out.trans (hb2.mono hGV))
      have hbV : Below wr.heap.size wr V := by rw [hV.out]; exact (Below.refl _ _).alloc (Nat.le_refl _) _
      have t6V := mkHid ((t6.out.below ((hbV.trans (hb2.mono hbV.size)).mono (hG ▸ hsz))).mono (Nat.le_trans hGV hb2.size))
      have hownW := mkHid (OwnN.keep hown0.out (Nat.le_refl _) hb2)
      have hGV2 : G ≤ V2.heap.size := Nat.le_trans hGV hb2.size
      clear cM c0 c1 c2 c3 c4 c5 c6 q0 q1 q2 q3 q4 q5 q6 hV hb2 hb0 hown0 hform hown hb hbV
      generalize wr.heap.size = g1 at *
      by_cases hle : n.kids.length ≤ P.length
      · obtain ⟨m, hm⟩ : ∃ m, P.length = m + n.kids.length := ⟨P.length - n.kids.length, by omega⟩
        have hmI : (P.length : Int) - (n.kids.length : Int) = (m : Int) := by omega
        have hneg : decide ((m : Int) < 0) = false := by simp
        have hm' := mkHid hm
        have Hcc := mkHid hcc
        clear hm
        clear hcc
        have k0 := cell_regrown p0
        have k1 := cell_regrown p1
        have k2 := cell_regrown p2
        have k3 := cell_regrown p3
        have k4 := cell_regrown p4
        have k5 := cell_regrown p5
        have k6 := cell_regrown p6
        have hformV := OwnN.form' (show OwnN G (.slice oo P.length cc) P V2 from hownW.out)
        have hdl : Hid ((P.drop m).length = n.kids.length) := by show _ = _; rw [List.length_drop]; have := hm'.out; omega
        have hMe : Hid (∀ d os, Calls Try.prog 99 #[.agg #[.int .i64 n.kind, .int .i64 n.num, .int .i64 n.mat, .string n.text, .slice a4 n.names.length e4, .slice a5 n.keys.length e5, .slice a6 n.kids.length e6]] (Go.Sort.grow (redrawn V2 d) os) fun e w'' => e = .returned (.slice a6 n.kids.length e6) ∧ ∃ p : Regrown, w'' = Go.Sort.grow (redrawn V2 p.d) p.os) := by
          intro d os
          have := methKidsB n (.slice a4 n.names.length e4) (.slice a5 n.keys.length e5) (.slice a6 n.kids.length e6) (Go.Sort.grow (redrawn V2 d) os)
          unfold ndV at this
          exact Calls.regrown_of this
        have hEq : Hid (∀ o' c, o' = (if cc = m then oo else oo.map (·.add m)) → ∀ d os, Calls Try.prog 64 #[.slice o' n.kids.length c, .slice a6 n.kids.length e6] (Go.Sort.grow (redrawn V2 d) os) fun e w'' => e = .returned (.bool (decide (P.drop m = n.kids))) ∧ ∃ p : Regrown, w'' = Go.Sort.grow (redrawn V2 p.d) p.os) := by
          intro o' c ho d os
          have hbb := below_regrown V2 d os
          have i1 : Ints V2.heap.size V2 o' (P.drop m) := by
            obtain ⟨o2, c2, e2', l2, f2⟩ := hformV
            cases e2'
            refine ints_drop (cap := cc) (o := oo) (by have := hm'.out; omega) Hcc.out ?_ ho
            rcases f2 with f2 | ⟨g, f2, -, f3, f4⟩
            · exact .inl f2
            · exact .inr ⟨g, f2, f3, f4⟩
          have := implEqual o' a6 (P.drop m) n.kids c e6 (Go.Sort.grow (redrawn V2 d) os) ((i1.below hbb).mono hbb.size) ((t6V.out.below hbb).mono hbb.size) (by rw [hdl.out]; exact hkl) hkl
          rw [hdl.out] at this
          exact Calls.regrown_of this
        clear hformV p0 p1 p2 p3 p4 p5 p6
        have hmle : m ≤ P.length := by have := hm'.out; omega
        have hPm : P.length - m = n.kids.length := by have := hm'.out; omega
        obtain ⟨bq, hbq0⟩ : ∃ b, decide (P.drop m = n.kids) = b := ⟨_, rfl⟩
        rw [hbq0] at hEq
        replace hbq0 := mkHid hbq0
        go_wp2
        refine wp_region_quiet_below (by kernel_rfl) (by kernel_rfl) ?_
        quiet_step (fail)
        quiet_step (fail)
        quiet_step (fail)
        quiet_step (fail)
        quiet_step (fail)
        quiet_step (fail)
        quiet_step (fail)
        quiet_step (fail)
        quiet_step ((simp only [methodK, Result.andThen, entersK]; exact ⟨trivial, hMe.out _ _⟩))
        quiet_step (exact hEq.out _ _ rfl _ _)
        repeat (quiet_step (fail))
        refine wpQuiet_nil ?_
        intro _ hw'
        obtain ⟨⟨dq, osq⟩, hw''⟩ := hw'
        subst hw''
        clear hEq hMe k0 k1 k2 k3 k4 k5 k6
        generalize (if cc = m then oo else Option.map (fun x => x.add m) oo) = od
        have hbq := mkHid (hbw.out.trans ((below_regrown V2 dq osq).mono hGV2))
        have hownQ := mkHid (OwnN.keep hownW.out (Nat.le_refl _) (below_regrown V2 dq osq))
        have hsq : G ≤ (Go.Sort.grow (redrawn V2 dq) osq).heap.size := Nat.le_trans hGV2 (below_regrown V2 dq osq).size
        generalize Go.Sort.grow (redrawn V2 dq) osq = W1 at *
        cases bq
        · have hr0 : Hid (R = false) := by
            show R = false
            rw [← hR.out]
            refine Tr.oneT_none _ (i + 1) _ (by omega) ?_
            unfold Tr.run
            rw [hrun.out]
            dsimp only
            rw [if_neg]
            rw [hkids.out, show P.length - n.kids.length = m by have := hm'.out; omega]
            exact fun h => (of_decide_eq_false hbq0.out) h.2.1
          go_wp2
          go_ret
          rw [hr0.out, hG]
          exact ⟨rfl, hbq.out⟩
        · have hrun' : Hid (Tr.run Tr.tt (Fn.kids F) (i + 1) = some (P.take m ++ [(i : Int)])) := by
            show _ = _
            unfold Tr.run
            rw [hrun.out]
            dsimp only
            rw [hkids.out, show P.length - n.kids.length = m by have := hm'.out; omega]
            rw [if_pos ⟨hle, of_decide_eq_true hbq0.out, rfl⟩]
          have htl : (P.take m).length ≤ 1000000 := by rw [List.length_take]; omega
          have hmcc : m ≤ cc := by have := Hcc.out; omega
          have hcut := OwnN.cut hownQ.out m hmle
          have hbe := hbq.out
          clear hownQ hownW hbw
          go_wp2_with (at_builtin; go_must (refine wp_appN (W := w) rfl _ _ 35 rfl i0 Try.underlying35 hi hy0 hy1 hy2 G (.slice oo m cc) (P.take m) rfl hcut (i : Int) rfl htl (by omega) hbe ?_; intro v' w' hown' hb'))
          go_roundw
          case rel => exact ⟨i + 1, P.take m ++ [(i : Int)], by omega, by go_num, hown', hrun', hb'⟩
          case measure => simp [Lib.intOf]; omega
      · have hneg : decide ((P.length : Int) - (n.kids.length : Int) < 0) = true := by simp; omega
        have hr0 : Hid (R = false) := by
          show R = false
          rw [← hR.out]
          refine Tr.oneT_none _ (i + 1) _ (by omega) ?_
          unfold Tr.run
          rw [hrun.out]
          dsimp only
          rw [if_neg]
          rw [hkids.out]
          exact fun h => hle h.1
        have Hle := mkHid hle
        clear hle
        go_wp2
        go_quiet (fail)
        have hbq := mkHid (below_drewN hbw.out nq)
        go_wp2
        go_ret
        rw [hr0.out, hG]
        exact ⟨rfl, hbq.out⟩
    · obtain rfl : i = F.length := by omega
      have hRv : Hid (R = ((P.length : Int) == 1)) := by
        show R = _
        rw [← hR.out]
        unfold Tr.oneT
        rw [hrun.out]
      clear hrun hform hown
      generalize P.length = pl at *
      obtain ⟨bb, hbb⟩ : ∃ bb, ((pl : Int) == 1) = bb := ⟨_, rfl⟩
      rw [hbb] at hRv
      go_wp2
      go_ret
      rw [hRv.out, hG]
      exact ⟨rfl, hb⟩
end Go.Proofs.Ytonnmbkfjiddnaa
