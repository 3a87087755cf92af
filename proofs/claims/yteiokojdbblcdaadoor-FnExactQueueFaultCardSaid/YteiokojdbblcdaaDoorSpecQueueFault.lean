
/- The specification's QueueFault. (By tools/gen/specqueue.py.) -/
import Derived.Test.YteiokojdbblcdaaDoorSpecAliases
import Derived.Lib.QuietBelow
import Derived.BigQuiet
namespace Go.Proofs.YteiokojdbblcdaaDoor
open Go.RowKit Go.Lib Go.Maps
namespace Ky
def low (d : ByteArray) : ByteArray := ⟨(lower d.data.toList).toArray⟩
def mok (m : GMx) : Bool := dok m.domain && (dok m.host && (decide (0 ≤ m.prefer) && decide (m.prefer ≤ 1000)))
def lok (z : Int) : Bool := decide (1 ≤ z) && decide (z ≤ 253402300799)
def t4 (n : GQueueConfig) : Bool := decide (n.mx.length ≤ 100)
def t5 (n : GQueueConfig) : Bool := decide (1 ≤ n.delays.length)
def t6 (n : GQueueConfig) : Bool := decide (n.delays.length ≤ 20)
def t7 (n : GQueueConfig) : Bool := decide (0 ≤ n.maxAge)
def t8 (n : GQueueConfig) : Bool := decide (n.maxAge ≤ 253402300799)
def t2 (n : GQueueConfig) : Bool := (low n.locF).toList == n.locF.toList
def qok (n : GQueueConfig) : Bool := dok n.locF && (t2 n && (asok n.aliases && (t4 n && (t5 n && (t6 n && (t7 n && (t8 n && (n.mx.all mok && n.delays.all lok))))))))
theorem dok_size (d : ByteArray) (h : dok d = true) : d.size ≤ 255 := by
  simp only [dok, Bool.and_eq_true, Pl.domI, decide_eq_true_eq] at h
  have : d.data.toList.length = d.size := by simp
  omega
theorem ne_of_false (a b : ByteArray) (h : (a.toList == b.toList) = false) : (a.toList != b.toList) = true := by rw [bne, h]; rfl
theorem ne_of_true (a b : ByteArray) (h : (a.toList == b.toList) = true) : (a.toList != b.toList) = false := by rw [bne, h]; rfl
end Ky
abbrev plQueueFault (n : GQueueConfig) : Int := dcode (Ky.qok n)
set_option maxHeartbeats 8000000 in
set_option maxRecDepth 20000 in
theorem specQueueFault (n : GQueueConfig) (v1 v2 v3 : Value) (lo : Nat) (w : World) (hI : GQueueConfigIn lo w.heap.size w n v1 v2 v3) (hf : n.fits 1048576) :
    Calls Tryd.prog 5 #[GQueueConfigV n v1 v2 v3] w fun e w' => e = .returned (.int .i64 (plQueueFault n)) ∧ Below w.heap.size w w' := by
  obtain ⟨⟨a1, e1, rfl, s1⟩, ⟨a2, e2, rfl, s2⟩, ⟨a3, e3, rfl, s3⟩⟩ := hI
  obtain ⟨f0, f1, f1b, f2, f2b, f3⟩ := hf
  unfold GQueueConfigV plQueueFault
  obtain ⟨V, hV⟩ : ∃ V, V = w.alloc (.cells #[.string n.locF, .slice a1 n.aliases.length e1, .slice a2 n.mx.length e2, .slice a3 n.delays.length e3, .int .i64 n.maxAge] 32) := ⟨_, rfl⟩
  have hbV : Below w.heap.size w V := by rw [hV]; exact (Below.refl _ _).alloc (Nat.le_refl _) _
  have c0 : V.cell? ⟨w.heap.size, 0, none⟩ = some (.string n.locF) := by rw [hV]; simp
  have c1 : V.cell? ⟨w.heap.size, 1, none⟩ = some (.slice a1 n.aliases.length e1) := by rw [hV]; simp
  have c2 : V.cell? ⟨w.heap.size, 2, none⟩ = some (.slice a2 n.mx.length e2) := by rw [hV]; simp
  have c3 : V.cell? ⟨w.heap.size, 3, none⟩ = some (.slice a3 n.delays.length e3) := by rw [hV]; simp
  have c4 : V.cell? ⟨w.heap.size, 4, none⟩ = some (.int .i64 n.maxAge) := by rw [hV]; simp
  have hgl : w.heap.size < V.heap.size := by rw [hV]; simp
  have k0 := cell_regrown c0
  have k1 := cell_regrown c1
  have k2 := cell_regrown c2
  have k3 := cell_regrown c3
  have k4 := cell_regrown c4
  have cD : Hid (∀ d os, Calls Tryd.prog 12 #[.string n.locF] (Go.Sort.grow (redrawn V d) os) fun e w'' => e = .returned (.bool (Ky.dok n.locF)) ∧ ∃ p : Regrown, w'' = Go.Sort.grow (redrawn V p.d) p.os) := fun d os => Calls.regrown_of (specKDomain n.locF _ (by omega))
  have cA : Hid (∀ d os, Calls Tryd.prog 14 #[.slice a1 n.aliases.length e1] (Go.Sort.grow (redrawn V d) os) fun e w'' => e = .returned (.bool (Ky.asok n.aliases)) ∧ ∃ p : Regrown, w'' = Go.Sort.grow (redrawn V p.d) p.os) := fun d os => Calls.regrown_of (specAliases a1 n.aliases e1 lo _ ((s1.below (hbV.trans ((below_regrown V d os).mono hbV.size)) (Nat.le_refl _)).mono (Nat.le_refl _) (Nat.le_trans hbV.size (below_regrown V d os).size)) f1 f1b)
  have cL : Hid (Ky.dok n.locF = true → ∀ d os, Calls Tryd.prog 13 #[.string n.locF] (Go.Sort.grow (redrawn V d) os) fun e w'' => e = .returned (.string (Ky.low n.locF)) ∧ ∃ p : Regrown, w'' = Go.Sort.grow (redrawn V p.d) p.os) := fun h d os => Calls.regrown_of (specLower n.locF _ (by have := Ky.dok_size _ h; omega))
  obtain ⟨R, hR⟩ : ∃ R, dcode (Ky.qok n) = R := ⟨_, rfl⟩
  rw [hR]
  replace hR := mkHid hR
  have S2 := mkHid s2
  have S3 := mkHid s3
  have F2 := mkHid f2b
  replace hV := mkHid hV
  clear s1 s2 s3 f1b f2b
  cases x0 : Ky.dok n.locF
  · rw [x0] at cD
    have hr : Hid (R = 1) := show _ = _ from by rw [← hR.out, Ky.qok, x0]; simp only [Bool.false_and]; rfl
    clear x0 hR cL
    go_enter Tryd.func5, Tryd.ntmps5
    go_wp2
    rw [← hV.out]
    refine wp_region_quiet_below (by kernel_rfl) (by kernel_rfl) ?_
    repeat (go_big_quiet_step (first | exact cD.out _ _))
    refine wpQuiet_nil ?_
    intro _ hw'
    obtain ⟨⟨dq, osq⟩, hw''⟩ := hw'
    subst hw''
    go_wp2
    go_ret
    rw [hr.out]
    exact ⟨rfl, hbV.trans ((below_regrown V dq osq).mono hbV.size)⟩
  · rw [x0] at cD
    have cL2 : Hid (∀ d os, Calls Tryd.prog 13 #[.string n.locF] (Go.Sort.grow (redrawn V d) os) fun e w'' => e = .returned (.string (Ky.low n.locF)) ∧ ∃ p : Regrown, w'' = Go.Sort.grow (redrawn V p.d) p.os) := cL.out x0
    cases x1 : Ky.t2 n
    · have y1 : ((Ky.low n.locF).toList == n.locF.toList) = false := x1
      have hr : Hid (R = 1) := show _ = _ from by rw [← hR.out, Ky.qok, x0, x1]; simp only [Bool.true_and, Bool.false_and]; rfl
      clear x0 x1 hR cL
      go_enter Tryd.func5, Tryd.ntmps5
      go_wp2
      rw [← hV.out]
      refine wp_region_quiet_below (by kernel_rfl) (by kernel_rfl) ?_
      repeat (go_big_quiet_step (first | exact cD.out _ _ | exact cL2.out _ _))
      refine wpQuiet_nil ?_
      intro _ hw'
      obtain ⟨⟨dq, osq⟩, hw''⟩ := hw'
      subst hw''
      go_wp2
      go_ret
      rw [hr.out]
      exact ⟨rfl, hbV.trans ((below_regrown V dq osq).mono hbV.size)⟩
    · have y1 : ((Ky.low n.locF).toList == n.locF.toList) = true := x1
      cases x2 : Ky.asok n.aliases
      · rw [x2] at cA
        have hr : Hid (R = 1) := show _ = _ from by rw [← hR.out, Ky.qok, x0, x1, x2]; simp only [Bool.true_and, Bool.false_and]; rfl
        clear x0 x1 x2 hR cL
        go_enter Tryd.func5, Tryd.ntmps5
        go_wp2
        rw [← hV.out]
        refine wp_region_quiet_below (by kernel_rfl) (by kernel_rfl) ?_
        repeat (go_big_quiet_step (first | exact cD.out _ _ | exact cL2.out _ _ | exact cA.out _ _))
        refine wpQuiet_nil ?_
        intro _ hw'
        obtain ⟨⟨dq, osq⟩, hw''⟩ := hw'
        subst hw''
        go_wp2
        go_ret
        rw [hr.out]
        exact ⟨rfl, hbV.trans ((below_regrown V dq osq).mono hbV.size)⟩
      · rw [x2] at cA
        cases x3 : Ky.t4 n
        · have y3 : decide ((100 : Int) < (n.mx.length : Int)) = true := by have := of_decide_eq_false (show decide (n.mx.length ≤ 100) = false from x3); exact decide_eq_true (by omega)
          have hr : Hid (R = 1) := show _ = _ from by rw [← hR.out, Ky.qok, x0, x1, x2, x3]; simp only [Bool.true_and, Bool.false_and]; rfl
          clear x0 x1 x2 x3 hR cL
          go_enter Tryd.func5, Tryd.ntmps5
          go_wp2
          rw [← hV.out]
          refine wp_region_quiet_below (by kernel_rfl) (by kernel_rfl) ?_
          repeat (go_big_quiet_step (first | exact cD.out _ _ | exact cL2.out _ _ | exact cA.out _ _))
          refine wpQuiet_nil ?_
          intro _ hw'
          obtain ⟨⟨dq, osq⟩, hw''⟩ := hw'
          subst hw''
          go_wp2
          go_ret
          rw [hr.out]
          exact ⟨rfl, hbV.trans ((below_regrown V dq osq).mono hbV.size)⟩
        · have y3 : decide ((100 : Int) < (n.mx.length : Int)) = false := by have := of_decide_eq_true (show decide (n.mx.length ≤ 100) = true from x3); exact decide_eq_false (by omega)
          cases x4 : Ky.t5 n
          · have y4 : decide ((n.delays.length : Int) < 1) = true := by have := of_decide_eq_false (show decide (1 ≤ n.delays.length) = false from x4); exact decide_eq_true (by omega)
            have hr : Hid (R = 1) := show _ = _ from by rw [← hR.out, Ky.qok, x0, x1, x2, x3, x4]; simp only [Bool.true_and, Bool.false_and]; rfl
            clear x0 x1 x2 x3 x4 hR cL
            go_enter Tryd.func5, Tryd.ntmps5
            go_wp2
            rw [← hV.out]
            refine wp_region_quiet_below (by kernel_rfl) (by kernel_rfl) ?_
            repeat (go_big_quiet_step (first | exact cD.out _ _ | exact cL2.out _ _ | exact cA.out _ _))
            refine wpQuiet_nil ?_
            intro _ hw'
            obtain ⟨⟨dq, osq⟩, hw''⟩ := hw'
            subst hw''
            go_wp2
            go_ret
            rw [hr.out]
            exact ⟨rfl, hbV.trans ((below_regrown V dq osq).mono hbV.size)⟩
          · have y4 : decide ((n.delays.length : Int) < 1) = false := by have := of_decide_eq_true (show decide (1 ≤ n.delays.length) = true from x4); exact decide_eq_false (by omega)
            cases x5 : Ky.t6 n
            · have y5 : decide ((20 : Int) < (n.delays.length : Int)) = true := by have := of_decide_eq_false (show decide (n.delays.length ≤ 20) = false from x5); exact decide_eq_true (by omega)
              have hr : Hid (R = 1) := show _ = _ from by rw [← hR.out, Ky.qok, x0, x1, x2, x3, x4, x5]; simp only [Bool.true_and, Bool.false_and]; rfl
              clear x0 x1 x2 x3 x4 x5 hR cL
              go_enter Tryd.func5, Tryd.ntmps5
              go_wp2
              rw [← hV.out]
              refine wp_region_quiet_below (by kernel_rfl) (by kernel_rfl) ?_
              repeat (go_big_quiet_step (first | exact cD.out _ _ | exact cL2.out _ _ | exact cA.out _ _))
              refine wpQuiet_nil ?_
              intro _ hw'
              obtain ⟨⟨dq, osq⟩, hw''⟩ := hw'
              subst hw''
              go_wp2
              go_ret
              rw [hr.out]
              exact ⟨rfl, hbV.trans ((below_regrown V dq osq).mono hbV.size)⟩
            · have y5 : decide ((20 : Int) < (n.delays.length : Int)) = false := by have := of_decide_eq_true (show decide (n.delays.length ≤ 20) = true from x5); exact decide_eq_false (by omega)
              cases x6 : Ky.t7 n
              · have y6 : decide (n.maxAge < 0) = true := by have := of_decide_eq_false (show decide (0 ≤ n.maxAge) = false from x6); exact decide_eq_true (by omega)
                have hr : Hid (R = 1) := show _ = _ from by rw [← hR.out, Ky.qok, x0, x1, x2, x3, x4, x5, x6]; simp only [Bool.true_and, Bool.false_and]; rfl
                clear x0 x1 x2 x3 x4 x5 x6 hR cL
                go_enter Tryd.func5, Tryd.ntmps5
                go_wp2
                rw [← hV.out]
                refine wp_region_quiet_below (by kernel_rfl) (by kernel_rfl) ?_
                repeat (go_big_quiet_step (first | exact cD.out _ _ | exact cL2.out _ _ | exact cA.out _ _))
                refine wpQuiet_nil ?_
                intro _ hw'
                obtain ⟨⟨dq, osq⟩, hw''⟩ := hw'
                subst hw''
                go_wp2
                go_ret
                rw [hr.out]
                exact ⟨rfl, hbV.trans ((below_regrown V dq osq).mono hbV.size)⟩
              · have y6 : decide (n.maxAge < 0) = false := by have := of_decide_eq_true (show decide (0 ≤ n.maxAge) = true from x6); exact decide_eq_false (by omega)
                cases x7 : Ky.t8 n
                · have y7 : decide ((253402300799 : Int) < n.maxAge) = true := by have := of_decide_eq_false (show decide (n.maxAge ≤ 253402300799) = false from x7); exact decide_eq_true (by omega)
                  have hr : Hid (R = 1) := show _ = _ from by rw [← hR.out, Ky.qok, x0, x1, x2, x3, x4, x5, x6, x7]; simp only [Bool.true_and, Bool.false_and]; rfl
                  clear x0 x1 x2 x3 x4 x5 x6 x7 hR cL
                  go_enter Tryd.func5, Tryd.ntmps5
                  go_wp2
                  rw [← hV.out]
                  refine wp_region_quiet_below (by kernel_rfl) (by kernel_rfl) ?_
                  repeat (go_big_quiet_step (first | exact cD.out _ _ | exact cL2.out _ _ | exact cA.out _ _))
                  refine wpQuiet_nil ?_
                  intro _ hw'
                  obtain ⟨⟨dq, osq⟩, hw''⟩ := hw'
                  subst hw''
                  go_wp2
                  go_ret
                  rw [hr.out]
                  exact ⟨rfl, hbV.trans ((below_regrown V dq osq).mono hbV.size)⟩
                · have y7 : decide ((253402300799 : Int) < n.maxAge) = false := by have := of_decide_eq_true (show decide (n.maxAge ≤ 253402300799) = true from x7); exact decide_eq_false (by omega)
                  have hR2 : Hid (dcode (n.mx.all Ky.mok && n.delays.all Ky.lok) = R) := show _ = _ from by rw [← hR.out, Ky.qok, x0, x1, x2, x3, x4, x5, x6, x7]; simp only [Bool.true_and]
                  clear x0 x1 x2 x3 x4 x5 x6 x7 hR cL
                  go_enter Tryd.func5, Tryd.ntmps5
                  go_wp2
                  rw [← hV.out]
                  refine wp_region_quiet_below (by kernel_rfl) (by kernel_rfl) ?_
                  repeat (go_big_quiet_step (first | exact cD.out _ _ | exact cL2.out _ _ | exact cA.out _ _))
                  refine wpQuiet_nil ?_
                  intro _ hw'
                  obtain ⟨⟨dq, osq⟩, hw''⟩ := hw'
                  subst hw''
                  have hbq := below_regrown V dq osq
                  have hbw := hbV.trans (hbq.mono hbV.size)
                  have p2 := (hbq.cell (p := ⟨w.heap.size, 2, none⟩) hgl).trans c2
                  have p3 := (hbq.cell (p := ⟨w.heap.size, 3, none⟩) hgl).trans c3
                  have hgq : w.heap.size < (Go.Sort.grow (redrawn V dq) osq).heap.size := Nat.lt_of_lt_of_le hgl hbq.size
                  generalize Go.Sort.grow (redrawn V dq) osq = W at *
                  clear c0 c1 c2 c3 c4 k0 k1 k2 k3 k4 cD cL2 cA hbq hV hbV hgl
                  go_wp2
                  generalize hG : w.heap.size = G at *
                  go_loopw [3] (fun iv wr => ∃ i : Nat, i ≤ n.mx.length ∧ iv = .int .i64 i ∧ Hid (dcode ((n.mx.drop i).all Ky.mok && n.delays.all Ky.lok) = R) ∧ Hid (Below W.heap.size W wr)) (fun iv _ => n.mx.length - (Lib.intOf iv).toNat)
                  case atStart => exact ⟨0, Nat.zero_le _, rfl, hR2, Below.refl _ _⟩
                  case round =>
                    clear hR2
                    obtain ⟨i, hi', rfl, hRi, hb⟩ := hrel
                    have q2 := (hb.out.cell (p := ⟨G, 2, none⟩) hgq).trans p2
                    have q3 := (hb.out.cell (p := ⟨G, 3, none⟩) hgq).trans p3
                    by_cases hlt : i < n.mx.length
                    · obtain ⟨a, rfl, ha0, ha, hA0⟩ := S2.out i hlt
                      have Hha : Hid (lo ≤ (a.add (i * 3)).block ∧ (a.add (i * 3)).block < G) := ⟨by rw [add_blockG]; exact ha0, by rw [add_blockG]; exact ha⟩
                      have hWG : G ≤ W.heap.size := Nat.le_of_lt hgq
                      have hbG := mkHid (hbw.trans (hb.out.mono hWG))
                      have hA := hA0.same (Same.of_below (lo := lo) hbG.out (Nat.le_refl _)) Hha.out.1 Hha.out.2
                      have HA0 := mkHid hA0
                      have d0 := hA.c0
                      have d1 := hA.c1
                      have d2 := hA.c2
                      obtain ⟨g1, g2⟩ := F2.out n.mx[i] (List.getElem_mem hlt)
                      have hst : Hid (dcode (Ky.mok n.mx[i] && (n.mx.drop (i + 1)).all Ky.mok && n.delays.all Ky.lok) = R) := show _ = _ from by rw [← hRi.out, Ky.all_drop _ _ _ hlt]
                      have cX := mkHid (specKDomain n.mx[i].domain wr (by omega))
                      have cY := mkHid (fun w' => specKDomain n.mx[i].host w' (by omega))
                      have hs2 := hb.out.size
                      clear hA hA0 hRi
                      generalize n.mx[i] = m at *
                      cases x1 : Ky.dok m.domain
                      · rw [x1] at cX
                        have hr : Hid (R = 1) := show _ = _ from by rw [← hst.out, Ky.mok, x1]; rfl
                        clear x1 hst
                        go_wp2_with fail
                        refine cX.out.mono ?_
                        rintro e w1 ⟨rfl, hb1⟩
                        go_wp2
                        go_ret
                        rw [hr.out]
                        first | exact ⟨rfl, hbG.out.trans (hb1.mono (Nat.le_trans hWG hs2))⟩ | (rw [hG]; exact ⟨rfl, hbG.out.trans (hb1.mono (Nat.le_trans hWG hs2))⟩)
                      · rw [x1] at cX
                        cases x2 : Ky.dok m.host
                        · rw [x2] at cY
                          have hr : Hid (R = 1) := show _ = _ from by rw [← hst.out, Ky.mok, x1, x2]; rfl
                          clear x1 x2 hst
                          go_wp2_with fail
                          refine cX.out.mono ?_
                          rintro e w1 ⟨rfl, hb1⟩
                          have hb2 := mkHid (hbG.out.trans (hb1.mono (Nat.le_trans hWG hs2)))
                          have r2 := (hb1.cell (p := ⟨G, 2, none⟩) (Nat.lt_of_lt_of_le hgq hs2)).trans q2
                          have r3 := (hb1.cell (p := ⟨G, 3, none⟩) (Nat.lt_of_lt_of_le hgq hs2)).trans q3
                          have hA1 := HA0.out.same (Same.of_below (lo := lo) hb2.out (Nat.le_refl _)) Hha.out.1 Hha.out.2
                          have j1 := hA1.c1
                          have j2 := hA1.c2
                          have hs3 := Nat.le_trans (Nat.le_trans hWG hs2) hb1.size
                          clear hb1 q2 q3 d0 d1 d2 cX hA1
                          go_wp2_with fail
                          refine (cY.out w1).mono ?_
                          rintro e w2 ⟨rfl, hb3⟩
                          go_wp2
                          go_ret
                          rw [hr.out]
                          first | exact ⟨rfl, hb2.out.trans (hb3.mono hs3)⟩ | (rw [hG]; exact ⟨rfl, hb2.out.trans (hb3.mono hs3)⟩)
                        · rw [x2] at cY
                          go_wp2_with fail
                          refine cX.out.mono ?_
                          rintro e w1 ⟨rfl, hb1⟩
                          have hbW1 := mkHid (hb.out.trans (hb1.mono hs2))
                          have hb2 := mkHid (hbG.out.trans (hb1.mono (Nat.le_trans hWG hs2)))
                          have r2 := (hb1.cell (p := ⟨G, 2, none⟩) (Nat.lt_of_lt_of_le hgq hs2)).trans q2
                          have hA1 := HA0.out.same (Same.of_below (lo := lo) hb2.out (Nat.le_refl _)) Hha.out.1 Hha.out.2
                          have j1 := hA1.c1
                          have j2 := hA1.c2
                          have hs3 := Nat.le_trans hs2 hb1.size
                          clear hb1 q2 q3 d0 d1 d2 cX hA1
                          go_wp2_with fail
                          refine (cY.out w1).mono ?_
                          rintro e w2 ⟨rfl, hb3⟩
                          have hbW2 := mkHid (hbW1.out.trans (hb3.mono hs3))
                          have hb4 := mkHid (hb2.out.trans (hb3.mono (Nat.le_trans hWG hs3)))
                          have r2' := (hb3.cell (p := ⟨G, 2, none⟩) (Nat.lt_of_lt_of_le hgq hs3)).trans r2
                          have hA2 := HA0.out.same (Same.of_below (lo := lo) hb4.out (Nat.le_refl _)) Hha.out.1 Hha.out.2
                          have l1 := hA2.c1
                          clear hb3 r2 j1 j2 cY hA2
                          by_cases x3 : 0 ≤ m.prefer
                          · have y3 : decide (m.prefer < 0) = false := by simp; omega
                            by_cases x4 : m.prefer ≤ 1000
                            · have y4 : decide ((1000 : Int) < m.prefer) = false := by simp; omega
                              have hr : Hid (dcode ((n.mx.drop (i + 1)).all Ky.mok && n.delays.all Ky.lok) = R) := show _ = _ from by rw [← hst.out, Ky.mok, x1, x2, decide_eq_true x3, decide_eq_true x4]; rfl
                              clear x1 x2 hst
                              go_wp2
                              go_roundw
                              case rel => exact ⟨i + 1, by omega, by go_num, hr, hbW2⟩
                              case measure => simp [Lib.intOf]; omega
                            · have y4 : decide ((1000 : Int) < m.prefer) = true := by simp; omega
                              have hr : Hid (R = 1) := show _ = _ from by rw [← hst.out, Ky.mok, x1, x2, decide_eq_false x4, Bool.and_false]; rfl
                              clear x1 x2 hst
                              go_wp2
                              go_ret
                              rw [hr.out]
                              first | exact ⟨rfl, hb4.out⟩ | (rw [hG]; exact ⟨rfl, hb4.out⟩)
                          · have y3 : decide (m.prefer < 0) = true := by simp; omega
                            have hr : Hid (R = 1) := show _ = _ from by rw [← hst.out, Ky.mok, x1, x2, decide_eq_false x3, Bool.false_and]; rfl
                            clear x1 x2 hst
                            go_wp2
                            go_ret
                            rw [hr.out]
                            first | exact ⟨rfl, hb4.out⟩ | (rw [hG]; exact ⟨rfl, hb4.out⟩)
                    · have hR3 : Hid (dcode ((n.delays.drop 0).all Ky.lok) = R) := show _ = _ from by rw [← hRi.out, Ky.all_end Ky.mok n.mx i (by omega), Bool.true_and, List.drop_zero]
                      have hWG : G ≤ W.heap.size := Nat.le_of_lt hgq
                      have hbG := mkHid (hbw.trans (hb.out.mono hWG))
                      clear hRi hb
                      obtain ⟨V2, hV2⟩ : ∃ V2, V2 = wr := ⟨_, rfl⟩
                      subst hV2
                      go_wp2
                      go_loopw [4] (fun kv wr2 => ∃ k : Nat, k ≤ n.delays.length ∧ kv = .int .i64 k ∧ Hid (dcode ((n.delays.drop k).all Ky.lok) = R) ∧ wr2 = V2) (fun kv _ => n.delays.length - (Lib.intOf kv).toNat)
                      case atStart => exact ⟨0, Nat.zero_le _, rfl, hR3, rfl⟩
                      case round =>
                        clear hR3
                        obtain ⟨k, hk, rfl, hRk, rfl⟩ := hrel
                        by_cases hkl : k < n.delays.length
                        · obtain ⟨b, rfl, hb0, hb1, ck⟩ := (S3.out.below hbG.out (Nat.le_refl _)) k hkl
                          have hst : Hid (dcode (Ky.lok n.delays[k] && (n.delays.drop (k + 1)).all Ky.lok) = R) := show _ = _ from by rw [← hRk.out, Ky.all_drop _ _ _ hkl]
                          clear hRk
                          generalize n.delays[k] = z at *
                          by_cases z1 : 1 ≤ z
                          · have y1 : decide (z < 1) = false := by simp; omega
                            by_cases z2 : z ≤ 253402300799
                            · have y2 : decide ((253402300799 : Int) < z) = false := by simp; omega
                              have hr : Hid (dcode ((n.delays.drop (k + 1)).all Ky.lok) = R) := show _ = _ from by rw [← hst.out, Ky.lok, decide_eq_true z1, decide_eq_true z2]; rfl
                              go_wp2
                              go_roundw
                              case rel => exact ⟨k + 1, by omega, by go_num, hr, trivial⟩
                              case measure => simp [Lib.intOf]; omega
                            · have y2 : decide ((253402300799 : Int) < z) = true := by simp; omega
                              have hr : Hid (R = 1) := show _ = _ from by rw [← hst.out, Ky.lok, decide_eq_false z2, Bool.and_false, Bool.false_and]; rfl
                              go_wp2
                              go_ret
                              rw [hr.out]
                              first | exact ⟨rfl, hbG.out⟩ | (rw [hG]; exact ⟨rfl, hbG.out⟩)
                          · have y1 : decide (z < 1) = true := by simp; omega
                            have hr : Hid (R = 1) := show _ = _ from by rw [← hst.out, Ky.lok, decide_eq_false z1, Bool.false_and, Bool.false_and]; rfl
                            go_wp2
                            go_ret
                            rw [hr.out]
                            first | exact ⟨rfl, hbG.out⟩ | (rw [hG]; exact ⟨rfl, hbG.out⟩)
                        · have hr : Hid (R = 0) := show _ = _ from by rw [← hRk.out, Ky.all_end Ky.lok n.delays k (by omega)]; rfl
                          go_wp2
                          go_ret
                          rw [hr.out]
                          first | exact ⟨rfl, hbG.out⟩ | (rw [hG]; exact ⟨rfl, hbG.out⟩)
end Go.Proofs.YteiokojdbblcdaaDoor
