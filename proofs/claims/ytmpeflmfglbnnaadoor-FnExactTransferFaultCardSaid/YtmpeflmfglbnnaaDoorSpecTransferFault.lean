
/- The specification's TransferFault. (By tools/gen/spectransfer.py.) -/
import Derived.Test.YtmpeflmfglbnnaaDoorSignTests
import Derived.Test.YtmpeflmfglbnnaaDoorSumSpec
import Derived.Test.YtmpeflmfglbnnaaDoorKyDom
import Derived.Test.YtmpeflmfglbnnaaDoorGenTransferConfig
import Derived.Lib.QuietBelow
import Derived.BigQuiet
namespace Go.Proofs.YtmpeflmfglbnnaaDoor
open Go.RowKit Go.Lib Go.Maps
namespace Tf
set_option maxRecDepth 20000 in
theorem all_drop {α : Type} (K : α → Bool) (F : List α) (k : Nat) (h : k < F.length) : (F.drop k).all K = (K F[k] && (F.drop (k + 1)).all K) := by
  rw [List.drop_eq_getElem_cons h, List.all_cons]
set_option maxRecDepth 20000 in
theorem all_end {α : Type} (K : α → Bool) (F : List α) (k : Nat) (h : F.length ≤ k) : (F.drop k).all K = true := by
  rw [List.drop_eq_nil_of_le h, List.all_nil]
def uok (u : GSignKey) : Bool := Pl.domOk u.domain.data.toList && (Pl.selOk u.selector.data.toList && keyOk u.a u.b)
def t2 (n : GTransferConfig) : Bool := (Ky.low n.locF).toList == n.locF.toList
def t3 (n : GTransferConfig) : Bool := decide (1 ≤ n.maxBytes)
def t4 (n : GTransferConfig) : Bool := decide (n.maxBytes ≤ 100000)
def t5 (n : GTransferConfig) : Bool := decide (n.users.length ≤ 100)
def t6 (n : GTransferConfig) : Bool := decide (0 ≤ n.seed)
def t7 (n : GTransferConfig) : Bool := decide (n.seed ≤ 4294967295)
def ok (n : GTransferConfig) : Bool := Ky.dok n.locF && (t2 n && (t3 n && (t4 n && (t5 n && (t6 n && (t7 n && n.users.all uok))))))
end Tf
set_option maxRecDepth 20000 in
theorem four_cells {w : World} {g t : Nat} {z : Nat × Nat} {u0 u1 u2 u3 : Value} (h : w.heap[g]? = some (.cells #[u0, u1, u2, u3] t z)) : w.cell? ⟨g, 0, none⟩ = some u0 ∧ w.cell? ⟨g, 1, none⟩ = some u1 ∧ w.cell? ⟨g, 2, none⟩ = some u2 ∧ w.cell? ⟨g, 3, none⟩ = some u3 := by
  refine ⟨?_, ?_, ?_, ?_⟩ <;> simp [World.cell?, h]
abbrev plTransferFault (n : GTransferConfig) : Int := dcode (Tf.ok n)
set_option maxHeartbeats 8000000 in
set_option maxRecDepth 20000 in
theorem specTransferFault (n : GTransferConfig) (v3 : Value) (lo : Nat) (w : World) (hI : GTransferConfigIn lo w.heap.size w n v3) (hf : n.fits 1048576) :
    Calls Tryd.prog 5 #[GTransferConfigV n v3] w fun e w' => e = .returned (.int .i64 (plTransferFault n)) ∧ Below w.heap.size w w' := by
  obtain ⟨⟨a3, e3, rfl, s3⟩⟩ := hI
  obtain ⟨f0, f3, f3b⟩ := hf
  unfold GTransferConfigV plTransferFault
  obtain ⟨V, hV⟩ : ∃ V, V = w.alloc (.cells #[.string n.locF, .bool n.relay, .int .i64 n.maxBytes, .slice a3 n.users.length e3, .int .i64 n.seed] 29) := ⟨_, rfl⟩
  have hbV : Below w.heap.size w V := by rw [hV]; exact (Below.refl _ _).alloc (Nat.le_refl _) _
  have c0 : V.cell? ⟨w.heap.size, 0, none⟩ = some (.string n.locF) := by rw [hV]; simp
  have c2 : V.cell? ⟨w.heap.size, 2, none⟩ = some (.int .i64 n.maxBytes) := by rw [hV]; simp
  have c3 : V.cell? ⟨w.heap.size, 3, none⟩ = some (.slice a3 n.users.length e3) := by rw [hV]; simp
  have c4 : V.cell? ⟨w.heap.size, 4, none⟩ = some (.int .i64 n.seed) := by rw [hV]; simp
  have hgl : w.heap.size < V.heap.size := by rw [hV]; simp
  have k0 := cell_regrown c0
  have k2 := cell_regrown c2
  have k3 := cell_regrown c3
  have k4 := cell_regrown c4
  have cD : Hid (∀ d os, Calls Tryd.prog 10 #[.string n.locF] (Go.Sort.grow (redrawn V d) os) fun e w'' => e = .returned (.bool (Ky.dok n.locF)) ∧ ∃ p : Regrown, w'' = Go.Sort.grow (redrawn V p.d) p.os) := fun d os => Calls.regrown_of (specKDomain n.locF _ (by omega))
  have cL : Hid (Ky.dok n.locF = true → ∀ d os, Calls Tryd.prog 11 #[.string n.locF] (Go.Sort.grow (redrawn V d) os) fun e w'' => e = .returned (.string (Ky.low n.locF)) ∧ ∃ p : Regrown, w'' = Go.Sort.grow (redrawn V p.d) p.os) := fun h d os => Calls.regrown_of (specLower n.locF _ (by have := Ky.dok_size _ h; omega))
  obtain ⟨R, hR⟩ : ∃ R, dcode (Tf.ok n) = R := ⟨_, rfl⟩
  rw [hR]
  replace hR := mkHid hR
  have S3 := mkHid s3
  have F3 := mkHid f3b
  replace hV := mkHid hV
  clear s3 f3b
  cases x0 : Ky.dok n.locF
  · rw [x0] at cD
    have hr : Hid (R = 1) := show _ = _ from by rw [← hR.out, Tf.ok, x0]; simp only [Bool.false_and]; rfl
    clear x0 hR cL
    go_enter Tryd.func5, Tryd.ntmps5
    go_wp2
    rw [← hV.out]
    refine wp_region_quiet_below (by kernel_rfl) (by kernel_rfl) ?_
    repeat (go_big_quiet_step (first | exact cD.out _ _))
    refine wpQuiet_nil ?_
    intro _ hw'
    obtain ⟨⟨dq, osq⟩, hw''⟩ := hw'
    subst hw''
    go_wp2
    go_ret
    rw [hr.out]
    exact ⟨rfl, hbV.trans ((below_regrown V dq osq).mono hbV.size)⟩
  · rw [x0] at cD
    have cL2 : Hid (∀ d os, Calls Tryd.prog 11 #[.string n.locF] (Go.Sort.grow (redrawn V d) os) fun e w'' => e = .returned (.string (Ky.low n.locF)) ∧ ∃ p : Regrown, w'' = Go.Sort.grow (redrawn V p.d) p.os) := cL.out x0
    cases x1 : Tf.t2 n
    · have y1 : ((Ky.low n.locF).toList == n.locF.toList) = false := x1
      have hr : Hid (R = 1) := show _ = _ from by rw [← hR.out, Tf.ok, x0, x1]; simp only [Bool.true_and, Bool.false_and]; rfl
      clear x0 x1 hR cL
      go_enter Tryd.func5, Tryd.ntmps5
      go_wp2
      rw [← hV.out]
      refine wp_region_quiet_below (by kernel_rfl) (by kernel_rfl) ?_
      repeat (go_big_quiet_step (first | exact cD.out _ _ | exact cL2.out _ _))
      refine wpQuiet_nil ?_
      intro _ hw'
      obtain ⟨⟨dq, osq⟩, hw''⟩ := hw'
      subst hw''
      go_wp2
      go_ret
      rw [hr.out]
      exact ⟨rfl, hbV.trans ((below_regrown V dq osq).mono hbV.size)⟩
    · have y1 : ((Ky.low n.locF).toList == n.locF.toList) = true := x1
      cases x2 : Tf.t3 n
      · have y2 : decide (n.maxBytes < 1) = true := by have := of_decide_eq_false (show decide (1 ≤ n.maxBytes) = false from x2); exact decide_eq_true (by omega)
        have hr : Hid (R = 1) := show _ = _ from by rw [← hR.out, Tf.ok, x0, x1, x2]; simp only [Bool.true_and, Bool.false_and]; rfl
        clear x0 x1 x2 hR cL
        go_enter Tryd.func5, Tryd.ntmps5
        go_wp2
        rw [← hV.out]
        refine wp_region_quiet_below (by kernel_rfl) (by kernel_rfl) ?_
        repeat (go_big_quiet_step (first | exact cD.out _ _ | exact cL2.out _ _))
        refine wpQuiet_nil ?_
        intro _ hw'
        obtain ⟨⟨dq, osq⟩, hw''⟩ := hw'
        subst hw''
        go_wp2
        go_ret
        rw [hr.out]
        exact ⟨rfl, hbV.trans ((below_regrown V dq osq).mono hbV.size)⟩
      · have y2 : decide (n.maxBytes < 1) = false := by have := of_decide_eq_true (show decide (1 ≤ n.maxBytes) = true from x2); exact decide_eq_false (by omega)
        cases x3 : Tf.t4 n
        · have y3 : decide ((100000 : Int) < n.maxBytes) = true := by have := of_decide_eq_false (show decide (n.maxBytes ≤ 100000) = false from x3); exact decide_eq_true (by omega)
          have hr : Hid (R = 1) := show _ = _ from by rw [← hR.out, Tf.ok, x0, x1, x2, x3]; simp only [Bool.true_and, Bool.false_and]; rfl
          clear x0 x1 x2 x3 hR cL
          go_enter Tryd.func5, Tryd.ntmps5
          go_wp2
          rw [← hV.out]
          refine wp_region_quiet_below (by kernel_rfl) (by kernel_rfl) ?_
          repeat (go_big_quiet_step (first | exact cD.out _ _ | exact cL2.out _ _))
          refine wpQuiet_nil ?_
          intro _ hw'
          obtain ⟨⟨dq, osq⟩, hw''⟩ := hw'
          subst hw''
          go_wp2
          go_ret
          rw [hr.out]
          exact ⟨rfl, hbV.trans ((below_regrown V dq osq).mono hbV.size)⟩
        · have y3 : decide ((100000 : Int) < n.maxBytes) = false := by have := of_decide_eq_true (show decide (n.maxBytes ≤ 100000) = true from x3); exact decide_eq_false (by omega)
          cases x4 : Tf.t5 n
          · have y4 : decide ((100 : Int) < (n.users.length : Int)) = true := by have := of_decide_eq_false (show decide (n.users.length ≤ 100) = false from x4); exact decide_eq_true (by omega)
            have hr : Hid (R = 1) := show _ = _ from by rw [← hR.out, Tf.ok, x0, x1, x2, x3, x4]; simp only [Bool.true_and, Bool.false_and]; rfl
            clear x0 x1 x2 x3 x4 hR cL
            go_enter Tryd.func5, Tryd.ntmps5
            go_wp2
            rw [← hV.out]
            refine wp_region_quiet_below (by kernel_rfl) (by kernel_rfl) ?_
            repeat (go_big_quiet_step (first | exact cD.out _ _ | exact cL2.out _ _))
            refine wpQuiet_nil ?_
            intro _ hw'
            obtain ⟨⟨dq, osq⟩, hw''⟩ := hw'
            subst hw''
            go_wp2
            go_ret
            rw [hr.out]
            exact ⟨rfl, hbV.trans ((below_regrown V dq osq).mono hbV.size)⟩
          · have y4 : decide ((100 : Int) < (n.users.length : Int)) = false := by have := of_decide_eq_true (show decide (n.users.length ≤ 100) = true from x4); exact decide_eq_false (by omega)
            cases x5 : Tf.t6 n
            · have y5 : decide (n.seed < 0) = true := by have := of_decide_eq_false (show decide (0 ≤ n.seed) = false from x5); exact decide_eq_true (by omega)
              have hr : Hid (R = 1) := show _ = _ from by rw [← hR.out, Tf.ok, x0, x1, x2, x3, x4, x5]; simp only [Bool.true_and, Bool.false_and]; rfl
              clear x0 x1 x2 x3 x4 x5 hR cL
              go_enter Tryd.func5, Tryd.ntmps5
              go_wp2
              rw [← hV.out]
              refine wp_region_quiet_below (by kernel_rfl) (by kernel_rfl) ?_
              repeat (go_big_quiet_step (first | exact cD.out _ _ | exact cL2.out _ _))
              refine wpQuiet_nil ?_
              intro _ hw'
              obtain ⟨⟨dq, osq⟩, hw''⟩ := hw'
              subst hw''
              go_wp2
              go_ret
              rw [hr.out]
              exact ⟨rfl, hbV.trans ((below_regrown V dq osq).mono hbV.size)⟩
            · have y5 : decide (n.seed < 0) = false := by have := of_decide_eq_true (show decide (0 ≤ n.seed) = true from x5); exact decide_eq_false (by omega)
              cases x6 : Tf.t7 n
              · have y6 : decide ((4294967295 : Int) < n.seed) = true := by have := of_decide_eq_false (show decide (n.seed ≤ 4294967295) = false from x6); exact decide_eq_true (by omega)
                have hr : Hid (R = 1) := show _ = _ from by rw [← hR.out, Tf.ok, x0, x1, x2, x3, x4, x5, x6]; simp only [Bool.true_and, Bool.false_and]; rfl
                clear x0 x1 x2 x3 x4 x5 x6 hR cL
                go_enter Tryd.func5, Tryd.ntmps5
                go_wp2
                rw [← hV.out]
                refine wp_region_quiet_below (by kernel_rfl) (by kernel_rfl) ?_
                repeat (go_big_quiet_step (first | exact cD.out _ _ | exact cL2.out _ _))
                refine wpQuiet_nil ?_
                intro _ hw'
                obtain ⟨⟨dq, osq⟩, hw''⟩ := hw'
                subst hw''
                go_wp2
                go_ret
                rw [hr.out]
                exact ⟨rfl, hbV.trans ((below_regrown V dq osq).mono hbV.size)⟩
              · have y6 : decide ((4294967295 : Int) < n.seed) = false := by have := of_decide_eq_true (show decide (n.seed ≤ 4294967295) = true from x6); exact decide_eq_false (by omega)
                have hR2 : Hid (dcode ((n.users.drop 0).all Tf.uok) = R) := show _ = _ from by rw [List.drop_zero, ← hR.out, Tf.ok, x0, x1, x2, x3, x4, x5, x6]; simp only [Bool.true_and]
                clear x0 x1 x2 x3 x4 x5 x6 hR cL
                go_enter Tryd.func5, Tryd.ntmps5
                go_wp2
                rw [← hV.out]
                refine wp_region_quiet_below (by kernel_rfl) (by kernel_rfl) ?_
                repeat (go_big_quiet_step (first | exact cD.out _ _ | exact cL2.out _ _))
                refine wpQuiet_nil ?_
                intro _ hw'
                obtain ⟨⟨dq, osq⟩, hw''⟩ := hw'
                subst hw''
                have hbq := below_regrown V dq osq
                have hbw := hbV.trans (hbq.mono hbV.size)
                have p3 := (hbq.cell (p := ⟨w.heap.size, 3, none⟩) hgl).trans c3
                have hgq : w.heap.size < (Go.Sort.grow (redrawn V dq) osq).heap.size := Nat.lt_of_lt_of_le hgl hbq.size
                generalize Go.Sort.grow (redrawn V dq) osq = W at *
                clear c0 c2 c3 c4 k0 k2 k3 k4 cD cL2 hbq hV hbV hgl
                go_wp2
                generalize hG : w.heap.size = G at *
                go_loopw [3] (fun iv wr => ∃ i : Nat, i ≤ n.users.length ∧ iv = .int .i64 i ∧ Hid (dcode ((n.users.drop i).all Tf.uok) = R) ∧ Hid (Below W.heap.size W wr)) (fun iv _ => n.users.length - (Lib.intOf iv).toNat)
                case atStart => exact ⟨0, Nat.zero_le _, rfl, hR2, Below.refl _ _⟩
                case round =>
                  clear hR2
                  obtain ⟨i, hi', rfl, hRi, hb⟩ := hrel
                  have q3 := (hb.out.cell (p := ⟨G, 3, none⟩) hgq).trans p3
                  have hWG : G ≤ W.heap.size := Nat.le_of_lt hgq
                  have hbG := mkHid (hbw.trans (hb.out.mono hWG))
                  by_cases hlt : i < n.users.length
                  · obtain ⟨a, rfl, ha0, ha, hA0⟩ := S3.out i hlt
                    have hA := hA0.same (Same.of_below (lo := lo) hbG.out (Nat.le_refl _)) (by rw [add_blockG]; exact ha0) (by rw [add_blockG]; exact ha)
                    have d0 := hA.c0
                    have d1 := hA.c1
                    have d2 := hA.c2
                    have d3 := hA.c3
                    obtain ⟨g1, g2⟩ := F3.out n.users[i] (List.getElem_mem hlt)
                    have hst : Hid (dcode (Tf.uok n.users[i] && (n.users.drop (i + 1)).all Tf.uok) = R) := show _ = _ from by rw [← hRi.out, Tf.all_drop _ _ _ hlt]
                    clear hA hA0 hRi
                    generalize n.users[i] = m at *
                    obtain ⟨U, hU⟩ : ∃ U, U = wr.alloc (.cells #[.string m.domain, .string m.selector, .int .i64 m.a, .int .i64 m.b] 37) := ⟨_, rfl⟩
                    have bU : Below wr.heap.size wr U := by rw [hU]; exact (Below.refl _ _).alloc (Nat.le_refl _) _
                    have hUs : wr.heap.size < U.heap.size := by rw [hU]; simp
                    have u0 : U.heap[wr.heap.size]? = some (.cells #[.string m.domain, .string m.selector, .int .i64 m.a, .int .i64 m.b] 37 (0, 0)) := by rw [hU]; exact heap_alloc_at _ _
                    have cX := mkHid (specSignDomain m.domain U (by omega))
                    have cY := mkHid (fun w' => specSelector m.selector w' (by omega))
                    have cZ := mkHid (fun w' => specKey m.domain m.selector m.a m.b w')
                    have hs2 := hb.out.size
                    have hBU := mkHid (hb.out.trans (bU.mono hs2))
                    have HU := mkHid hU
                    clear hU bU
                    generalize hGU : wr.heap.size = GU at *
                    cases x1 : Pl.domOk m.domain.data.toList
                    · rw [x1] at cX
                      have hr : Hid (R = 1) := show _ = _ from by rw [← hst.out, Tf.uok, x1]; rfl
                      clear x1 hst
                      go_wp2_with (go_at_call 12; fail)
                      rw [← HU.out]
                      refine cX.out.mono ?_
                      rintro e w1 ⟨rfl, hb1⟩
                      have hbF := mkHid (hbw.trans ((hBU.out.trans (hb1.mono hBU.out.size)).mono hWG))
                      clear cX hb1
                      go_wp2
                      go_ret
                      rw [hr.out]
                      first | exact ⟨rfl, hbF.out⟩ | (rw [hG]; exact ⟨rfl, hbF.out⟩)
                    · rw [x1] at cX
                      cases x2 : Pl.selOk m.selector.data.toList
                      · rw [x2] at cY
                        have hr : Hid (R = 1) := show _ = _ from by rw [← hst.out, Tf.uok, x1, x2]; rfl
                        clear x1 x2 hst
                        go_wp2_with (go_at_call 12; fail)
                        rw [← HU.out]
                        refine cX.out.mono ?_
                        rintro e w1 ⟨rfl, hb1⟩
                        have hbF := mkHid (hbw.trans ((hBU.out.trans (hb1.mono hBU.out.size)).mono hWG))
                        have u1 := (hb1.block GU (by omega)).trans u0
                        obtain ⟨-, z1, -, -⟩ := four_cells u1
                        clear cX hb1 u0 u1
                        go_wp2_with (go_at_call 13; fail)
                        refine (cY.out w1).mono ?_
                        rintro e w2 ⟨rfl, rfl⟩
                        clear cY
                        go_wp2
                        go_ret
                        rw [hr.out]
                        first | exact ⟨rfl, hbF.out⟩ | (rw [hG]; exact ⟨rfl, hbF.out⟩)
                      · rw [x2] at cY
                        go_wp2_with (go_at_call 12; fail)
                        rw [← HU.out]
                        refine cX.out.mono ?_
                        rintro e w1 ⟨rfl, hb1⟩
                        have hbX := mkHid (hBU.out.trans (hb1.mono hBU.out.size))
                        have u1 := (hb1.block GU (by omega)).trans u0
                        obtain ⟨z0, z1, z2, z3⟩ := four_cells u1
                        clear cX hb1 u0 HU d0 d1 d2 d3 q3
                        go_wp2_with (go_at_call 13; fail)
                        refine (cY.out w1).mono ?_
                        rintro e w2 ⟨rfl, rfl⟩
                        clear cY
                        cases x3 : keyOk m.a m.b
                        · rw [x3] at cZ
                          have hr : Hid (R = 1) := show _ = _ from by rw [← hst.out, Tf.uok, x1, x2, x3]; rfl
                          clear x1 x2 x3 hst
                          go_wp2_with (go_at_call 14; fail)
                          refine (cZ.out w1).mono ?_
                          rintro e w3 ⟨rfl, hb3⟩
                          have hbF := mkHid (hbw.trans ((hbX.out.trans (hb3.mono hbX.out.size)).mono hWG))
                          clear cZ hb3
                          go_wp2
                          go_ret
                          rw [hr.out]
                          first | exact ⟨rfl, hbF.out⟩ | (rw [hG]; exact ⟨rfl, hbF.out⟩)
                        · rw [x3] at cZ
                          have hr : Hid (dcode ((n.users.drop (i + 1)).all Tf.uok) = R) := show _ = _ from by rw [← hst.out, Tf.uok, x1, x2, x3]; rfl
                          clear x1 x2 x3 hst
                          go_wp2_with (go_at_call 14; fail)
                          refine (cZ.out w1).mono ?_
                          rintro e w3 ⟨rfl, hb3⟩
                          have hbF := mkHid (hbX.out.trans (hb3.mono hbX.out.size))
                          clear cZ hb3 z0 z1 z2 z3 u1
                          go_wp2
                          go_roundw
                          case rel => exact ⟨i + 1, by omega, by go_num, hr, hbF⟩
                          case measure => simp [Lib.intOf]; omega
                  · have hr : Hid (R = 0) := show _ = _ from by rw [← hRi.out, Tf.all_end Tf.uok n.users i (by omega)]; rfl
                    go_wp2
                    go_ret
                    rw [hr.out]
                    first | exact ⟨rfl, hbG.out⟩ | (rw [hG]; exact ⟨rfl, hbG.out⟩)
end Go.Proofs.YtmpeflmfglbnnaaDoor
