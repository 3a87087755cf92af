
/- The specification's StoreFault. (By tools/gen/specstorefault.py.) -/
import Derived.Test.YtbepjjnjdhkcbaaDoorSpecBox
import Derived.Test.YtbepjjnjdhkcbaaDoorSpecBoxName
import Derived.Test.YtbepjjnjdhkcbaaDoorSpecStore
namespace Go.Proofs.YtbepjjnjdhkcbaaDoor
open Go.RowKit Go.Lib Go.Maps
namespace St
def lessO (p : Option ByteArray) (t : ByteArray) : Bool := match p with | none => true | some q => Op.bytesLess q.toList t.toList
def okOne (nv : Int) (p : Option ByteArray) (P : List GMailbox) (b : GMailbox) : Bool := boxName b.name && (lessO p b.name && (decide (1 ≤ b.validity) && (decide (b.validity < nv) && (okBox b && !P.any (fun x => x.validity == b.validity)))))
def okBoxes (nv : Int) : Option ByteArray → List GMailbox → List GMailbox → Bool
  | _, _, [] => true
  | p, P, b :: r => okOne nv p P b && okBoxes nv (some b.name) (P ++ [b]) r
theorem boxes_step (nv : Int) (p : Option ByteArray) (F : List GMailbox) (k : Nat) (h : k < F.length) : okBoxes nv p (F.take k) (F.drop k) = (okOne nv p (F.take k) F[k] && okBoxes nv (some F[k].name) (F.take (k + 1)) (F.drop (k + 1))) := by
  rw [List.drop_eq_getElem_cons h, okBoxes, List.take_succ_eq_append_getElem h]
def inbox : ByteArray := ⟨#[73, 78, 66, 79, 88]⟩
def okStore (n : GStore) : Bool := decide (1 ≤ n.nextValidity) && (decide (n.nextValidity ≤ 4294967295) && (decide (1 ≤ n.boxes.length) && (decide (n.boxes.length ≤ 32) && (decide (0 ≤ findFrom inbox 0 n.boxes) && (okBoxes n.nextValidity none [] n.boxes && decide (boxBytes n.boxes ≤ 400000))))))
end St
def plStoreFault (n : GStore) : Int := St.code (St.okStore n)
set_option maxHeartbeats 40000000 in
set_option maxRecDepth 20000 in
theorem specStoreFault (n : GStore) (v1 : Value) (lo : Nat) (w : World) (hI : GStoreIn lo w.heap.size w n v1) (hf : n.fits 1048576) :
    Calls Tryd.prog 5 #[GStoreV n v1] w fun e w' => e = .returned (.int .i64 (plStoreFault n)) ∧ Below w.heap.size w w' := by
  obtain ⟨⟨a1, c1, rfl, t1⟩⟩ := hI
  obtain ⟨f1, f2⟩ := hf
  obtain ⟨Z, hZ⟩ : ∃ Z, plStoreFault n = Z := ⟨_, rfl⟩
  rw [hZ]
  unfold plStoreFault St.okStore at hZ
  obtain ⟨W, hW⟩ : ∃ W, W = w.alloc (.cells #[.int .i64 n.nextValidity, .slice a1 n.boxes.length c1] 29) := ⟨_, rfl⟩
  have hbA : Below w.heap.size w W := by rw [hW]; exact (Below.refl _ _).alloc (Nat.le_refl _) _
  have hWs : w.heap.size < W.heap.size := by rw [hW]; simp
  have q0 : W.cell? ⟨w.heap.size, 0, none⟩ = some (.int .i64 n.nextValidity) := by rw [hW]; simp
  have q1 : W.cell? ⟨w.heap.size, 1, none⟩ = some (.slice a1 n.boxes.length c1) := by rw [hW]; simp
  have HT := mkHid ((t1.below hbA (Nat.le_refl _)).mono (Nat.le_refl _) hbA.size)
  have cF := mkHid fun (W' : World) (hb' : Below W.heap.size W W') => specFindBox n (.slice a1 n.boxes.length c1) St.inbox lo W' ⟨⟨_, _, rfl, (HT.out.below hb' (Nat.le_refl _)).mono (Nat.le_refl _) hb'.size⟩⟩ ⟨f1, f2⟩ (by decide)
  have cS := mkHid fun (W' : World) (hb' : Below W.heap.size W W') => specStoreBytes n (.slice a1 n.boxes.length c1) lo W' ⟨⟨_, _, rfl, (HT.out.below hb' (Nat.le_refl _)).mono (Nat.le_refl _) hb'.size⟩⟩ ⟨f1, f2⟩
  have hmax := St.boxBytes_le n.boxes f2
  unfold plFindBox GStoreV St.inbox at cF
  unfold plStoreBytes GStoreV at cS
  unfold St.inbox at hZ
  have Hf := mkHid f2
  have HW := mkHid hW
  clear hW t1 f2
  unfold GStoreV
  generalize n.boxes = F at *
  generalize n.nextValidity = nv at *
  obtain ⟨fb, hfb⟩ : ∃ fb, St.findFrom ⟨#[73, 78, 66, 79, 88]⟩ 0 F = fb := ⟨_, rfl⟩
  obtain ⟨by0, hby⟩ : ∃ y, St.boxBytes F = y := ⟨_, rfl⟩
  rw [hfb] at cF hZ
  rw [hby] at cS hZ hmax
  clear hfb hby
  by_cases h0 : 1 ≤ nv
  · have x0 : decide (nv < 1) = false := decide_eq_false (by omega)
    rw [decide_eq_true h0, Bool.true_and] at hZ
    by_cases h1 : nv ≤ 4294967295
    · have x1 : decide (4294967295 < nv) = false := decide_eq_false (by omega)
      rw [decide_eq_true h1, Bool.true_and] at hZ
      by_cases h2 : 1 ≤ F.length
      · have x2 : decide ((F.length : Int) < 1) = false := decide_eq_false (by omega)
        rw [decide_eq_true h2, Bool.true_and] at hZ
        by_cases h3 : F.length ≤ 32
        · have x3 : decide ((32 : Int) < (F.length : Int)) = false := decide_eq_false (by omega)
          rw [decide_eq_true h3, Bool.true_and] at hZ
          by_cases h4 : 0 ≤ fb
          · have x4 : decide (fb < 0) = false := decide_eq_false (by omega)
            rw [decide_eq_true h4, Bool.true_and] at hZ
            have HZ : Hid (St.code (St.okBoxes nv none (F.take 0) (F.drop 0) && decide (by0 ≤ 400000)) = Z) := hZ
            clear hZ
            go_enter Tryd.func5, Tryd.ntmps5
            go_wp2_with fail
            rw [← HW.out]
            clear HW
            refine (cF.out W (Below.refl _ _)).mono ?_
            rintro e w1 ⟨rfl, hb1⟩
            clear cF
            have hbB1 := hbA.trans (hb1.mono (Nat.le_of_lt hWs))
            generalize hG : w.heap.size = G at *
            have p0 := (hb1.cell (p := ⟨G, 0, none⟩) hWs).trans q0
            have p1 := (hb1.cell (p := ⟨G, 1, none⟩) hWs).trans q1
            have hG1 : G < w1.heap.size := Nat.lt_of_lt_of_le hWs hb1.size
            go_wp2
            go_loopw [3] (fun iv wr => ∃ (i : Nat) (p : Option ByteArray), i ≤ F.length ∧ iv = .int .i64 i ∧ Hid (St.code (St.okBoxes nv p (F.take i) (F.drop i) && decide (by0 ≤ 400000)) = Z) ∧ Hid ((i = 0 ∧ p = none) ∨ ∃ (j : Nat) (h : j < F.length), i = j + 1 ∧ p = some F[j].name) ∧ Below w1.heap.size w1 wr) (fun iv _ => F.length - (Lib.intOf iv).toNat)
            case atStart => exact ⟨0, none, Nat.zero_le _, rfl, HZ, .inl ⟨rfl, rfl⟩, Below.refl _ _⟩
            case round =>
              clear HZ
              obtain ⟨i, p, hi, rfl, hz, hp, hb⟩ := hrel
              have hbW := hb1.trans (hb.mono hb1.size)
              have r0 := (hb.cell (p := ⟨G, 0, none⟩) hG1).trans p0
              have r1 := (hb.cell (p := ⟨G, 1, none⟩) hG1).trans p1
              have hGr : G < wr.heap.size := Nat.lt_of_lt_of_le hG1 hb.size
              by_cases hlt : i < F.length
              · obtain ⟨a, v4, v5, rfl, ha1, ha2, hA, hIn⟩ := (HT.out.below hbW (Nat.le_refl _)) i hlt
                have hbf := mkHid (Hf.out F[i] (List.getElem_mem hlt))
                have d0 := hA.c0
                have d1 := hA.c1
                have d2 := hA.c2
                have d3 := hA.c3
                have d4 := hA.c4
                have d5 := hA.c5
                have hz1 := hz.out
                rw [St.boxes_step nv p F i hlt] at hz1
                unfold St.okOne at hz1
                have hnw : Hid (F[i].name = F[i].name) := rfl
                obtain ⟨⟨a4, k4, rfl, t4⟩, ⟨a5, k5, rfl, t5⟩⟩ := hIn
                have hIn : Hid (GMailboxIn lo W.heap.size wr F[i] (.slice a4 F[i].mails.length k4) (.slice a5 F[i].gones.length k5)) := ⟨⟨_, _, rfl, t4⟩, ⟨_, _, rfl, t5⟩⟩
                obtain ⟨b, hbq⟩ : ∃ b, F[i] = b := ⟨_, rfl⟩
                have Hbq : Hid (F[i].name = b.name) := by rw [hbq]; rfl
                rw [hbq] at d0 d1 d2 d3 d4 d5 hz1 hbf hIn
                clear hz hA t4 t5 hbq hnw
                obtain ⟨V, hV⟩ : ∃ V, V = wr.alloc (.cells #[.string b.name, .int .i64 b.validity, .int .i64 b.nextUid, .int .i64 b.topMod, .slice a4 b.mails.length k4, .slice a5 b.gones.length k5] 38) := ⟨_, rfl⟩
                have hbV : Below wr.heap.size wr V := by rw [hV]; exact (Below.refl _ _).alloc (Nat.le_refl _) _
                have hVs : wr.heap.size < V.heap.size := by rw [hV]; simp
                have e0 : V.cell? ⟨wr.heap.size, 0, none⟩ = some (.string b.name) := by rw [hV]; simp
                have e1 : V.cell? ⟨wr.heap.size, 1, none⟩ = some (.int .i64 b.validity) := by rw [hV]; simp
                have e2 : V.cell? ⟨wr.heap.size, 2, none⟩ = some (.int .i64 b.nextUid) := by rw [hV]; simp
                have e3 : V.cell? ⟨wr.heap.size, 3, none⟩ = some (.int .i64 b.topMod) := by rw [hV]; simp
                have e4 : V.cell? ⟨wr.heap.size, 4, none⟩ = some (.slice a4 b.mails.length k4) := by rw [hV]; simp
                have e5 : V.cell? ⟨wr.heap.size, 5, none⟩ = some (.slice a5 b.gones.length k5) := by rw [hV]; simp
                have s0 := (hbV.cell (p := ⟨G, 0, none⟩) hGr).trans r0
                have s1 := (hbV.cell (p := ⟨G, 1, none⟩) hGr).trans r1
                have hbr := hbW.trans (hbV.mono hbW.size)
                have hbr1 := mkHid (hb.trans (hbV.mono hb.size))
                have cN : Hid (∀ d os, Calls Tryd.prog 11 #[.string b.name] (Go.Sort.grow (redrawn V d) os) fun e w'' => e = .returned (.int .i64 (St.code (St.boxName b.name))) ∧ ∃ p : Regrown, w'' = Go.Sort.grow (redrawn V p.d) p.os) := fun d os => Calls.regrown_of (specBoxNameFault b.name _ hbf.out.1)
                have cB : Hid (∀ d os, Calls Tryd.prog 12 #[.agg #[.string b.name, .int .i64 b.validity, .int .i64 b.nextUid, .int .i64 b.topMod, .slice a4 b.mails.length k4, .slice a5 b.gones.length k5]] (Go.Sort.grow (redrawn V d) os) fun e w'' => e = .returned (.bool (!St.okBox b)) ∧ ∃ p : Regrown, w'' = Go.Sort.grow (redrawn V p.d) p.os) := fun d os => Calls.regrown_of (specBoxFault b _ _ lo _ ((hIn.out.same (Same.of_below ((hbV.mono hbW.size).trans ((below_regrown V d os).mono hbr.size)) (Nat.le_refl _))).mono (Nat.le_refl _) (Nat.le_trans hbr.size (below_regrown V d os).size)) hbf.out)
                have HV := mkHid hV
                clear hV
                go_wp2
                rw [← HV.out]
                have k0 := cell_regrown e0
                have k1 := cell_regrown e1
                have k2 := cell_regrown e2
                have k3 := cell_regrown e3
                have k4' := cell_regrown e4
                have k5' := cell_regrown e5
                have l0 := cell_regrown s0
                have l1 := cell_regrown s1
                clear d0 d1 d2 d3 d4 d5
                rcases hp.out with ⟨rfl, rfl⟩ | ⟨j, hj, rfl, rfl⟩
                · have hi0 : decide ((0 : Int) < ((0 : Nat) : Int)) = false := by decide
                  cases hn : St.boxName b.name
                  · rw [hn] at cN hz1
                    have hr : Hid (Z = 1) := by rw [← hz1]; rfl
                    clear hz1 hn
                    unfold St.code at cN
                    refine wp_region_quiet_below (by kernel_rfl) (by kernel_rfl) ?_
                    repeat (go_big_quiet_step (first | exact cN.out _ _ | exact cB.out _ _))
                    refine wpQuiet_nil ?_
                    intro _ hw'
                    obtain ⟨⟨dq, osq⟩, hw''⟩ := hw'
                    subst hw''
                    have hbQ := below_regrown V dq osq
                    have hbe := mkHid (hbA.trans ((hbr.trans (hbQ.mono hbr.size)).mono (Nat.le_of_lt hWs)))
                    clear k0 k1 k2 k3 k4' k5' l0 l1 cN cB
                    go_wp2
                    go_ret
                    first | rw [hr.out, hG] | rw [hr.out]
                    exact ⟨rfl, hbe.out⟩
                  · rw [hn] at cN hz1
                    rw [Bool.true_and] at hz1
                    unfold St.code at cN
                    clear hn
                    rw [show St.lessO none b.name = true from rfl, Bool.true_and] at hz1
                    by_cases y1 : 1 ≤ b.validity
                    · have u1 : decide (b.validity < 1) = false := decide_eq_false (by omega)
                      rw [decide_eq_true y1, Bool.true_and] at hz1
                      by_cases y2 : b.validity < nv
                      · have u2 : decide (nv ≤ b.validity) = false := decide_eq_false (by omega)
                        rw [decide_eq_true y2, Bool.true_and] at hz1
                        cases hk : St.okBox b
                        · rw [hk] at cB hz1
                          have hr : Hid (Z = 1) := by rw [← hz1]; rfl
                          clear hz1 hk
                          refine wp_region_quiet_below (by kernel_rfl) (by kernel_rfl) ?_
                          repeat (go_big_quiet_step (first | exact cN.out _ _ | exact cB.out _ _))
                          refine wpQuiet_nil ?_
                          intro _ hw'
                          obtain ⟨⟨dq, osq⟩, hw''⟩ := hw'
                          subst hw''
                          have hbQ := below_regrown V dq osq
                          have hbe := mkHid (hbA.trans ((hbr.trans (hbQ.mono hbr.size)).mono (Nat.le_of_lt hWs)))
                          clear k0 k1 k2 k3 k4' k5' l0 l1 cN cB
                          go_wp2
                          go_ret
                          first | rw [hr.out, hG] | rw [hr.out]
                          exact ⟨rfl, hbe.out⟩
                        · rw [hk] at cB hz1
                          rw [Bool.true_and] at hz1
                          clear hk
                          refine wp_region_quiet_below (by kernel_rfl) (by kernel_rfl) ?_
                          repeat (go_big_quiet_step (first | exact cN.out _ _ | exact cB.out _ _))
                          refine wpQuiet_nil ?_
                          intro _ hw'
                          obtain ⟨⟨dq, osq⟩, hw''⟩ := hw'
                          subst hw''
                          have hbQ := below_regrown V dq osq
                          have hbW2 := hbr.trans (hbQ.mono hbr.size)
                          have hb12 := mkHid (hbr1.out.trans (hbQ.mono (Nat.le_trans hb.size hbV.size)))
                          have z1 := k1 dq osq
                          have m1 := l1 dq osq
                          have hzs : wr.heap.size < (Go.Sort.grow (redrawn V dq) osq).heap.size := Nat.lt_of_lt_of_le hVs hbQ.size
                          have hzG : G < (Go.Sort.grow (redrawn V dq) osq).heap.size := Nat.lt_trans hGr hzs
                          obtain ⟨A2, hA2⟩ : ∃ A2, (F.take 0).any (fun x => x.validity == b.validity) = A2 := ⟨_, rfl⟩
                          rw [hA2] at hz1
                          have HA2 : Hid (((F.take 0).drop 0).any (fun x => x.validity == b.validity) = A2) := by rw [List.drop_zero]; exact hA2
                          have hz4 : Hid (St.code ((!A2 && St.okBoxes nv (some b.name) (F.take (0 + 1)) (F.drop (0 + 1))) && decide (by0 ≤ 400000)) = Z) := hz1
                          clear hz1 hA2 k0 k1 k2 k3 k4' k5' l0 l1 cN cB HV
                          generalize Go.Sort.grow (redrawn V dq) osq = w3 at *
                          generalize wr.heap.size = Hb at *
                          go_wp2
                          obtain ⟨W9, hW9⟩ : ∃ W9, W9 = wr := ⟨_, rfl⟩
                          subst hW9
                          go_loopw [5] (fun kv wr => ∃ (k : Nat), k ≤ 0 ∧ kv = .int .i64 k ∧ Hid (((F.take 0).drop k).any (fun x => x.validity == b.validity) = A2) ∧ Below w3.heap.size w3 wr) (fun kv _ => 0 - (Lib.intOf kv).toNat)
                          case atStart => exact ⟨0, Nat.zero_le _, rfl, HA2, Below.refl _ _⟩
                          case round =>
                            clear HA2
                            obtain ⟨k, hk, rfl, hal, hb4⟩ := hrel
                            have o1 := (hb4.cell (p := ⟨Hb, 1, none⟩) hzs).trans z1
                            have t1 := (hb4.cell (p := ⟨G, 1, none⟩) hzG).trans m1
                            have hb5 := hbW2.trans (hb4.mono hbW2.size)
                            have hb6 := mkHid (hb12.out.trans (hb4.mono hb12.out.size))
                            by_cases hkl : k < 0
                            · exact absurd hkl (Nat.not_lt_zero _)
                            · have hf : Hid (A2 = false) := by
                                have := hal.out
                                rw [List.drop_eq_nil_of_le (by rw [List.length_take]; omega)] at this
                                exact this.symm
                              have hz5 : Hid (St.code (St.okBoxes nv (some b.name) (F.take (0 + 1)) (F.drop (0 + 1)) && decide (by0 ≤ 400000)) = Z) := by have := hz4.out; rw [hf.out] at this; exact this
                              clear hal hz4
                              go_wp2
                              go_roundw
                              case rel => exact ⟨0 + 1, some b.name, by omega, by go_num, hz5, .inr ⟨0, hlt, rfl, congrArg some Hbq.out.symm⟩, hb6.out⟩
                              case measure => simp [Lib.intOf]; omega
                      · have u2 : decide (nv ≤ b.validity) = true := decide_eq_true (by omega)
                        rw [decide_eq_false y2] at hz1
                        have hr : Hid (Z = 1) := by rw [← hz1]; rfl
                        clear hz1
                        refine wp_region_quiet_below (by kernel_rfl) (by kernel_rfl) ?_
                        repeat (go_big_quiet_step (first | exact cN.out _ _ | exact cB.out _ _))
                        refine wpQuiet_nil ?_
                        intro _ hw'
                        obtain ⟨⟨dq, osq⟩, hw''⟩ := hw'
                        subst hw''
                        have hbQ := below_regrown V dq osq
                        have hbe := mkHid (hbA.trans ((hbr.trans (hbQ.mono hbr.size)).mono (Nat.le_of_lt hWs)))
                        clear k0 k1 k2 k3 k4' k5' l0 l1 cN cB
                        go_wp2
                        go_ret
                        first | rw [hr.out, hG] | rw [hr.out]
                        exact ⟨rfl, hbe.out⟩
                    · have u1 : decide (b.validity < 1) = true := decide_eq_true (by omega)
                      rw [decide_eq_false y1] at hz1
                      have hr : Hid (Z = 1) := by rw [← hz1]; rfl
                      clear hz1
                      refine wp_region_quiet_below (by kernel_rfl) (by kernel_rfl) ?_
                      repeat (go_big_quiet_step (first | exact cN.out _ _ | exact cB.out _ _))
                      refine wpQuiet_nil ?_
                      intro _ hw'
                      obtain ⟨⟨dq, osq⟩, hw''⟩ := hw'
                      subst hw''
                      have hbQ := below_regrown V dq osq
                      have hbe := mkHid (hbA.trans ((hbr.trans (hbQ.mono hbr.size)).mono (Nat.le_of_lt hWs)))
                      clear k0 k1 k2 k3 k4' k5' l0 l1 cN cB
                      go_wp2
                      go_ret
                      first | rw [hr.out, hG] | rw [hr.out]
                      exact ⟨rfl, hbe.out⟩
                · obtain ⟨a2, w4, w5, ea, -, ha3, hB, -⟩ := (HT.out.below hbr (Nat.le_refl _)) j hj
                  cases ea
                  have ps0 := cell_regrown hB.c0
                  have hji : ((j + 1 : Nat) : Int) - 1 = (j : Int) := by omega
                  have hj0 : decide ((0 : Int) < ((j + 1 : Nat) : Int)) = true := by simp
                  have hwj : IntKind.i64.wrap (j : Int) = (j : Int) := wrap_inS _ (by omega) (by omega)
                  have hjI : (0 : Int) ≤ (j : Int) ∧ (j : Int) < (F.length : Int) := ⟨by omega, by omega⟩
                  clear hB
                  generalize F[j].name = pw at *
                  cases hn : St.boxName b.name
                  · rw [hn] at cN hz1
                    have hr : Hid (Z = 1) := by rw [← hz1]; rfl
                    clear hz1 hn
                    unfold St.code at cN
                    refine wp_region_quiet_below (by kernel_rfl) (by kernel_rfl) ?_
                    repeat (go_big_quiet_step (first | exact cN.out _ _ | exact cB.out _ _))
                    refine wpQuiet_nil ?_
                    intro _ hw'
                    obtain ⟨⟨dq, osq⟩, hw''⟩ := hw'
                    subst hw''
                    have hbQ := below_regrown V dq osq
                    have hbe := mkHid (hbA.trans ((hbr.trans (hbQ.mono hbr.size)).mono (Nat.le_of_lt hWs)))
                    clear k0 k1 k2 k3 k4' k5' l0 l1 cN cB
                    go_wp2
                    go_ret
                    first | rw [hr.out, hG] | rw [hr.out]
                    exact ⟨rfl, hbe.out⟩
                  · rw [hn] at cN hz1
                    rw [Bool.true_and] at hz1
                    unfold St.code at cN
                    clear hn
                    cases hls : St.lessO (some pw) b.name
                    · have x8 : Op.bytesLess pw.toList b.name.toList = false := hls
                      rw [hls] at hz1
                      have hr : Hid (Z = 1) := by rw [← hz1]; rfl
                      clear hz1 hls
                      refine wp_region_quiet_below (by kernel_rfl) (by kernel_rfl) ?_
                      repeat (go_big_quiet_step (first | exact cN.out _ _ | exact cB.out _ _))
                      refine wpQuiet_nil ?_
                      intro _ hw'
                      obtain ⟨⟨dq, osq⟩, hw''⟩ := hw'
                      subst hw''
                      have hbQ := below_regrown V dq osq
                      have hbe := mkHid (hbA.trans ((hbr.trans (hbQ.mono hbr.size)).mono (Nat.le_of_lt hWs)))
                      clear k0 k1 k2 k3 k4' k5' l0 l1 cN cB ps0
                      go_wp2
                      go_ret
                      first | rw [hr.out, hG] | rw [hr.out]
                      exact ⟨rfl, hbe.out⟩
                    · have x8 : Op.bytesLess pw.toList b.name.toList = true := hls
                      rw [hls, Bool.true_and] at hz1
                      clear hls
                      by_cases y1 : 1 ≤ b.validity
                      · have u1 : decide (b.validity < 1) = false := decide_eq_false (by omega)
                        rw [decide_eq_true y1, Bool.true_and] at hz1
                        by_cases y2 : b.validity < nv
                        · have u2 : decide (nv ≤ b.validity) = false := decide_eq_false (by omega)
                          rw [decide_eq_true y2, Bool.true_and] at hz1
                          cases hk : St.okBox b
                          · rw [hk] at cB hz1
                            have hr : Hid (Z = 1) := by rw [← hz1]; rfl
                            clear hz1 hk
                            refine wp_region_quiet_below (by kernel_rfl) (by kernel_rfl) ?_
                            repeat (go_big_quiet_step (first | exact cN.out _ _ | exact cB.out _ _))
                            refine wpQuiet_nil ?_
                            intro _ hw'
                            obtain ⟨⟨dq, osq⟩, hw''⟩ := hw'
                            subst hw''
                            have hbQ := below_regrown V dq osq
                            have hbe := mkHid (hbA.trans ((hbr.trans (hbQ.mono hbr.size)).mono (Nat.le_of_lt hWs)))
                            clear k0 k1 k2 k3 k4' k5' l0 l1 cN cB ps0
                            go_wp2
                            go_ret
                            first | rw [hr.out, hG] | rw [hr.out]
                            exact ⟨rfl, hbe.out⟩
                          · rw [hk] at cB hz1
                            rw [Bool.true_and] at hz1
                            clear hk
                            refine wp_region_quiet_below (by kernel_rfl) (by kernel_rfl) ?_
                            repeat (go_big_quiet_step (first | exact cN.out _ _ | exact cB.out _ _))
                            refine wpQuiet_nil ?_
                            intro _ hw'
                            obtain ⟨⟨dq, osq⟩, hw''⟩ := hw'
                            subst hw''
                            have hbQ := below_regrown V dq osq
                            have hbW2 := hbr.trans (hbQ.mono hbr.size)
                            have hb12 := mkHid (hbr1.out.trans (hbQ.mono (Nat.le_trans hb.size hbV.size)))
                            have z1 := k1 dq osq
                            have m1 := l1 dq osq
                            have hzs : wr.heap.size < (Go.Sort.grow (redrawn V dq) osq).heap.size := Nat.lt_of_lt_of_le hVs hbQ.size
                            have hzG : G < (Go.Sort.grow (redrawn V dq) osq).heap.size := Nat.lt_trans hGr hzs
                            obtain ⟨A2, hA2⟩ : ∃ A2, (F.take (j + 1)).any (fun x => x.validity == b.validity) = A2 := ⟨_, rfl⟩
                            rw [hA2] at hz1
                            have HA2 : Hid (((F.take (j + 1)).drop 0).any (fun x => x.validity == b.validity) = A2) := by rw [List.drop_zero]; exact hA2
                            have hz4 : Hid (St.code ((!A2 && St.okBoxes nv (some b.name) (F.take (j + 1 + 1)) (F.drop (j + 1 + 1))) && decide (by0 ≤ 400000)) = Z) := hz1
                            clear hz1 hA2 k0 k1 k2 k3 k4' k5' l0 l1 cN cB HV ps0
                            generalize Go.Sort.grow (redrawn V dq) osq = w3 at *
                            generalize wr.heap.size = Hb at *
                            go_wp2
                            obtain ⟨W9, hW9⟩ : ∃ W9, W9 = wr := ⟨_, rfl⟩
                            subst hW9
                            go_loopw [5] (fun kv wr => ∃ (k : Nat), k ≤ j + 1 ∧ kv = .int .i64 k ∧ Hid (((F.take (j + 1)).drop k).any (fun x => x.validity == b.validity) = A2) ∧ Below w3.heap.size w3 wr) (fun kv _ => j + 1 - (Lib.intOf kv).toNat)
                            case atStart => exact ⟨0, Nat.zero_le _, rfl, HA2, Below.refl _ _⟩
                            case round =>
                              clear HA2
                              obtain ⟨k, hk, rfl, hal, hb4⟩ := hrel
                              have o1 := (hb4.cell (p := ⟨Hb, 1, none⟩) hzs).trans z1
                              have t1 := (hb4.cell (p := ⟨G, 1, none⟩) hzG).trans m1
                              have hb5 := hbW2.trans (hb4.mono hbW2.size)
                              have hb6 := mkHid (hb12.out.trans (hb4.mono hb12.out.size))
                              by_cases hkl : k < j + 1
                              · obtain ⟨a7, w7, w8, ea, -, -, hB, -⟩ := (HT.out.below hb5 (Nat.le_refl _)) k (by omega)
                                cases ea
                                have y7 := hB.c1
                                have hst := St.any_take (fun x => x.validity == b.validity) F (j + 1) k hkl (by omega)
                                rw [hal.out] at hst
                                clear hB hal
                                have hkD : k < F.length := by omega
                                generalize F[k]'hkD = x at *
                                cases hx : (x.validity == b.validity)
                                · rw [hx] at hst
                                  have hf : Hid (((F.take (j + 1)).drop (k + 1)).any (fun x => x.validity == b.validity) = A2) := hst.symm
                                  clear hst
                                  go_wp2
                                  go_quiet (fail)
                                  have hbq := mkHid (below_drewN hb4 nq)
                                  clear o1 t1 y7
                                  go_wp2
                                  go_roundw
                                  case rel => exact ⟨k + 1, by omega, by go_num, hf, hbq.out⟩
                                  case measure => simp [Lib.intOf]; omega
                                · rw [hx] at hst
                                  have hr : Hid (Z = 1) := by rw [← hz4.out, hst]; rfl
                                  clear hst
                                  go_wp2
                                  go_quiet (fail)
                                  have hbq := mkHid (hbA.trans ((below_drewN hb5 nq).mono (Nat.le_of_lt hWs)))
                                  clear o1 t1 y7
                                  go_wp2
                                  go_ret
                                  first | rw [hr.out, hG] | rw [hr.out]
                                  exact ⟨rfl, hbq.out⟩
                              · have hf : Hid (A2 = false) := by
                                  have := hal.out
                                  rw [List.drop_eq_nil_of_le (by rw [List.length_take]; omega)] at this
                                  exact this.symm
                                have hz5 : Hid (St.code (St.okBoxes nv (some b.name) (F.take (j + 1 + 1)) (F.drop (j + 1 + 1)) && decide (by0 ≤ 400000)) = Z) := by have := hz4.out; rw [hf.out] at this; exact this
                                clear hal hz4
                                go_wp2
                                go_roundw
                                case rel => exact ⟨j + 1 + 1, some b.name, by omega, by go_num, hz5, .inr ⟨j + 1, hlt, rfl, congrArg some Hbq.out.symm⟩, hb6.out⟩
                                case measure => simp [Lib.intOf]; omega
                        · have u2 : decide (nv ≤ b.validity) = true := decide_eq_true (by omega)
                          rw [decide_eq_false y2] at hz1
                          have hr : Hid (Z = 1) := by rw [← hz1]; rfl
                          clear hz1
                          refine wp_region_quiet_below (by kernel_rfl) (by kernel_rfl) ?_
                          repeat (go_big_quiet_step (first | exact cN.out _ _ | exact cB.out _ _))
                          refine wpQuiet_nil ?_
                          intro _ hw'
                          obtain ⟨⟨dq, osq⟩, hw''⟩ := hw'
                          subst hw''
                          have hbQ := below_regrown V dq osq
                          have hbe := mkHid (hbA.trans ((hbr.trans (hbQ.mono hbr.size)).mono (Nat.le_of_lt hWs)))
                          clear k0 k1 k2 k3 k4' k5' l0 l1 cN cB ps0
                          go_wp2
                          go_ret
                          first | rw [hr.out, hG] | rw [hr.out]
                          exact ⟨rfl, hbe.out⟩
                      · have u1 : decide (b.validity < 1) = true := decide_eq_true (by omega)
                        rw [decide_eq_false y1] at hz1
                        have hr : Hid (Z = 1) := by rw [← hz1]; rfl
                        clear hz1
                        refine wp_region_quiet_below (by kernel_rfl) (by kernel_rfl) ?_
                        repeat (go_big_quiet_step (first | exact cN.out _ _ | exact cB.out _ _))
                        refine wpQuiet_nil ?_
                        intro _ hw'
                        obtain ⟨⟨dq, osq⟩, hw''⟩ := hw'
                        subst hw''
                        have hbQ := below_regrown V dq osq
                        have hbe := mkHid (hbA.trans ((hbr.trans (hbQ.mono hbr.size)).mono (Nat.le_of_lt hWs)))
                        clear k0 k1 k2 k3 k4' k5' l0 l1 cN cB ps0
                        go_wp2
                        go_ret
                        first | rw [hr.out, hG] | rw [hr.out]
                        exact ⟨rfl, hbe.out⟩
              · have hz1 : Hid (St.code (decide (by0 ≤ 400000)) = Z) := by
                  have := hz.out
                  rw [List.drop_eq_nil_of_le (by omega)] at this
                  exact this
                clear hz
                go_wp2_with fail
                refine (cS.out wr hbW).mono ?_
                rintro e w9 ⟨rfl, hb9⟩
                have hbe := mkHid (hbA.trans ((hbW.trans (hb9.mono hbW.size)).mono (Nat.le_of_lt hWs)))
                clear cS r0 r1
                by_cases h9 : by0 ≤ 400000
                · have x9 : decide ((400000 : Int) < (by0 : Int)) = false := decide_eq_false (by omega)
                  have hr : Hid (Z = 0) := by rw [← hz1.out, decide_eq_true h9]; rfl
                  clear hz1
                  go_wp2
                  go_ret
                  first | rw [hr.out, hG] | rw [hr.out]
                  exact ⟨rfl, hbe.out⟩
                · have x9 : decide ((400000 : Int) < (by0 : Int)) = true := decide_eq_true (by omega)
                  have hr : Hid (Z = 1) := by rw [← hz1.out, decide_eq_false h9]; rfl
                  clear hz1
                  go_wp2
                  go_ret
                  first | rw [hr.out, hG] | rw [hr.out]
                  exact ⟨rfl, hbe.out⟩
          · have x4 : decide (fb < 0) = true := decide_eq_true (by omega)
            rw [decide_eq_false h4] at hZ
            have hr : Hid (Z = 1) := by rw [← hZ]; rfl
            clear hZ
            go_enter Tryd.func5, Tryd.ntmps5
            go_wp2_with fail
            rw [← HW.out]
            clear HW
            refine (cF.out W (Below.refl _ _)).mono ?_
            rintro e w1 ⟨rfl, hb1⟩
            clear cF
            have hbB1 := hbA.trans (hb1.mono (Nat.le_of_lt hWs))
            clear q0 q1
            go_wp2
            go_ret
            rw [hr.out]
            exact ⟨rfl, hbB1⟩
        · have x3 : decide ((32 : Int) < (F.length : Int)) = true := decide_eq_true (by omega)
          rw [decide_eq_false h3] at hZ
          have hr : Hid (Z = 1) := by rw [← hZ]; rfl
          clear hZ cF cS q0 q1
          go_enter Tryd.func5, Tryd.ntmps5
          go_wp2
          go_ret
          rw [← HW.out, hr.out]
          exact ⟨rfl, hbA⟩
      · have x2 : decide ((F.length : Int) < 1) = true := decide_eq_true (by omega)
        rw [decide_eq_false h2] at hZ
        have hr : Hid (Z = 1) := by rw [← hZ]; rfl
        clear hZ cF cS q0 q1
        go_enter Tryd.func5, Tryd.ntmps5
        go_wp2
        go_ret
        rw [← HW.out, hr.out]
        exact ⟨rfl, hbA⟩
    · have x1 : decide (4294967295 < nv) = true := decide_eq_true (by omega)
      rw [decide_eq_false h1] at hZ
      have hr : Hid (Z = 1) := by rw [← hZ]; rfl
      clear hZ cF cS q0 q1
      go_enter Tryd.func5, Tryd.ntmps5
      go_wp2
      go_ret
      rw [← HW.out, hr.out]
      exact ⟨rfl, hbA⟩
  · have x0 : decide (nv < 1) = true := decide_eq_true (by omega)
    rw [decide_eq_false h0] at hZ
    have hr : Hid (Z = 1) := by rw [← hZ]; rfl
    clear hZ cF cS q0 q1
    go_enter Tryd.func5, Tryd.ntmps5
    go_wp2
    go_ret
    rw [← HW.out, hr.out]
    exact ⟨rfl, hbA⟩
end Go.Proofs.YtbepjjnjdhkcbaaDoor
