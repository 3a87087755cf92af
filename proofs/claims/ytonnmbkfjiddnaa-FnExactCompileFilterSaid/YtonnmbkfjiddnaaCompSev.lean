
/- The specification's code of tests of which all or one must hold. (By tools/gen/compsev.py.) -/
import Derived.Test.YtonnmbkfjiddnaaCompImplB
namespace Go.Proofs.Ytonnmbkfjiddnaa
open Go.RowKit Go.Lib Go.Maps
set_option maxHeartbeats 8000000 in
theorem testAll (F : List Nd) (o : Option Addr) (cap d i g : Nat) (v : Value) (C : List Cd) (w : World) (hi : i < F.length) (hM : Mc 41 g (.slice o F.length cap) v C w) (hF : Nds g w o F) (_hlF : F.length ≤ 1048576) (hk : F[i].kind = 23) (ih : TestOk F o cap d) (hw : ∀ k ∈ F[i].kids, 0 ≤ k ∧ Cp.Wf F d k.toNat ∧ Fn.isTest (Fn.kindAt F k) = true) (hkl : F[i].kids.length ≤ 100000) (hlen : C.length + 1 + (Cp.part (Cp.code F d) 4 F[i].kids (C.length + 1)).length ≤ 100000) :
    Calls Try.prog 31 #[.pointer (some ⟨g, 0, none⟩), .int .i64 i] w fun e w' => e = .returned (.tuple #[]) ∧ Rc 41 g (.slice o F.length cap) v (C ++ Cp.one (Cp.code F d) F[i] C.length) w w' := by
  have hF0 := mkHid hF
  have hone : Cp.one (Cp.code F d) F[i] C.length = Cp.zc 1 0 :: Cp.sevs (Cp.code F d) 4 F[i].kids (C.length + 1) := by
    unfold Cp.one Cp.rest
    rw [hk]
    rfl
  rw [hone]
  have Ih := mkHid ih
  have Hlen := mkHid hlen
  have Hw := mkHid hw
  have hlC : C.length ≤ 99999 := by omega
  have Hone := mkHid hone
  clear ih hlen hw hone
  obtain ⟨a, vn, vk, vd, rfl, ha, hA, hI⟩ := hF i hi
  obtain ⟨n0, hn0⟩ : ∃ n, F[i] = n := ⟨_, rfl⟩
  rw [hn0] at hA hI hk
  try rw [hn0]
  have x20 : (n0.kind == 20) = false := by rw [hk]; rfl
  have x21 : (n0.kind == 21) = false := by rw [hk]; rfl
  have x22 : (n0.kind == 22) = false := by rw [hk]; rfl
  have x23 : (n0.kind == 23) = true := by rw [hk]; rfl
  have x24 : (n0.kind == 24) = false := by rw [hk]; rfl
  have hI0 := mkHid hI
  obtain ⟨⟨a4, e4, rfl, T4⟩, ⟨a5, e5, rfl, T5⟩, ⟨a6, e6, rfl, T6⟩⟩ := hI
  obtain ⟨c0, c1, c2, c3, c4, c5, c6⟩ := hA
  rw [hn0] at Hlen Hw hkl Hone
  have H4 := mkHid T4
  have H5 := mkHid T5
  have H6 := mkHid T6
  obtain ⟨W, hW, hbW, hMW, hL, hZ⟩ := two_locals n0 (.slice a4 n0.names.length e4) (.slice a5 n0.keys.length e5) (.slice a6 n0.kids.length e6) hM
  have gc := (two_cellsM hM.blk).1
  have k1 := mkHid (specPut0 g _ v C 1 0 W hMW (by omega))
  have HW := mkHid hW
  have HL := mkHid hL
  have HZ := mkHid hZ
  have HbW := mkHid hbW
  have Hk := mkHid hk
  have HMW := mkHid hMW
  have HM := mkHid hM
  obtain ⟨z0, z1, z2, z3, z4, z5, z6⟩ := blk7 hZ.blk
  have hgl := heap_ltM hM.blk
  clear hW hL hZ hMW hbW T4 T5 T6 hk hM
  go_enter Try.func31, Try.ntmps31
  go_wp2_with (go_at_call 16; fail)
  rw [HW.out]
  refine k1.out.mono ?_
  rintro e w1 ⟨rfl, v1, hM1, hE1, hN1⟩
  have HL1 := mkHid (HL.out.keep hE1 hN1)
  have HZ1 := mkHid (HZ.out.keep hE1 hN1)
  have HM1 := mkHid hM1
  have HE1 := mkHid hE1
  have HN1 := mkHid hN1
  clear hM1 hE1 hN1
  clear z0 z1 z2 z3 z4 z5 z6
  obtain ⟨l0, l1, l2, l3, l4, l5, l6⟩ := blk7 HL1.out.blk
  obtain ⟨z0, z1, z2, z3, z4, z5, z6⟩ := blk7 HZ1.out.blk
  have HB1 := mkHid ((HbW.out.mono (show g ≤ w.heap.size by omega)).trans (HMW.out.low HE1.out))
  obtain ⟨C1, hC1⟩ : ∃ C1, C ++ [(⟨1, 0, { Cp.z with num := 0 }⟩ : Cd)] = C1 := ⟨_, rfl⟩
  have hl1 : Hid (C1.length = C.length + 1) := show _ = _ from by rw [← hC1]; simp
  rw [hC1] at HM1
  have HC1 := mkHid hC1
  have hs1 : w.heap.size + 1 < w1.heap.size := by
    have h1 := heap_ltM HZ1.out.blk
    omega
  have hgl1 : g < w1.heap.size := by omega
  clear hC1
  go_wp2
  clear l0 l1 l2 l3 l4 l5 l6 z0 z1 z2 z3 z4 z5 z6
  go_loopw [9, 10] (fun ov iv wr => ∃ (k : Nat) (v' : Value) (P : List Nat), k ≤ n0.kids.length ∧ iv = .int .i64 k ∧ Hid (P = Cp.ppos (Cp.code F d) (n0.kids.take k) (C.length + 1)) ∧ Hid (Mc 41 g (.slice (some a) F.length cap) v' (C1 ++ Cp.part (Cp.code F d) 4 (n0.kids.take k) (C.length + 1)) wr) ∧ Hid (Ef g v1.ownBlock w1 wr) ∧ Hid (Nw w1 v1 v') ∧ Hid (Lo g v' w.heap.size (ndCs n0 (.slice a4 n0.names.length e4) (.slice a5 n0.keys.length e5) (.slice a6 n0.kids.length e6)) wr) ∧ Hid (Lo g v' (w.heap.size + 1) zCs wr) ∧ Hid (OwnP w1.heap.size ov P wr) ∧ P.length ≤ k) (fun _ iv _ => n0.kids.length - (Lib.intOf iv).toNat)
  case atStart =>
    have hb0 : Below w1.heap.size w1 (w1.alloc (.cells #[] 3)) := (Below.refl _ _).alloc (Nat.le_refl _) _
    refine ⟨0, v1, [], Nat.zero_le _, rfl, rfl, ?_, ⟨hb0.os, hb0.tape, hb0.output, hb0.size, fun j hj _ _ => hb0.block j hj⟩, .inl rfl, HL1.out.below hb0, HZ1.out.below hb0, OwnP.made _ _ (Nat.le_refl _), Nat.zero_le _⟩
    show Mc _ _ _ _ _ _
    rw [List.take_zero, Cp.part, List.append_nil]
    exact HM1.out.below hb0
  case round =>
    obtain ⟨k, v', P, hkk, rfl, hP, hMr, hEr, hNr, hLr, hZr, hOr, hPl⟩ := hrel
    obtain ⟨l0, l1, l2, l3, l4, l5, l6⟩ := blk7 hLr.out.blk
    obtain ⟨z0, z1, z2, z3, z4, z5, z6⟩ := blk7 hZr.out.blk
    by_cases hlt : k < n0.kids.length
    · obtain ⟨a7, rfl, hb7, hc7⟩ := H6.out k hlt
      obtain ⟨hj0, hwf, htst⟩ := Hw.out n0.kids[k] (List.getElem_mem hlt)
      obtain ⟨j, hj⟩ : ∃ j : Nat, n0.kids[k] = (j : Int) := ⟨n0.kids[k].toNat, by omega⟩
      have hsn : n0.kids.take (k + 1) = n0.kids.take k ++ [(j : Int)] := by rw [← hj]; exact (List.take_append_getElem hlt).symm
      rw [hj] at hwf htst hc7
      rw [Int.toNat_natCast] at hwf
      have hBr := mkHid (HB1.out.trans (HM1.out.low hEr.out))
      have y := (hBr.out.cell (p := a7.add k) (by rw [add_blockG]; exact hb7)).trans hc7
      have hsr := hEr.out.size
      have hbnd := Cp.part_take (Cp.code F d) 4 (C.length + 1) n0.kids (k + 1)
      have Hlen2 := Hlen.out
      have Hwf := mkHid hwf
      have Hkj := mkHid hj
      have Htst := mkHid htst
      obtain ⟨E0, -, hMk⟩ := id hMr.out
      have hCw := mkHid hMk.cw
      clear hwf htst hc7 hj0 hj hMk
      rcases Nat.eq_zero_or_pos k with hk0 | hk0
      · subst hk0
        rw [show a7.add 0 = a7 by unfold Addr.add; split <;> simp_all] at y
        rw [List.take_zero] at hsn hP hMr
        rw [List.nil_append] at hsn
        have hMr1 : Hid (Mc 41 g (.slice (some a) F.length cap) v' C1 wr) := by
          have := hMr.out
          rw [Cp.part, List.append_nil] at this
          exact this
        have hnext : Hid (C1 ++ Cp.part (Cp.code F d) 4 (n0.kids.take (0 + 1)) (C.length + 1) = C1 ++ Cp.code F d j C1.length) := by
          show _ = _
          rw [hsn, Cp.part_one, Int.toNat_natCast, hl1.out]
        have hb2 : C1.length + (Cp.code F d j C1.length).length ≤ 100000 := by
          have h2 := congrArg List.length hnext.out
          rw [List.length_append, List.length_append] at h2
          have := hl1.out
          omega
        have hP2 : Hid (P = Cp.ppos (Cp.code F d) (n0.kids.take (0 + 1)) (C.length + 1)) := by
          show _ = _
          rw [hP.out, hsn]
          rfl
        have kT := mkHid (Ih.out j g v' C1 wr Hwf.out Htst.out hMr1.out (hF0.out.below hBr.out) hb2)
        clear hb2 hbnd Hlen2 hsn hP hMr
        go_wp2_with (go_at_call 31; fail)
        refine kT.out.mono ?_
        rintro e w2 ⟨rfl, v2, hM2, hE2, hN2⟩
        rw [← hnext.out] at hM2
        have HM2 := mkHid hM2
        have HL2 := mkHid (hLr.out.keep hE2 hN2)
        have HZ2 := mkHid (hZr.out.keep hE2 hN2)
        have HO2 := mkHid (OwnP.ef hOr.out hgl1 hCw.out hE2)
        have HE2 := mkHid (Ef.trans hEr.out hNr.out hE2)
        have HN2 := mkHid (Nw.trans hNr.out hEr.out.size hN2)
        clear hM2 hE2 hN2 kT l0 l1 l2 l3 l4 l5 l6 z0 z1 z2 z3 z4 z5 z6 y hMr1 hEr hNr hLr hZr hOr hCw
        go_wp2
        go_roundw
        case rel => exact ⟨1, v2, P, by omega, by go_num, hP2, HM2, HE2, HN2, HL2, HZ2, HO2, by omega⟩
        case measure => simp [Lib.intOf]; omega
      · have hne : n0.kids.take k ≠ [] := by
          intro e
          have := congrArg List.length e
          rw [List.length_take, List.length_nil] at this
          omega
        obtain ⟨D, hD⟩ : ∃ D, C1 ++ Cp.part (Cp.code F d) 4 (n0.kids.take k) (C.length + 1) = D := ⟨_, rfl⟩
        have hlD : D.length = C.length + 1 + (Cp.part (Cp.code F d) 4 (n0.kids.take k) (C.length + 1)).length := by rw [← hD, List.length_append, hl1.out]
        rw [hD] at hMr
        have hnext : Hid (C1 ++ Cp.part (Cp.code F d) 4 (n0.kids.take (k + 1)) (C.length + 1) = D ++ [(⟨4, 0, { Cp.z with num := 0 }⟩ : Cd)] ++ Cp.code F d j (D.length + 1)) := by
          show _ = _
          rw [hsn, Cp.part_snoc _ _ _ _ _ hne, Int.toNat_natCast, ← List.append_assoc, hD, hlD, List.append_assoc]
          rfl
        have hP2 : Hid (P ++ [D.length] = Cp.ppos (Cp.code F d) (n0.kids.take (k + 1)) (C.length + 1)) := by
          show _ = _
          rw [hP.out, hsn, Cp.ppos_snoc _ 4 _ _ _ hne, hlD]
        have hb2 : D.length + 1 + (Cp.code F d j (D.length + 1)).length ≤ 100000 := by
          have h2 := congrArg List.length hnext.out
          rw [List.length_append, List.length_append, List.length_append, List.length_singleton, hl1.out] at h2
          omega
        have Hb2 := mkHid hb2
        have kP := mkHid (specPut0 g _ v' D 4 0 wr hMr.out (by omega))
        have HlD := mkHid hlD
        have HD := mkHid hD
        clear hbnd Hlen2 hsn hP hb2 hlD hD hne
        go_wp2_with (go_at_call 16; fail)
        refine kP.out.mono ?_
        rintro e w2 ⟨rfl, v2, hM2, hE2, hN2⟩
        have HM2 := mkHid hM2
        have HL2 := mkHid (hLr.out.keep hE2 hN2)
        have HZ2 := mkHid (hZr.out.keep hE2 hN2)
        have HO2 := mkHid (OwnP.ef hOr.out hgl1 hCw.out hE2)
        have HE2 := mkHid (Ef.trans hEr.out hNr.out hE2)
        have HN2 := mkHid (Nw.trans hNr.out hEr.out.size hN2)
        have hs2 := hE2.size
        clear hM2 hE2 hN2 kP l0 l1 l2 l3 l4 l5 l6 z0 z1 z2 z3 z4 z5 z6 y hMr hEr hNr hLr hZr hOr hCw
        go_wp2_with (at_builtin; refine wp_appP rfl _ _ rfl w1.heap.size u9 P rfl HO2.out D.length 1 rfl (by omega) (by omega) ?_; intro ov' w3 hO3 hg3; refine Hid.out ?_)
        have hbA : Below w2.heap.size w2 (w2.alloc (.cells #[.int .i64 (D.length : Int)] 3)) := (Below.refl _ _).alloc (Nat.le_refl _) _
        have HOA : OwnP w1.heap.size u9 P (w2.alloc (.cells #[.int .i64 (D.length : Int)] 3)) := World.ownsRow.alloc HO2.out _
        have hlow : ∀ k, u9.ownBlock = some k → w1.heap.size ≤ k := fun k hk => (World.ownsRow.lt HOA k hk).1
        have hM3 := Mc.grown (HM2.out.below hbA) HOA hgl1 hg3
        have HE3 := mkHid (Ef.grown (Ef.grown (row := none) HE2.out ⟨hbA.os, hbA.tape, hbA.output, hbA.size, fun k hk _ => hbA.block k hk⟩ (fun k hk => by cases hk)) hg3 hlow)
        have HL3 := mkHid ((HL2.out.below hbA).grown hg3 (fun e => by have := hlow _ e.symm; omega))
        have HZ3 := mkHid ((HZ2.out.below hbA).grown hg3 (fun e => by have := hlow _ e.symm; omega))
        have HO3 := mkHid hO3
        have HM3 := mkHid hM3
        have hlx : (D ++ [(⟨4, 0, { Cp.z with num := 0 }⟩ : Cd)]).length = D.length + 1 := by simp
        have hB3 := mkHid (HB1.out.trans (HM1.out.low HE3.out))
        obtain ⟨a8, ha8, hb8, hc8⟩ := H6.out k hlt
        cases ha8
        have y3 := (hB3.out.cell (p := a7.add k) (by rw [add_blockG]; exact hb8)).trans hc8
        obtain ⟨E3, -, hMk3⟩ := id hM3
        have hCw3 := mkHid hMk3.cw
        have kT0 := Ih.out j g v2 _ w3 Hwf.out Htst.out HM3.out (hF0.out.below hB3.out) (by rw [hlx]; exact Hb2.out)
        rw [hlx, ← hnext.out] at kT0
        have kT := mkHid kT0
        have hkj : n0.kids[k] = (j : Int) := Hkj.out
        rw [hkj] at y3
        obtain ⟨l0, l1, l2, l3, l4, l5, l6⟩ := blk7 HL3.out.blk
        obtain ⟨z0, z1, z2, z3, z4, z5, z6⟩ := blk7 HZ3.out.blk
        clear hbA HOA hlow hM3 hO3 hg3 hMk3 kT0 hc8 hb8 hkj HM2 HL2 HZ2 HO2 HE2
        refine mkHid ?_
        go_wp2_with (go_at_call 31; fail)
        refine kT.out.mono ?_
        rintro e w4 ⟨rfl, v4, hM4, hE4, hN4⟩
        have HM4 := mkHid hM4
        have HL4 := mkHid (HL3.out.keep hE4 hN4)
        have HZ4 := mkHid (HZ3.out.keep hE4 hN4)
        have HO4 := mkHid (OwnP.ef HO3.out hgl1 hCw3.out hE4)
        have HE4 := mkHid (Ef.trans HE3.out HN2.out hE4)
        have HN4 := mkHid (Nw.trans HN2.out HE3.out.size hN4)
        clear hM4 hE4 hN4 kT l0 l1 l2 l3 l4 l5 l6 z0 z1 z2 z3 z4 z5 z6 y3 HM3 HL3 HZ3 HO3 HE3 hCw3
        have hPl2 : (P ++ [D.length]).length ≤ k + 1 := by rw [List.length_append, List.length_singleton]; omega
        go_wp2
        go_roundw
        case rel => exact ⟨k + 1, v4, _, by omega, by go_num, hP2, HM4, HE4, HN4, HL4, HZ4, HO4, hPl2⟩
        case measure => simp [Lib.intOf]; omega
    · have hall : n0.kids.take k = n0.kids := List.take_of_length_le (by omega)
      rw [hall] at hP hMr
      obtain ⟨oo, oc, rfl⟩ := hOr.out.shape
      obtain ⟨D, hD⟩ : ∃ D, C1 ++ Cp.part (Cp.code F d) 4 n0.kids (C.length + 1) = D := ⟨_, rfl⟩
      have hlD : D.length = C.length + 1 + (Cp.part (Cp.code F d) 4 n0.kids (C.length + 1)).length := by rw [← hD, List.length_append, hl1.out]
      have hlt2 : Hid (∀ a ∈ P, a < D.length) := by
        intro a ha
        rw [hP.out] at ha
        have := Cp.ppos_lt (Cp.code F d) 4 (C.length + 1) n0.kids a ha
        omega
      have hfin : Hid (P.foldl (fun L a => Cp.pt L a (D.length : Nat)) D = C ++ Cp.zc 1 0 :: Cp.sevs (Cp.code F d) 4 n0.kids (C.length + 1)) := by
        show _ = _
        have := Cp.part_told (Cp.code F d) 4 (C.length + 1) C1 hl1.out n0.kids
        rw [hD, ← hP.out] at this
        rw [this, ← HC1.out, List.append_assoc]
        rfl
      rw [hD] at hMr
      have hPl3 : P.length ≤ 100000 := by omega
      clear hD hlD hall hP
      go_wp2
      clear l0 l1 l2 l3 l4 l5 l6 z0 z1 z2 z3 z4 z5 z6
      go_loopw [11] (fun iv wq => ∃ (m : Nat) (v'' : Value), m ≤ P.length ∧ iv = .int .i64 m ∧ Hid (Mc 41 g (.slice (some a) F.length cap) v'' ((P.take m).foldl (fun L a => Cp.pt L a (D.length : Nat)) D) wq) ∧ Hid (Ef g v1.ownBlock w1 wq) ∧ Hid (Nw w1 v1 v'') ∧ Hid (OwnP w1.heap.size (.slice oo P.length oc) P wq)) (fun iv _ => P.length - (Lib.intOf iv).toNat)
      case atStart => exact ⟨0, v', Nat.zero_le _, rfl, hMr, hEr, hNr, hOr⟩
      case round =>
        clear hMr hEr hNr hOr hLr hZr
        obtain ⟨m, v'', hmm, rfl, hMq, hEq, hNq, hOq⟩ := hrel
        by_cases hltm : m < P.length
        · obtain ⟨q, rfl, hcq⟩ := hOq.out.at m hltm
          obtain ⟨Dm, hDm⟩ : ∃ Dm, (P.take m).foldl (fun L a => Cp.pt L a (D.length : Nat)) D = Dm := ⟨_, rfl⟩
          have hlm : Dm.length = D.length := by rw [← hDm, Cp.fold_len]
          have hpm := hlt2.out P[m] (List.getElem_mem hltm)
          rw [hDm] at hMq
          have hnx : Hid ((P.take (m + 1)).foldl (fun L a => Cp.pt L a (D.length : Nat)) D = Cp.pt Dm P[m] (Dm.length : Int)) := by
            show _ = _
            rw [← List.take_append_getElem hltm, List.foldl_append, hDm, hlm]
            rfl
          have kH := mkHid (specHereC g P[m] _ v'' Dm wr hMq.out (by omega))
          obtain ⟨Eq, -, hMkq⟩ := id hMq.out
          have hCwq := mkHid hMkq.cw
          clear hDm hlm hpm hMkq
          generalize P[m] = pm at *
          go_wp2_with (go_at_call 32; fail)
          refine kH.out.mono ?_
          rintro e w5 ⟨rfl, v5, hM5, hE5, hN5⟩
          rw [← hnx.out] at hM5
          have HM5 := mkHid hM5
          have HO5 := mkHid (OwnP.ef hOq.out hgl1 hCwq.out hE5)
          have HE5 := mkHid (Ef.trans hEq.out hNq.out hE5)
          have HN5 := mkHid (Nw.trans hNq.out hEq.out.size hN5)
          clear hM5 hE5 hN5 kH hcq hMq hEq hNq hOq hCwq
          go_wp2
          go_roundw
          case rel => exact ⟨m + 1, v5, by omega, by go_num, HM5, HE5, HN5, HO5⟩
          case measure => simp [Lib.intOf]; omega
        · have hall : P.take m = P := List.take_of_length_le (by omega)
          rw [hall, hfin.out] at hMq
          go_wp2
          refine bodyPost_end (v := .tuple #[]) (results_none Try.results31 _ _ _) rfl ⟨rfl, Rc.ahead HbW.out (Rc.trans HE1.out HN1.out ⟨v'', hMq.out, hEq.out, hNq.out⟩)⟩
set_option maxHeartbeats 8000000 in
theorem testAny (F : List Nd) (o : Option Addr) (cap d i g : Nat) (v : Value) (C : List Cd) (w : World) (hi : i < F.length) (hM : Mc 41 g (.slice o F.length cap) v C w) (hF : Nds g w o F) (_hlF : F.length ≤ 1048576) (hk : F[i].kind = 24) (ih : TestOk F o cap d) (hw : ∀ k ∈ F[i].kids, 0 ≤ k ∧ Cp.Wf F d k.toNat ∧ Fn.isTest (Fn.kindAt F k) = true) (hkl : F[i].kids.length ≤ 100000) (hlen : C.length + 1 + (Cp.part (Cp.code F d) 3 F[i].kids (C.length + 1)).length ≤ 100000) :
    Calls Try.prog 31 #[.pointer (some ⟨g, 0, none⟩), .int .i64 i] w fun e w' => e = .returned (.tuple #[]) ∧ Rc 41 g (.slice o F.length cap) v (C ++ Cp.one (Cp.code F d) F[i] C.length) w w' := by
  have hF0 := mkHid hF
  have hone : Cp.one (Cp.code F d) F[i] C.length = Cp.zc 1 0 :: Cp.sevs (Cp.code F d) 3 F[i].kids (C.length + 1) := by
    unfold Cp.one Cp.rest
    rw [hk]
    rfl
  rw [hone]
  have Ih := mkHid ih
  have Hlen := mkHid hlen
  have Hw := mkHid hw
  have hlC : C.length ≤ 99999 := by omega
  have Hone := mkHid hone
  clear ih hlen hw hone
  obtain ⟨a, vn, vk, vd, rfl, ha, hA, hI⟩ := hF i hi
  obtain ⟨n0, hn0⟩ : ∃ n, F[i] = n := ⟨_, rfl⟩
  rw [hn0] at hA hI hk
  try rw [hn0]
  have x20 : (n0.kind == 20) = false := by rw [hk]; rfl
  have x21 : (n0.kind == 21) = false := by rw [hk]; rfl
  have x22 : (n0.kind == 22) = false := by rw [hk]; rfl
  have x23 : (n0.kind == 23) = false := by rw [hk]; rfl
  have x24 : (n0.kind == 24) = true := by rw [hk]; rfl
  have hI0 := mkHid hI
  obtain ⟨⟨a4, e4, rfl, T4⟩, ⟨a5, e5, rfl, T5⟩, ⟨a6, e6, rfl, T6⟩⟩ := hI
  obtain ⟨c0, c1, c2, c3, c4, c5, c6⟩ := hA
  rw [hn0] at Hlen Hw hkl Hone
  have H4 := mkHid T4
  have H5 := mkHid T5
  have H6 := mkHid T6
  obtain ⟨W, hW, hbW, hMW, hL, hZ⟩ := two_locals n0 (.slice a4 n0.names.length e4) (.slice a5 n0.keys.length e5) (.slice a6 n0.kids.length e6) hM
  have gc := (two_cellsM hM.blk).1
  have k1 := mkHid (specPut0 g _ v C 1 0 W hMW (by omega))
  have HW := mkHid hW
  have HL := mkHid hL
  have HZ := mkHid hZ
  have HbW := mkHid hbW
  have Hk := mkHid hk
  have HMW := mkHid hMW
  have HM := mkHid hM
  obtain ⟨z0, z1, z2, z3, z4, z5, z6⟩ := blk7 hZ.blk
  have hgl := heap_ltM hM.blk
  clear hW hL hZ hMW hbW T4 T5 T6 hk hM
  go_enter Try.func31, Try.ntmps31
  go_wp2_with (go_at_call 16; fail)
  rw [HW.out]
  refine k1.out.mono ?_
  rintro e w1 ⟨rfl, v1, hM1, hE1, hN1⟩
  have HL1 := mkHid (HL.out.keep hE1 hN1)
  have HZ1 := mkHid (HZ.out.keep hE1 hN1)
  have HM1 := mkHid hM1
  have HE1 := mkHid hE1
  have HN1 := mkHid hN1
  clear hM1 hE1 hN1
  clear z0 z1 z2 z3 z4 z5 z6
  obtain ⟨l0, l1, l2, l3, l4, l5, l6⟩ := blk7 HL1.out.blk
  obtain ⟨z0, z1, z2, z3, z4, z5, z6⟩ := blk7 HZ1.out.blk
  have HB1 := mkHid ((HbW.out.mono (show g ≤ w.heap.size by omega)).trans (HMW.out.low HE1.out))
  obtain ⟨C1, hC1⟩ : ∃ C1, C ++ [(⟨1, 0, { Cp.z with num := 0 }⟩ : Cd)] = C1 := ⟨_, rfl⟩
  have hl1 : Hid (C1.length = C.length + 1) := show _ = _ from by rw [← hC1]; simp
  rw [hC1] at HM1
  have HC1 := mkHid hC1
  have hs1 : w.heap.size + 1 < w1.heap.size := by
    have h1 := heap_ltM HZ1.out.blk
    omega
  have hgl1 : g < w1.heap.size := by omega
  clear hC1
  go_wp2
  clear l0 l1 l2 l3 l4 l5 l6 z0 z1 z2 z3 z4 z5 z6
  go_loopw [9, 10] (fun ov iv wr => ∃ (k : Nat) (v' : Value) (P : List Nat), k ≤ n0.kids.length ∧ iv = .int .i64 k ∧ Hid (P = Cp.ppos (Cp.code F d) (n0.kids.take k) (C.length + 1)) ∧ Hid (Mc 41 g (.slice (some a) F.length cap) v' (C1 ++ Cp.part (Cp.code F d) 3 (n0.kids.take k) (C.length + 1)) wr) ∧ Hid (Ef g v1.ownBlock w1 wr) ∧ Hid (Nw w1 v1 v') ∧ Hid (Lo g v' w.heap.size (ndCs n0 (.slice a4 n0.names.length e4) (.slice a5 n0.keys.length e5) (.slice a6 n0.kids.length e6)) wr) ∧ Hid (Lo g v' (w.heap.size + 1) zCs wr) ∧ Hid (OwnP w1.heap.size ov P wr) ∧ P.length ≤ k) (fun _ iv _ => n0.kids.length - (Lib.intOf iv).toNat)
  case atStart =>
    have hb0 : Below w1.heap.size w1 (w1.alloc (.cells #[] 3)) := (Below.refl _ _).alloc (Nat.le_refl _) _
    refine ⟨0, v1, [], Nat.zero_le _, rfl, rfl, ?_, ⟨hb0.os, hb0.tape, hb0.output, hb0.size, fun j hj _ _ => hb0.block j hj⟩, .inl rfl, HL1.out.below hb0, HZ1.out.below hb0, OwnP.made _ _ (Nat.le_refl _), Nat.zero_le _⟩
    show Mc _ _ _ _ _ _
    rw [List.take_zero, Cp.part, List.append_nil]
    exact HM1.out.below hb0
  case round =>
    obtain ⟨k, v', P, hkk, rfl, hP, hMr, hEr, hNr, hLr, hZr, hOr, hPl⟩ := hrel
    obtain ⟨l0, l1, l2, l3, l4, l5, l6⟩ := blk7 hLr.out.blk
    obtain ⟨z0, z1, z2, z3, z4, z5, z6⟩ := blk7 hZr.out.blk
    by_cases hlt : k < n0.kids.length
    · obtain ⟨a7, rfl, hb7, hc7⟩ := H6.out k hlt
      obtain ⟨hj0, hwf, htst⟩ := Hw.out n0.kids[k] (List.getElem_mem hlt)
      obtain ⟨j, hj⟩ : ∃ j : Nat, n0.kids[k] = (j : Int) := ⟨n0.kids[k].toNat, by omega⟩
      have hsn : n0.kids.take (k + 1) = n0.kids.take k ++ [(j : Int)] := by rw [← hj]; exact (List.take_append_getElem hlt).symm
      rw [hj] at hwf htst hc7
      rw [Int.toNat_natCast] at hwf
      have hBr := mkHid (HB1.out.trans (HM1.out.low hEr.out))
      have y := (hBr.out.cell (p := a7.add k) (by rw [add_blockG]; exact hb7)).trans hc7
      have hsr := hEr.out.size
      have hbnd := Cp.part_take (Cp.code F d) 3 (C.length + 1) n0.kids (k + 1)
      have Hlen2 := Hlen.out
      have Hwf := mkHid hwf
      have Hkj := mkHid hj
      have Htst := mkHid htst
      obtain ⟨E0, -, hMk⟩ := id hMr.out
      have hCw := mkHid hMk.cw
      clear hwf htst hc7 hj0 hj hMk
      rcases Nat.eq_zero_or_pos k with hk0 | hk0
      · subst hk0
        rw [show a7.add 0 = a7 by unfold Addr.add; split <;> simp_all] at y
        rw [List.take_zero] at hsn hP hMr
        rw [List.nil_append] at hsn
        have hMr1 : Hid (Mc 41 g (.slice (some a) F.length cap) v' C1 wr) := by
          have := hMr.out
          rw [Cp.part, List.append_nil] at this
          exact this
        have hnext : Hid (C1 ++ Cp.part (Cp.code F d) 3 (n0.kids.take (0 + 1)) (C.length + 1) = C1 ++ Cp.code F d j C1.length) := by
          show _ = _
          rw [hsn, Cp.part_one, Int.toNat_natCast, hl1.out]
        have hb2 : C1.length + (Cp.code F d j C1.length).length ≤ 100000 := by
          have h2 := congrArg List.length hnext.out
          rw [List.length_append, List.length_append] at h2
          have := hl1.out
          omega
        have hP2 : Hid (P = Cp.ppos (Cp.code F d) (n0.kids.take (0 + 1)) (C.length + 1)) := by
          show _ = _
          rw [hP.out, hsn]
          rfl
        have kT := mkHid (Ih.out j g v' C1 wr Hwf.out Htst.out hMr1.out (hF0.out.below hBr.out) hb2)
        clear hb2 hbnd Hlen2 hsn hP hMr
        go_wp2_with (go_at_call 31; fail)
        refine kT.out.mono ?_
        rintro e w2 ⟨rfl, v2, hM2, hE2, hN2⟩
        rw [← hnext.out] at hM2
        have HM2 := mkHid hM2
        have HL2 := mkHid (hLr.out.keep hE2 hN2)
        have HZ2 := mkHid (hZr.out.keep hE2 hN2)
        have HO2 := mkHid (OwnP.ef hOr.out hgl1 hCw.out hE2)
        have HE2 := mkHid (Ef.trans hEr.out hNr.out hE2)
        have HN2 := mkHid (Nw.trans hNr.out hEr.out.size hN2)
        clear hM2 hE2 hN2 kT l0 l1 l2 l3 l4 l5 l6 z0 z1 z2 z3 z4 z5 z6 y hMr1 hEr hNr hLr hZr hOr hCw
        go_wp2
        go_roundw
        case rel => exact ⟨1, v2, P, by omega, by go_num, hP2, HM2, HE2, HN2, HL2, HZ2, HO2, by omega⟩
        case measure => simp [Lib.intOf]; omega
      · have hne : n0.kids.take k ≠ [] := by
          intro e
          have := congrArg List.length e
          rw [List.length_take, List.length_nil] at this
          omega
        obtain ⟨D, hD⟩ : ∃ D, C1 ++ Cp.part (Cp.code F d) 3 (n0.kids.take k) (C.length + 1) = D := ⟨_, rfl⟩
        have hlD : D.length = C.length + 1 + (Cp.part (Cp.code F d) 3 (n0.kids.take k) (C.length + 1)).length := by rw [← hD, List.length_append, hl1.out]
        rw [hD] at hMr
        have hnext : Hid (C1 ++ Cp.part (Cp.code F d) 3 (n0.kids.take (k + 1)) (C.length + 1) = D ++ [(⟨3, 0, { Cp.z with num := 0 }⟩ : Cd)] ++ Cp.code F d j (D.length + 1)) := by
          show _ = _
          rw [hsn, Cp.part_snoc _ _ _ _ _ hne, Int.toNat_natCast, ← List.append_assoc, hD, hlD, List.append_assoc]
          rfl
        have hP2 : Hid (P ++ [D.length] = Cp.ppos (Cp.code F d) (n0.kids.take (k + 1)) (C.length + 1)) := by
          show _ = _
          rw [hP.out, hsn, Cp.ppos_snoc _ 3 _ _ _ hne, hlD]
        have hb2 : D.length + 1 + (Cp.code F d j (D.length + 1)).length ≤ 100000 := by
          have h2 := congrArg List.length hnext.out
          rw [List.length_append, List.length_append, List.length_append, List.length_singleton, hl1.out] at h2
          omega
        have Hb2 := mkHid hb2
        have kP := mkHid (specPut0 g _ v' D 3 0 wr hMr.out (by omega))
        have HlD := mkHid hlD
        have HD := mkHid hD
        clear hbnd Hlen2 hsn hP hb2 hlD hD hne
        go_wp2_with (go_at_call 16; fail)
        refine kP.out.mono ?_
        rintro e w2 ⟨rfl, v2, hM2, hE2, hN2⟩
        have HM2 := mkHid hM2
        have HL2 := mkHid (hLr.out.keep hE2 hN2)
        have HZ2 := mkHid (hZr.out.keep hE2 hN2)
        have HO2 := mkHid (OwnP.ef hOr.out hgl1 hCw.out hE2)
        have HE2 := mkHid (Ef.trans hEr.out hNr.out hE2)
        have HN2 := mkHid (Nw.trans hNr.out hEr.out.size hN2)
        have hs2 := hE2.size
        clear hM2 hE2 hN2 kP l0 l1 l2 l3 l4 l5 l6 z0 z1 z2 z3 z4 z5 z6 y hMr hEr hNr hLr hZr hOr hCw
        go_wp2_with (at_builtin; refine wp_appP rfl _ _ rfl w1.heap.size u9 P rfl HO2.out D.length 1 rfl (by omega) (by omega) ?_; intro ov' w3 hO3 hg3; refine Hid.out ?_)
        have hbA : Below w2.heap.size w2 (w2.alloc (.cells #[.int .i64 (D.length : Int)] 3)) := (Below.refl _ _).alloc (Nat.le_refl _) _
        have HOA : OwnP w1.heap.size u9 P (w2.alloc (.cells #[.int .i64 (D.length : Int)] 3)) := World.ownsRow.alloc HO2.out _
        have hlow : ∀ k, u9.ownBlock = some k → w1.heap.size ≤ k := fun k hk => (World.ownsRow.lt HOA k hk).1
        have hM3 := Mc.grown (HM2.out.below hbA) HOA hgl1 hg3
        have HE3 := mkHid (Ef.grown (Ef.grown (row := none) HE2.out ⟨hbA.os, hbA.tape, hbA.output, hbA.size, fun k hk _ => hbA.block k hk⟩ (fun k hk => by cases hk)) hg3 hlow)
        have HL3 := mkHid ((HL2.out.below hbA).grown hg3 (fun e => by have := hlow _ e.symm; omega))
        have HZ3 := mkHid ((HZ2.out.below hbA).grown hg3 (fun e => by have := hlow _ e.symm; omega))
        have HO3 := mkHid hO3
        have HM3 := mkHid hM3
        have hlx : (D ++ [(⟨3, 0, { Cp.z with num := 0 }⟩ : Cd)]).length = D.length + 1 := by simp
        have hB3 := mkHid (HB1.out.trans (HM1.out.low HE3.out))
        obtain ⟨a8, ha8, hb8, hc8⟩ := H6.out k hlt
        cases ha8
        have y3 := (hB3.out.cell (p := a7.add k) (by rw [add_blockG]; exact hb8)).trans hc8
        obtain ⟨E3, -, hMk3⟩ := id hM3
        have hCw3 := mkHid hMk3.cw
        have kT0 := Ih.out j g v2 _ w3 Hwf.out Htst.out HM3.out (hF0.out.below hB3.out) (by rw [hlx]; exact Hb2.out)
        rw [hlx, ← hnext.out] at kT0
        have kT := mkHid kT0
        have hkj : n0.kids[k] = (j : Int) := Hkj.out
        rw [hkj] at y3
        obtain ⟨l0, l1, l2, l3, l4, l5, l6⟩ := blk7 HL3.out.blk
        obtain ⟨z0, z1, z2, z3, z4, z5, z6⟩ := blk7 HZ3.out.blk
        clear hbA HOA hlow hM3 hO3 hg3 hMk3 kT0 hc8 hb8 hkj HM2 HL2 HZ2 HO2 HE2
        refine mkHid ?_
        go_wp2_with (go_at_call 31; fail)
        refine kT.out.mono ?_
        rintro e w4 ⟨rfl, v4, hM4, hE4, hN4⟩
        have HM4 := mkHid hM4
        have HL4 := mkHid (HL3.out.keep hE4 hN4)
        have HZ4 := mkHid (HZ3.out.keep hE4 hN4)
        have HO4 := mkHid (OwnP.ef HO3.out hgl1 hCw3.out hE4)
        have HE4 := mkHid (Ef.trans HE3.out HN2.out hE4)
        have HN4 := mkHid (Nw.trans HN2.out HE3.out.size hN4)
        clear hM4 hE4 hN4 kT l0 l1 l2 l3 l4 l5 l6 z0 z1 z2 z3 z4 z5 z6 y3 HM3 HL3 HZ3 HO3 HE3 hCw3
        have hPl2 : (P ++ [D.length]).length ≤ k + 1 := by rw [List.length_append, List.length_singleton]; omega
        go_wp2
        go_roundw
        case rel => exact ⟨k + 1, v4, _, by omega, by go_num, hP2, HM4, HE4, HN4, HL4, HZ4, HO4, hPl2⟩
        case measure => simp [Lib.intOf]; omega
    · have hall : n0.kids.take k = n0.kids := List.take_of_length_le (by omega)
      rw [hall] at hP hMr
      obtain ⟨oo, oc, rfl⟩ := hOr.out.shape
      obtain ⟨D, hD⟩ : ∃ D, C1 ++ Cp.part (Cp.code F d) 3 n0.kids (C.length + 1) = D := ⟨_, rfl⟩
      have hlD : D.length = C.length + 1 + (Cp.part (Cp.code F d) 3 n0.kids (C.length + 1)).length := by rw [← hD, List.length_append, hl1.out]
      have hlt2 : Hid (∀ a ∈ P, a < D.length) := by
        intro a ha
        rw [hP.out] at ha
        have := Cp.ppos_lt (Cp.code F d) 3 (C.length + 1) n0.kids a ha
        omega
      have hfin : Hid (P.foldl (fun L a => Cp.pt L a (D.length : Nat)) D = C ++ Cp.zc 1 0 :: Cp.sevs (Cp.code F d) 3 n0.kids (C.length + 1)) := by
        show _ = _
        have := Cp.part_told (Cp.code F d) 3 (C.length + 1) C1 hl1.out n0.kids
        rw [hD, ← hP.out] at this
        rw [this, ← HC1.out, List.append_assoc]
        rfl
      rw [hD] at hMr
      have hPl3 : P.length ≤ 100000 := by omega
      clear hD hlD hall hP
      go_wp2
      clear l0 l1 l2 l3 l4 l5 l6 z0 z1 z2 z3 z4 z5 z6
      go_loopw [11] (fun iv wq => ∃ (m : Nat) (v'' : Value), m ≤ P.length ∧ iv = .int .i64 m ∧ Hid (Mc 41 g (.slice (some a) F.length cap) v'' ((P.take m).foldl (fun L a => Cp.pt L a (D.length : Nat)) D) wq) ∧ Hid (Ef g v1.ownBlock w1 wq) ∧ Hid (Nw w1 v1 v'') ∧ Hid (OwnP w1.heap.size (.slice oo P.length oc) P wq)) (fun iv _ => P.length - (Lib.intOf iv).toNat)
      case atStart => exact ⟨0, v', Nat.zero_le _, rfl, hMr, hEr, hNr, hOr⟩
      case round =>
        clear hMr hEr hNr hOr hLr hZr
        obtain ⟨m, v'', hmm, rfl, hMq, hEq, hNq, hOq⟩ := hrel
        by_cases hltm : m < P.length
        · obtain ⟨q, rfl, hcq⟩ := hOq.out.at m hltm
          obtain ⟨Dm, hDm⟩ : ∃ Dm, (P.take m).foldl (fun L a => Cp.pt L a (D.length : Nat)) D = Dm := ⟨_, rfl⟩
          have hlm : Dm.length = D.length := by rw [← hDm, Cp.fold_len]
          have hpm := hlt2.out P[m] (List.getElem_mem hltm)
          rw [hDm] at hMq
          have hnx : Hid ((P.take (m + 1)).foldl (fun L a => Cp.pt L a (D.length : Nat)) D = Cp.pt Dm P[m] (Dm.length : Int)) := by
            show _ = _
            rw [← List.take_append_getElem hltm, List.foldl_append, hDm, hlm]
            rfl
          have kH := mkHid (specHereC g P[m] _ v'' Dm wr hMq.out (by omega))
          obtain ⟨Eq, -, hMkq⟩ := id hMq.out
          have hCwq := mkHid hMkq.cw
          clear hDm hlm hpm hMkq
          generalize P[m] = pm at *
          go_wp2_with (go_at_call 32; fail)
          refine kH.out.mono ?_
          rintro e w5 ⟨rfl, v5, hM5, hE5, hN5⟩
          rw [← hnx.out] at hM5
          have HM5 := mkHid hM5
          have HO5 := mkHid (OwnP.ef hOq.out hgl1 hCwq.out hE5)
          have HE5 := mkHid (Ef.trans hEq.out hNq.out hE5)
          have HN5 := mkHid (Nw.trans hNq.out hEq.out.size hN5)
          clear hM5 hE5 hN5 kH hcq hMq hEq hNq hOq hCwq
          go_wp2
          go_roundw
          case rel => exact ⟨m + 1, v5, by omega, by go_num, HM5, HE5, HN5, HO5⟩
          case measure => simp [Lib.intOf]; omega
        · have hall : P.take m = P := List.take_of_length_le (by omega)
          rw [hall, hfin.out] at hMq
          go_wp2
          refine bodyPost_end (v := .tuple #[]) (results_none Try.results31 _ _ _) rfl ⟨rfl, Rc.ahead HbW.out (Rc.trans HE1.out HN1.out ⟨v'', hMq.out, hEq.out, hNq.out⟩)⟩
end Go.Proofs.Ytonnmbkfjiddnaa
