
/- The specification's code of a choice. (By tools/gen/compdo.py.) -/

/- The program's coder: addChoice, of two. -/

/- The program's coder: addChoice, of three. -/

/- Tests of which all or one must hold: plain; places in a list of one's own. -/

/- The program's coder: a list of closures. -/

/- The program's coder: addSeveral. -/
import Derived.Test.YtonnmbkfjiddnaaCompImpl7
namespace Go.Proofs.Ytonnmbkfjiddnaa
open Go.RowKit Go.Lib Go.Maps
theorem kids_if (F : List Nd) (ks : List Int) (h : Fn.kidsOk 2 (ks.map (Fn.kindAt F)) = true) : ∃ k0 k1 o, ks = k0 :: k1 :: o ∧ Fn.isTest (Fn.kindAt F k0) = true ∧ Fn.kindAt F k1 = 1 ∧ (o = [] ∨ ∃ k2, o = [k2] ∧ (Fn.kindAt F k2 = 1 ∨ Fn.kindAt F k2 = 2)) := by
  unfold Fn.kidsOk at h
  rw [Bool.and_eq_true] at h
  obtain ⟨h1, h2⟩ := h
  unfold Fn.least at h2
  rw [if_pos rfl] at h2
  have h3 := of_decide_eq_true h2
  rw [List.length_map] at h3
  rcases ks with _ | ⟨k0, _ | ⟨k1, o⟩⟩
  · simp at h3
  · simp at h3
  · simp only [List.map_cons, Fn.kidsFrom, Bool.and_eq_true] at h1
    obtain ⟨h4, h5, h6⟩ := h1
    refine ⟨k0, k1, o, rfl, ?_, ?_, ?_⟩
    · simpa [Fn.kidOk] using h4
    · simpa [Fn.kidOk] using h5
    · rcases o with _ | ⟨k2, _ | ⟨k3, r⟩⟩
      · exact .inl rfl
      · refine .inr ⟨k2, rfl, ?_⟩
        simp only [List.map_cons, List.map_nil, Fn.kidsFrom, Bool.and_eq_true] at h6
        simpa [Fn.kidOk] using h6.1
      · exfalso
        simp only [List.map_cons, Fn.kidsFrom, Bool.and_eq_true] at h6
        have h7 := h6.2.1
        simp [Fn.kidOk] at h7
theorem if2_made (C B : List Cd) (L : Int) : Cp.pt (C ++ [Cp.zc 4 0] ++ B) C.length L = C ++ Cp.zc 4 L :: B := by
  rw [show C ++ [Cp.zc 4 0] ++ B = C ++ Cp.zc 4 0 :: B by simp, Cp.pt_mid]
theorem if3_made (C B X : List Cd) (L1 L2 : Int) (p : Nat) (hp : p = C.length + 1 + B.length) : Cp.pt (Cp.pt (C ++ [Cp.zc 4 0] ++ B ++ [Cp.zc 2 0]) C.length L1 ++ X) p L2 = C ++ Cp.zc 4 L1 :: (B ++ Cp.zc 2 L2 :: X) := by
  rw [show C ++ [Cp.zc 4 0] ++ B ++ [Cp.zc 2 0] = C ++ Cp.zc 4 0 :: (B ++ [Cp.zc 2 0]) by simp, Cp.pt_mid,
    show C ++ Cp.zc 4 L1 :: (B ++ [Cp.zc 2 0]) ++ X = (C ++ Cp.zc 4 L1 :: B) ++ Cp.zc 2 0 :: X by simp, Cp.pt_at _ _ _ _ _ _ (by simp; omega)]
  simp
set_option maxHeartbeats 4000000 in
theorem doIf2 (F : List Nd) (o : Option Addr) (cap d i g : Nat) (v : Value) (C : List Cd) (w : World) (hi : i < F.length) (hM : Mc 41 g (.slice o F.length cap) v C w) (hF : Nds g w o F) (_hlF : F.length ≤ 1048576) (j0 j1 : Nat) (hk : F[i].kind = 2) (ihT : TestOk F o cap d) (ihD : DoOk F o cap d) (hkids : F[i].kids = [(j0 : Int), (j1 : Int)]) (hwj0 : Cp.Wf F d j0) (hwj1 : Cp.Wf F d j1) (htj0 : Fn.isTest (Fn.kindAt F j0) = true) (htj1 : Fn.isTest (Fn.kindAt F j1) = false) (hlen : C.length + 1 + (Cp.code F d j0 (C.length + 1)).length + 1 + (Cp.code F d j1 (C.length + 1 + (Cp.code F d j0 (C.length + 1)).length + 1)).length ≤ 100000) :
    Calls Try.prog 15 #[.pointer (some ⟨g, 0, none⟩), .int .i64 i] w fun e w' => e = .returned (.tuple #[]) ∧ Rc 41 g (.slice o F.length cap) v (C ++ Cp.one (Cp.code F d) F[i] C.length) w w' := by
  have hF0 := mkHid hF
  have hone : Cp.one (Cp.code F d) F[i] C.length = Cp.zc 1 0 :: Cp.choice (Cp.code F d) (j0 : Int) (j1 : Int) [] (C.length + 1) := by
    unfold Cp.one Cp.rest
    rw [hk, hkids]
    rfl
  rw [hone]
  have IhT := mkHid ihT
  have IhD := mkHid ihD
  have Hlen := mkHid hlen
  have Hwj0 := mkHid hwj0
  have Htj0 := mkHid htj0
  have Hwj1 := mkHid hwj1
  have Htj1 := mkHid htj1
  have hlC : C.length ≤ 99999 := by omega
  clear ihT ihD hone hlen hwj0 htj0 hwj1 htj1
  obtain ⟨a, vn, vk, vd, rfl, ha, hA, hI⟩ := hF i hi
  obtain ⟨n0, hn0⟩ : ∃ n, F[i] = n := ⟨_, rfl⟩
  rw [hn0] at hA hI hk
  try rw [hn0]
  have x1 : (n0.kind == 1) = false := by rw [hk]; rfl
  have x2 : (n0.kind == 2) = true := by rw [hk]; rfl
  have hI0 := mkHid hI
  obtain ⟨⟨a4, e4, rfl, T4⟩, ⟨a5, e5, rfl, T5⟩, ⟨a6, e6, rfl, T6⟩⟩ := hI
  obtain ⟨c0, c1, c2, c3, c4, c5, c6⟩ := hA
  rw [hn0] at hkids
  have hpos : n0.kids.length = 2 := by rw [hkids]; rfl
  obtain ⟨a7, ha7, hb7, hc70⟩ := T6 0 (by omega)
  subst ha7
  rw [show n0.kids[0] = (j0 : Int) by simp [hkids], show a7.add 0 = a7 by unfold Addr.add; split <;> simp_all] at hc70
  obtain ⟨b1, hb1, -, hc71⟩ := T6 1 (by omega)
  cases hb1
  rw [show n0.kids[1] = (j1 : Int) by simp [hkids], show a7.add 1 = ⟨a7.block, a7.off + 1, none⟩ from rfl] at hc71
  have Hkids := mkHid hkids
  have hp1 : 1 < n0.kids.length := by omega
  have hp2 : decide ((2 : Int) < (n0.kids.length : Int)) = false := by simp; omega
  clear hkids hpos
  have H4 := mkHid T4
  have H5 := mkHid T5
  have H6 := mkHid T6
  obtain ⟨W, hW, hbW, hMW, hL, hZ⟩ := two_locals n0 (.slice a4 n0.names.length e4) (.slice a5 n0.keys.length e5) (.slice (some a7) n0.kids.length e6) hM
  have gc := (two_cellsM hM.blk).1
  have k1 := mkHid (specPut0 g _ v C 1 0 W hMW (by omega))
  have HW := mkHid hW
  have HL := mkHid hL
  have HZ := mkHid hZ
  have HbW := mkHid hbW
  have Hk := mkHid hk
  have HMW := mkHid hMW
  have HM := mkHid hM
  obtain ⟨z0, z1, z2, z3, z4, z5, z6⟩ := blk7 hZ.blk
  obtain ⟨l0, l1, l2, l3, l4, l5, l6⟩ := blk7 hL.blk
  have hgl := heap_ltM hM.blk
  clear hW hL hZ hMW hbW T4 T5 T6 hk hM
  go_enter Try.func15, Try.ntmps15
  go_wp2_with (go_at_call 16; fail)
  rw [HW.out]
  refine k1.out.mono ?_
  rintro e w1 ⟨rfl, v1, hM1, hE1, hN1⟩
  have HL1 := mkHid (HL.out.keep hE1 hN1)
  have HZ1 := mkHid (HZ.out.keep hE1 hN1)
  have HM1 := mkHid hM1
  have HE1 := mkHid hE1
  have HN1 := mkHid hN1
  clear hM1 hE1 hN1
  clear l0 l1 l2 l3 l4 l5 l6 z0 z1 z2 z3 z4 z5 z6
  obtain ⟨l0, l1, l2, l3, l4, l5, l6⟩ := blk7 HL1.out.blk
  obtain ⟨z0, z1, z2, z3, z4, z5, z6⟩ := blk7 HZ1.out.blk
  have HB1 := mkHid ((HbW.out.mono (show g ≤ w.heap.size by omega)).trans (HMW.out.low HE1.out))
  obtain ⟨C1, hC1⟩ : ∃ C1, C ++ [(⟨1, 0, { Cp.z with num := 0 }⟩ : Cd)] = C1 := ⟨_, rfl⟩
  have hl1 : Hid (C1.length = C.length + 1) := show _ = _ from by rw [← hC1]; simp
  rw [hC1] at HM1
  have HC1 := mkHid hC1
  clear hC1
  have y0 := (HB1.out.cell (p := a7) (by exact hb7)).trans hc70
  have k2 := mkHid (IhT.out j0 g v1 C1 w1 Hwj0.out Htj0.out HM1.out (hF0.out.below HB1.out) (by rw [hl1.out]; have := Hlen.out; omega))
  go_wp2_with (go_at_call 31; fail)
  refine k2.out.mono ?_
  rintro e w2 ⟨rfl, v2, hM2, hE2, hN2⟩
  have HL2 := mkHid (HL1.out.keep hE2 hN2)
  have HZ2 := mkHid (HZ1.out.keep hE2 hN2)
  have HM2 := mkHid hM2
  have HE2 := mkHid hE2
  have HN2 := mkHid hN2
  clear hM2 hE2 hN2
  clear l0 l1 l2 l3 l4 l5 l6 z0 z1 z2 z3 z4 z5 z6
  obtain ⟨l0, l1, l2, l3, l4, l5, l6⟩ := blk7 HL2.out.blk
  obtain ⟨z0, z1, z2, z3, z4, z5, z6⟩ := blk7 HZ2.out.blk
  have HB2 := mkHid (HB1.out.trans (HM1.out.low HE2.out))
  clear y0
  obtain ⟨C2, hC2⟩ : ∃ C2, C1 ++ Cp.code F d j0 C1.length = C2 := ⟨_, rfl⟩
  have hl2 : Hid (C2.length = C.length + 1 + (Cp.code F d j0 (C.length + 1)).length) := show _ = _ from by rw [← hC2]; rw [List.length_append, hl1.out]
  rw [hC2] at HM2
  have HC2 := mkHid hC2
  clear hC2
  have k3 := mkHid (specPut0 g _ v2 C2 4 0 w2 HM2.out (by have := hl2.out; have := Hlen.out; omega))
  go_wp2_with (go_at_call 16; fail)
  refine k3.out.mono ?_
  rintro e w3 ⟨rfl, v3, hM3, hE3, hN3⟩
  have HL3 := mkHid (HL2.out.keep hE3 hN3)
  have HZ3 := mkHid (HZ2.out.keep hE3 hN3)
  have HM3 := mkHid hM3
  have HE3 := mkHid hE3
  have HN3 := mkHid hN3
  clear hM3 hE3 hN3
  clear l0 l1 l2 l3 l4 l5 l6 z0 z1 z2 z3 z4 z5 z6
  obtain ⟨l0, l1, l2, l3, l4, l5, l6⟩ := blk7 HL3.out.blk
  obtain ⟨z0, z1, z2, z3, z4, z5, z6⟩ := blk7 HZ3.out.blk
  have HB3 := mkHid (HB2.out.trans (HM2.out.low HE3.out))
  obtain ⟨C3, hC3⟩ : ∃ C3, C2 ++ [(⟨4, 0, { Cp.z with num := 0 }⟩ : Cd)] = C3 := ⟨_, rfl⟩
  have hl3 : Hid (C3.length = C.length + 1 + (Cp.code F d j0 (C.length + 1)).length + 1) := show _ = _ from by rw [← hC3]; rw [List.length_append, hl2.out, List.length_cons, List.length_nil] <;> omega
  rw [hC3] at HM3
  have HC3 := mkHid hC3
  clear hC3
  have y1 := (HB3.out.cell (p := ⟨a7.block, a7.off + 1, none⟩) (by exact hb7)).trans hc71
  have k4 := mkHid (IhD.out j1 g v3 C3 w3 Hwj1.out Htj1.out HM3.out (hF0.out.below HB3.out) (by rw [hl3.out]; have := Hlen.out; omega))
  go_wp2_with (go_at_call 15; fail)
  refine k4.out.mono ?_
  rintro e w4 ⟨rfl, v4, hM4, hE4, hN4⟩
  have HL4 := mkHid (HL3.out.keep hE4 hN4)
  have HZ4 := mkHid (HZ3.out.keep hE4 hN4)
  have HM4 := mkHid hM4
  have HE4 := mkHid hE4
  have HN4 := mkHid hN4
  clear hM4 hE4 hN4
  clear l0 l1 l2 l3 l4 l5 l6 z0 z1 z2 z3 z4 z5 z6
  obtain ⟨l0, l1, l2, l3, l4, l5, l6⟩ := blk7 HL4.out.blk
  obtain ⟨z0, z1, z2, z3, z4, z5, z6⟩ := blk7 HZ4.out.blk
  have HB4 := mkHid (HB3.out.trans (HM3.out.low HE4.out))
  clear y1
  obtain ⟨C4, hC4⟩ : ∃ C4, C3 ++ Cp.code F d j1 C3.length = C4 := ⟨_, rfl⟩
  have hl4 : Hid (C4.length = C.length + 1 + (Cp.code F d j0 (C.length + 1)).length + 1 + (Cp.code F d j1 (C.length + 1 + (Cp.code F d j0 (C.length + 1)).length + 1)).length) := show _ = _ from by rw [← hC4]; rw [List.length_append, hl3.out]
  rw [hC4] at HM4
  have HC4 := mkHid hC4
  clear hC4
  have k5 := mkHid (specHereC g C2.length _ v4 C4 w4 HM4.out (by have := hl4.out; have := hl2.out; omega))
  go_wp2_with (go_at_call 32; fail)
  refine k5.out.mono ?_
  rintro e w5 ⟨rfl, v5, hM5, hE5, hN5⟩
  have HL5 := mkHid (HL4.out.keep hE5 hN5)
  have HZ5 := mkHid (HZ4.out.keep hE5 hN5)
  have HM5 := mkHid hM5
  have HE5 := mkHid hE5
  have HN5 := mkHid hN5
  clear hM5 hE5 hN5
  clear l0 l1 l2 l3 l4 l5 l6 z0 z1 z2 z3 z4 z5 z6
  obtain ⟨l0, l1, l2, l3, l4, l5, l6⟩ := blk7 HL5.out.blk
  obtain ⟨z0, z1, z2, z3, z4, z5, z6⟩ := blk7 HZ5.out.blk
  have HB5 := mkHid (HB4.out.trans (HM4.out.low HE5.out))
  go_wp2
  refine bodyPost_end (v := .tuple #[]) (results_none Try.results15 _ _ _) rfl ⟨rfl, Rc.ahead HbW.out ?_⟩
  refine Rc.trans HE1.out HN1.out (Rc.trans HE2.out HN2.out (Rc.trans HE3.out HN3.out (Rc.trans HE4.out HN4.out (⟨v5, ?_, HE5.out, HN5.out⟩))))
  have e2 : C2 = C ++ Cp.zc 1 0 :: Cp.code F d j0 (C.length + 1) := by
    rw [← HC2.out, hl1.out, ← HC1.out]
    simp [Cp.zc, Cp.z]
  have e3 : C4 = C2 ++ [Cp.zc 4 0] ++ Cp.code F d j1 (C.length + 1 + (Cp.code F d j0 (C.length + 1)).length + 1) := by
    rw [← HC4.out, hl3.out, ← HC3.out]
    rfl
  have l4 : (C4.length : Int) = ((C.length + 1 + (Cp.code F d j0 (C.length + 1)).length + 1 + (Cp.code F d j1 (C.length + 1 + (Cp.code F d j0 (C.length + 1)).length + 1)).length : Nat) : Int) := by have := hl4.out; omega
  have e : C ++ Cp.zc 1 0 :: Cp.choice (Cp.code F d) (j0 : Int) (j1 : Int) [] (C.length + 1) = Cp.pt C4 C2.length (C4.length : Int) := by
    rw [l4, e3]
    refine Eq.trans ?_ (if2_made C2 _ _).symm
    rw [e2]
    unfold Cp.choice
    simp only [Int.toNat_natCast, List.append_assoc, List.cons_append]
  rw [e]
  exact HM5.out
set_option maxHeartbeats 4000000 in
theorem doIf3 (F : List Nd) (o : Option Addr) (cap d i g : Nat) (v : Value) (C : List Cd) (w : World) (hi : i < F.length) (hM : Mc 41 g (.slice o F.length cap) v C w) (hF : Nds g w o F) (_hlF : F.length ≤ 1048576) (j0 j1 j2 : Nat) (hk : F[i].kind = 2) (ihT : TestOk F o cap d) (ihD : DoOk F o cap d) (hkids : F[i].kids = [(j0 : Int), (j1 : Int), (j2 : Int)]) (hwj0 : Cp.Wf F d j0) (hwj1 : Cp.Wf F d j1) (hwj2 : Cp.Wf F d j2) (htj0 : Fn.isTest (Fn.kindAt F j0) = true) (htj1 : Fn.isTest (Fn.kindAt F j1) = false) (htj2 : Fn.isTest (Fn.kindAt F j2) = false) (hlen : C.length + 1 + (Cp.code F d j0 (C.length + 1)).length + 1 + (Cp.code F d j1 (C.length + 1 + (Cp.code F d j0 (C.length + 1)).length + 1)).length + 1 + (Cp.code F d j2 (C.length + 1 + (Cp.code F d j0 (C.length + 1)).length + 1 + (Cp.code F d j1 (C.length + 1 + (Cp.code F d j0 (C.length + 1)).length + 1)).length + 1)).length ≤ 100000) :
    Calls Try.prog 15 #[.pointer (some ⟨g, 0, none⟩), .int .i64 i] w fun e w' => e = .returned (.tuple #[]) ∧ Rc 41 g (.slice o F.length cap) v (C ++ Cp.one (Cp.code F d) F[i] C.length) w w' := by
  have hF0 := mkHid hF
  have hone : Cp.one (Cp.code F d) F[i] C.length = Cp.zc 1 0 :: Cp.choice (Cp.code F d) (j0 : Int) (j1 : Int) [(j2 : Int)] (C.length + 1) := by
    unfold Cp.one Cp.rest
    rw [hk, hkids]
    rfl
  rw [hone]
  have IhT := mkHid ihT
  have IhD := mkHid ihD
  have Hlen := mkHid hlen
  have Hwj0 := mkHid hwj0
  have Htj0 := mkHid htj0
  have Hwj1 := mkHid hwj1
  have Htj1 := mkHid htj1
  have Hwj2 := mkHid hwj2
  have Htj2 := mkHid htj2
  have hlC : C.length ≤ 99999 := by omega
  clear ihT ihD hone hlen hwj0 htj0 hwj1 htj1 hwj2 htj2
  obtain ⟨a, vn, vk, vd, rfl, ha, hA, hI⟩ := hF i hi
  obtain ⟨n0, hn0⟩ : ∃ n, F[i] = n := ⟨_, rfl⟩
  rw [hn0] at hA hI hk
  try rw [hn0]
  have x1 : (n0.kind == 1) = false := by rw [hk]; rfl
  have x2 : (n0.kind == 2) = true := by rw [hk]; rfl
  have hI0 := mkHid hI
  obtain ⟨⟨a4, e4, rfl, T4⟩, ⟨a5, e5, rfl, T5⟩, ⟨a6, e6, rfl, T6⟩⟩ := hI
  obtain ⟨c0, c1, c2, c3, c4, c5, c6⟩ := hA
  rw [hn0] at hkids
  have hpos : n0.kids.length = 3 := by rw [hkids]; rfl
  obtain ⟨a7, ha7, hb7, hc70⟩ := T6 0 (by omega)
  subst ha7
  rw [show n0.kids[0] = (j0 : Int) by simp [hkids], show a7.add 0 = a7 by unfold Addr.add; split <;> simp_all] at hc70
  obtain ⟨b1, hb1, -, hc71⟩ := T6 1 (by omega)
  cases hb1
  rw [show n0.kids[1] = (j1 : Int) by simp [hkids], show a7.add 1 = ⟨a7.block, a7.off + 1, none⟩ from rfl] at hc71
  obtain ⟨b2, hb2, -, hc72⟩ := T6 2 (by omega)
  cases hb2
  rw [show n0.kids[2] = (j2 : Int) by simp [hkids], show a7.add 2 = ⟨a7.block, a7.off + 2, none⟩ from rfl] at hc72
  have Hkids := mkHid hkids
  have hp1 : 1 < n0.kids.length := by omega
  have hp2 : decide ((2 : Int) < (n0.kids.length : Int)) = true := by simp; omega
  have hp3 : 2 < n0.kids.length := by omega
  clear hkids hpos
  have H4 := mkHid T4
  have H5 := mkHid T5
  have H6 := mkHid T6
  obtain ⟨W, hW, hbW, hMW, hL, hZ⟩ := two_locals n0 (.slice a4 n0.names.length e4) (.slice a5 n0.keys.length e5) (.slice (some a7) n0.kids.length e6) hM
  have gc := (two_cellsM hM.blk).1
  have k1 := mkHid (specPut0 g _ v C 1 0 W hMW (by omega))
  have HW := mkHid hW
  have HL := mkHid hL
  have HZ := mkHid hZ
  have HbW := mkHid hbW
  have Hk := mkHid hk
  have HMW := mkHid hMW
  have HM := mkHid hM
  obtain ⟨z0, z1, z2, z3, z4, z5, z6⟩ := blk7 hZ.blk
  obtain ⟨l0, l1, l2, l3, l4, l5, l6⟩ := blk7 hL.blk
  have hgl := heap_ltM hM.blk
  clear hW hL hZ hMW hbW T4 T5 T6 hk hM
  go_enter Try.func15, Try.ntmps15
  go_wp2_with (go_at_call 16; fail)
  rw [HW.out]
  refine k1.out.mono ?_
  rintro e w1 ⟨rfl, v1, hM1, hE1, hN1⟩
  have HL1 := mkHid (HL.out.keep hE1 hN1)
  have HZ1 := mkHid (HZ.out.keep hE1 hN1)
  have HM1 := mkHid hM1
  have HE1 := mkHid hE1
  have HN1 := mkHid hN1
  clear hM1 hE1 hN1
  clear l0 l1 l2 l3 l4 l5 l6 z0 z1 z2 z3 z4 z5 z6
  obtain ⟨l0, l1, l2, l3, l4, l5, l6⟩ := blk7 HL1.out.blk
  obtain ⟨z0, z1, z2, z3, z4, z5, z6⟩ := blk7 HZ1.out.blk
  have HB1 := mkHid ((HbW.out.mono (show g ≤ w.heap.size by omega)).trans (HMW.out.low HE1.out))
  obtain ⟨C1, hC1⟩ : ∃ C1, C ++ [(⟨1, 0, { Cp.z with num := 0 }⟩ : Cd)] = C1 := ⟨_, rfl⟩
  have hl1 : Hid (C1.length = C.length + 1) := show _ = _ from by rw [← hC1]; simp
  rw [hC1] at HM1
  have HC1 := mkHid hC1
  clear hC1
  have y0 := (HB1.out.cell (p := a7) (by exact hb7)).trans hc70
  have k2 := mkHid (IhT.out j0 g v1 C1 w1 Hwj0.out Htj0.out HM1.out (hF0.out.below HB1.out) (by rw [hl1.out]; have := Hlen.out; omega))
  go_wp2_with (go_at_call 31; fail)
  refine k2.out.mono ?_
  rintro e w2 ⟨rfl, v2, hM2, hE2, hN2⟩
  have HL2 := mkHid (HL1.out.keep hE2 hN2)
  have HZ2 := mkHid (HZ1.out.keep hE2 hN2)
  have HM2 := mkHid hM2
  have HE2 := mkHid hE2
  have HN2 := mkHid hN2
  clear hM2 hE2 hN2
  clear l0 l1 l2 l3 l4 l5 l6 z0 z1 z2 z3 z4 z5 z6
  obtain ⟨l0, l1, l2, l3, l4, l5, l6⟩ := blk7 HL2.out.blk
  obtain ⟨z0, z1, z2, z3, z4, z5, z6⟩ := blk7 HZ2.out.blk
  have HB2 := mkHid (HB1.out.trans (HM1.out.low HE2.out))
  clear y0
  obtain ⟨C2, hC2⟩ : ∃ C2, C1 ++ Cp.code F d j0 C1.length = C2 := ⟨_, rfl⟩
  have hl2 : Hid (C2.length = C.length + 1 + (Cp.code F d j0 (C.length + 1)).length) := show _ = _ from by rw [← hC2]; rw [List.length_append, hl1.out]
  rw [hC2] at HM2
  have HC2 := mkHid hC2
  clear hC2
  have k3 := mkHid (specPut0 g _ v2 C2 4 0 w2 HM2.out (by have := hl2.out; have := Hlen.out; omega))
  go_wp2_with (go_at_call 16; fail)
  refine k3.out.mono ?_
  rintro e w3 ⟨rfl, v3, hM3, hE3, hN3⟩
  have HL3 := mkHid (HL2.out.keep hE3 hN3)
  have HZ3 := mkHid (HZ2.out.keep hE3 hN3)
  have HM3 := mkHid hM3
  have HE3 := mkHid hE3
  have HN3 := mkHid hN3
  clear hM3 hE3 hN3
  clear l0 l1 l2 l3 l4 l5 l6 z0 z1 z2 z3 z4 z5 z6
  obtain ⟨l0, l1, l2, l3, l4, l5, l6⟩ := blk7 HL3.out.blk
  obtain ⟨z0, z1, z2, z3, z4, z5, z6⟩ := blk7 HZ3.out.blk
  have HB3 := mkHid (HB2.out.trans (HM2.out.low HE3.out))
  obtain ⟨C3, hC3⟩ : ∃ C3, C2 ++ [(⟨4, 0, { Cp.z with num := 0 }⟩ : Cd)] = C3 := ⟨_, rfl⟩
  have hl3 : Hid (C3.length = C.length + 1 + (Cp.code F d j0 (C.length + 1)).length + 1) := show _ = _ from by rw [← hC3]; rw [List.length_append, hl2.out, List.length_cons, List.length_nil] <;> omega
  rw [hC3] at HM3
  have HC3 := mkHid hC3
  clear hC3
  have y1 := (HB3.out.cell (p := ⟨a7.block, a7.off + 1, none⟩) (by exact hb7)).trans hc71
  have k4 := mkHid (IhD.out j1 g v3 C3 w3 Hwj1.out Htj1.out HM3.out (hF0.out.below HB3.out) (by rw [hl3.out]; have := Hlen.out; omega))
  go_wp2_with (go_at_call 15; fail)
  refine k4.out.mono ?_
  rintro e w4 ⟨rfl, v4, hM4, hE4, hN4⟩
  have HL4 := mkHid (HL3.out.keep hE4 hN4)
  have HZ4 := mkHid (HZ3.out.keep hE4 hN4)
  have HM4 := mkHid hM4
  have HE4 := mkHid hE4
  have HN4 := mkHid hN4
  clear hM4 hE4 hN4
  clear l0 l1 l2 l3 l4 l5 l6 z0 z1 z2 z3 z4 z5 z6
  obtain ⟨l0, l1, l2, l3, l4, l5, l6⟩ := blk7 HL4.out.blk
  obtain ⟨z0, z1, z2, z3, z4, z5, z6⟩ := blk7 HZ4.out.blk
  have HB4 := mkHid (HB3.out.trans (HM3.out.low HE4.out))
  clear y1
  obtain ⟨C4, hC4⟩ : ∃ C4, C3 ++ Cp.code F d j1 C3.length = C4 := ⟨_, rfl⟩
  have hl4 : Hid (C4.length = C.length + 1 + (Cp.code F d j0 (C.length + 1)).length + 1 + (Cp.code F d j1 (C.length + 1 + (Cp.code F d j0 (C.length + 1)).length + 1)).length) := show _ = _ from by rw [← hC4]; rw [List.length_append, hl3.out]
  rw [hC4] at HM4
  have HC4 := mkHid hC4
  clear hC4
  have k5 := mkHid (specPut0 g _ v4 C4 2 0 w4 HM4.out (by have := hl4.out; have := Hlen.out; omega))
  go_wp2_with (go_at_call 16; fail)
  refine k5.out.mono ?_
  rintro e w5 ⟨rfl, v5, hM5, hE5, hN5⟩
  have HL5 := mkHid (HL4.out.keep hE5 hN5)
  have HZ5 := mkHid (HZ4.out.keep hE5 hN5)
  have HM5 := mkHid hM5
  have HE5 := mkHid hE5
  have HN5 := mkHid hN5
  clear hM5 hE5 hN5
  clear l0 l1 l2 l3 l4 l5 l6 z0 z1 z2 z3 z4 z5 z6
  obtain ⟨l0, l1, l2, l3, l4, l5, l6⟩ := blk7 HL5.out.blk
  obtain ⟨z0, z1, z2, z3, z4, z5, z6⟩ := blk7 HZ5.out.blk
  have HB5 := mkHid (HB4.out.trans (HM4.out.low HE5.out))
  obtain ⟨C5, hC5⟩ : ∃ C5, C4 ++ [(⟨2, 0, { Cp.z with num := 0 }⟩ : Cd)] = C5 := ⟨_, rfl⟩
  have hl5 : Hid (C5.length = C.length + 1 + (Cp.code F d j0 (C.length + 1)).length + 1 + (Cp.code F d j1 (C.length + 1 + (Cp.code F d j0 (C.length + 1)).length + 1)).length + 1) := show _ = _ from by rw [← hC5]; rw [List.length_append, hl4.out, List.length_cons, List.length_nil] <;> omega
  rw [hC5] at HM5
  have HC5 := mkHid hC5
  clear hC5
  have k6 := mkHid (specHereC g C2.length _ v5 C5 w5 HM5.out (by have := hl5.out; have := hl2.out; omega))
  go_wp2_with (go_at_call 32; fail)
  refine k6.out.mono ?_
  rintro e w6 ⟨rfl, v6, hM6, hE6, hN6⟩
  have HL6 := mkHid (HL5.out.keep hE6 hN6)
  have HZ6 := mkHid (HZ5.out.keep hE6 hN6)
  have HM6 := mkHid hM6
  have HE6 := mkHid hE6
  have HN6 := mkHid hN6
  clear hM6 hE6 hN6
  clear l0 l1 l2 l3 l4 l5 l6 z0 z1 z2 z3 z4 z5 z6
  obtain ⟨l0, l1, l2, l3, l4, l5, l6⟩ := blk7 HL6.out.blk
  obtain ⟨z0, z1, z2, z3, z4, z5, z6⟩ := blk7 HZ6.out.blk
  have HB6 := mkHid (HB5.out.trans (HM5.out.low HE6.out))
  obtain ⟨C6, hC6⟩ : ∃ C6, Cp.pt C5 C2.length (C5.length : Int) = C6 := ⟨_, rfl⟩
  have hl6 : Hid (C6.length = C.length + 1 + (Cp.code F d j0 (C.length + 1)).length + 1 + (Cp.code F d j1 (C.length + 1 + (Cp.code F d j0 (C.length + 1)).length + 1)).length + 1) := show _ = _ from by rw [← hC6]; rw [Cp.pt_len, hl5.out]
  rw [hC6] at HM6
  have HC6 := mkHid hC6
  clear hC6
  have y2 := (HB6.out.cell (p := ⟨a7.block, a7.off + 2, none⟩) (by exact hb7)).trans hc72
  have k7 := mkHid (IhD.out j2 g v6 C6 w6 Hwj2.out Htj2.out HM6.out (hF0.out.below HB6.out) (by rw [hl6.out]; have := Hlen.out; omega))
  go_wp2_with (go_at_call 15; fail)
  refine k7.out.mono ?_
  rintro e w7 ⟨rfl, v7, hM7, hE7, hN7⟩
  have HL7 := mkHid (HL6.out.keep hE7 hN7)
  have HZ7 := mkHid (HZ6.out.keep hE7 hN7)
  have HM7 := mkHid hM7
  have HE7 := mkHid hE7
  have HN7 := mkHid hN7
  clear hM7 hE7 hN7
  clear l0 l1 l2 l3 l4 l5 l6 z0 z1 z2 z3 z4 z5 z6
  obtain ⟨l0, l1, l2, l3, l4, l5, l6⟩ := blk7 HL7.out.blk
  obtain ⟨z0, z1, z2, z3, z4, z5, z6⟩ := blk7 HZ7.out.blk
  have HB7 := mkHid (HB6.out.trans (HM6.out.low HE7.out))
  clear y2
  obtain ⟨C7, hC7⟩ : ∃ C7, C6 ++ Cp.code F d j2 C6.length = C7 := ⟨_, rfl⟩
  have hl7 : Hid (C7.length = C.length + 1 + (Cp.code F d j0 (C.length + 1)).length + 1 + (Cp.code F d j1 (C.length + 1 + (Cp.code F d j0 (C.length + 1)).length + 1)).length + 1 + (Cp.code F d j2 (C.length + 1 + (Cp.code F d j0 (C.length + 1)).length + 1 + (Cp.code F d j1 (C.length + 1 + (Cp.code F d j0 (C.length + 1)).length + 1)).length + 1)).length) := show _ = _ from by rw [← hC7]; rw [List.length_append, hl6.out]
  rw [hC7] at HM7
  have HC7 := mkHid hC7
  clear hC7
  have k8 := mkHid (specHereC g C4.length _ v7 C7 w7 HM7.out (by have := hl7.out; have := hl4.out; omega))
  go_wp2_with (go_at_call 32; fail)
  refine k8.out.mono ?_
  rintro e w8 ⟨rfl, v8, hM8, hE8, hN8⟩
  have HL8 := mkHid (HL7.out.keep hE8 hN8)
  have HZ8 := mkHid (HZ7.out.keep hE8 hN8)
  have HM8 := mkHid hM8
  have HE8 := mkHid hE8
  have HN8 := mkHid hN8
  clear hM8 hE8 hN8
  clear l0 l1 l2 l3 l4 l5 l6 z0 z1 z2 z3 z4 z5 z6
  obtain ⟨l0, l1, l2, l3, l4, l5, l6⟩ := blk7 HL8.out.blk
  obtain ⟨z0, z1, z2, z3, z4, z5, z6⟩ := blk7 HZ8.out.blk
  have HB8 := mkHid (HB7.out.trans (HM7.out.low HE8.out))
  go_wp2
  refine bodyPost_end (v := .tuple #[]) (results_none Try.results15 _ _ _) rfl ⟨rfl, Rc.ahead HbW.out ?_⟩
  refine Rc.trans HE1.out HN1.out (Rc.trans HE2.out HN2.out (Rc.trans HE3.out HN3.out (Rc.trans HE4.out HN4.out (Rc.trans HE5.out HN5.out (Rc.trans HE6.out HN6.out (Rc.trans HE7.out HN7.out (⟨v8, ?_, HE8.out, HN8.out⟩)))))))
  have e2 : C2 = C ++ Cp.zc 1 0 :: Cp.code F d j0 (C.length + 1) := by
    rw [← HC2.out, hl1.out, ← HC1.out]
    simp [Cp.zc, Cp.z]
  have e3 : C4 = C2 ++ [Cp.zc 4 0] ++ Cp.code F d j1 (C.length + 1 + (Cp.code F d j0 (C.length + 1)).length + 1) := by
    rw [← HC4.out, hl3.out, ← HC3.out]
    rfl
  have e5 : C5 = C2 ++ [Cp.zc 4 0] ++ Cp.code F d j1 (C.length + 1 + (Cp.code F d j0 (C.length + 1)).length + 1) ++ [Cp.zc 2 0] := by
    rw [← HC5.out, e3]
    rfl
  have l5 : (C5.length : Int) = ((C.length + 1 + (Cp.code F d j0 (C.length + 1)).length + 1 + (Cp.code F d j1 (C.length + 1 + (Cp.code F d j0 (C.length + 1)).length + 1)).length + 1 : Nat) : Int) := by have := hl5.out; omega
  have l7 : (C7.length : Int) = ((C.length + 1 + (Cp.code F d j0 (C.length + 1)).length + 1 + (Cp.code F d j1 (C.length + 1 + (Cp.code F d j0 (C.length + 1)).length + 1)).length + 1 + (Cp.code F d j2 (C.length + 1 + (Cp.code F d j0 (C.length + 1)).length + 1 + (Cp.code F d j1 (C.length + 1 + (Cp.code F d j0 (C.length + 1)).length + 1)).length + 1)).length : Nat) : Int) := by have := hl7.out; omega
  have p4 : C4.length = C2.length + 1 + (Cp.code F d j1 (C.length + 1 + (Cp.code F d j0 (C.length + 1)).length + 1)).length := by have := hl4.out; have := hl2.out; omega
  have e : C ++ Cp.zc 1 0 :: Cp.choice (Cp.code F d) (j0 : Int) (j1 : Int) [(j2 : Int)] (C.length + 1) = Cp.pt C7 C4.length (C7.length : Int) := by
    rw [l7, ← HC7.out, hl6.out, ← HC6.out, l5, e5]
    refine Eq.trans ?_ (if3_made C2 _ _ _ _ _ p4).symm
    rw [e2]
    unfold Cp.choice
    simp only [Int.toNat_natCast, List.append_assoc, List.cons_append]
  rw [e]
  exact HM8.out
end Go.Proofs.Ytonnmbkfjiddnaa
namespace Go.Proofs.Ytonnmbkfjiddnaa
open Go.RowKit Go.Lib Go.Maps
set_option maxHeartbeats 4000000 in
theorem implIf2 (F : List Nd) (o : Option Addr) (cap d g j0 j1 : Nat) (a6 : Option Addr) (e6 : Nat) (v : Value) (C : List Cd) (w : World) (ih : AddOk F o cap d) (hM : Mc 47 g (.slice o F.length cap) v C w) (hF : Nc g w o F) (hT : Ints g w a6 [(j0 : Int), (j1 : Int)])
    (hw0 : Cp.Wf F d j0) (hw1 : Cp.Wf F d j1) (hlen : C.length + (Cp.choice (Cp.code F d) (j0 : Int) (j1 : Int) [] C.length).length ≤ 100000) :
    Calls Try.prog 39 #[.pointer (some ⟨g, 0, none⟩), .slice a6 2 e6] w fun e w' => e = .returned (.tuple #[]) ∧ Rc 47 g (.slice o F.length cap) v (C ++ Cp.choice (Cp.code F d) (j0 : Int) (j1 : Int) [] C.length) w w' := by
  obtain ⟨a7, rfl, hb7, hc0⟩ := hT 0 (by simp)
  obtain ⟨a8, ha8, -, hc1⟩ := hT 1 (by simp)
  cases ha8
  rw [show a7.add 0 = a7 by unfold Addr.add; split <;> simp_all] at hc0
  rw [show a7.add 1 = ⟨a7.block, a7.off + 1, none⟩ from rfl] at hc1
  simp only [List.getElem_cons_zero, List.getElem_cons_succ] at hc0 hc1
  have hlen2 : C.length + (Cp.code F d j0 C.length).length + 1 + (Cp.code F d j1 (C.length + (Cp.code F d j0 C.length).length + 1)).length ≤ 100000 := by
    unfold Cp.choice at hlen
    simp only [List.length_append, List.length_cons, Int.toNat_natCast] at hlen
    omega
  have k1 := mkHid (ih j0 g v C w hw0 hM hF (by omega))
  obtain ⟨C1, hC1⟩ : ∃ C1, C ++ Cp.code F d j0 C.length = C1 := ⟨_, rfl⟩
  have hl1 : Hid (C1.length = C.length + (Cp.code F d j0 C.length).length) := show _ = _ by rw [← hC1, List.length_append]
  rw [hC1] at k1
  have HC1 := mkHid hC1
  have Hlen := mkHid hlen2
  have HM := mkHid hM
  have HF := mkHid hF
  have Hih := mkHid ih
  have HW := mkHid hw1
  clear hC1 hM hF ih hw0 hw1 hlen hlen2 hT
  by_cases h6 : e6 = 2
  all_goals
    go_enter Try.func39, Try.ntmps39
    go_wp2_with (go_at_call 19; fail)
    refine k1.out.mono ?_
    rintro e w1 ⟨rfl, v1, hM1, hE1, hN1⟩
    have HE1 := mkHid hE1
    have HN1 := mkHid hN1
    have HB1 := mkHid (HM.out.low hE1)
    have HM1 := mkHid hM1
    have k2 := mkHid (implJump g _ v1 C1 4 w1 hM1 (by have := hl1.out; have := Hlen.out; omega))
    clear hM1 hE1 hN1
    go_wp2_with (go_at_call 55; fail)
    refine k2.out.mono ?_
    rintro e w2 ⟨rfl, v2, hM2, hE2, hN2, hJ2⟩
    have HE2 := mkHid hE2
    have HN2 := mkHid hN2
    have J2 := mkHid hJ2
    have HB2 := mkHid (HB1.out.trans (HM1.out.low hE2))
    have y1 := (HB2.out.cell (p := ⟨a7.block, a7.off + 1, none⟩) hb7).trans hc1
    have eL : (C1 ++ [Cp.zc 4 0]).length = C.length + (Cp.code F d j0 C.length).length + 1 := by rw [List.length_append, hl1.out]; rfl
    have k3 := mkHid (Hih.out j1 g v2 _ w2 HW.out hM2 (HF.out.below HB2.out) (by rw [eL]; have := Hlen.out; omega))
    rw [eL] at k3
    clear hM2 hE2 hN2 hJ2 eL
    go_wp2_with (go_at_call 19; fail)
    refine k3.out.mono ?_
    rintro e w3 ⟨rfl, v3, hM3, hE3, hN3⟩
    have HE3 := mkHid hE3
    have HN3 := mkHid hN3
    have J3 := mkHid (J2.out.keep hE3 hN3)
    have k4 := mkHid (J3.out.tell hM3 (by simp only [List.length_append, List.length_singleton]; omega))
    clear hM3 hE3 hN3 y1
    unfold jmV
    go_wp2_with (go_at_call 73; fail)
    refine k4.out.mono ?_
    rintro e w4 ⟨rfl, v4, hM4, hE4, hN4⟩
    have HM4 := mkHid hM4
    have HE4 := mkHid hE4
    have HN4 := mkHid hN4
    clear hM4 hE4 hN4
    go_wp2
    refine bodyPost_ret (v := .tuple #[]) (results_none Try.results39 _ _ _) rfl ⟨rfl, ?_⟩
    refine Rc.trans HE1.out HN1.out (Rc.trans HE2.out HN2.out (Rc.trans HE3.out HN3.out ⟨v4, ?_, HE4.out, HN4.out⟩))
    have hM := HM4.out
    refine Eq.mp (congrArg (fun L => Mc 47 g (.slice o F.length cap) v4 L w4) ?_) hM
    refine Eq.trans (if2_made C1 _ _) ?_
    have hl := hl1.out
    rw [← HC1.out]
    unfold Cp.choice
    simp only [List.length_append, List.length_singleton, Int.toNat_natCast, List.append_assoc, Nat.add_assoc]
end Go.Proofs.Ytonnmbkfjiddnaa
namespace Go.Proofs.Ytonnmbkfjiddnaa
open Go.RowKit Go.Lib Go.Maps
set_option maxHeartbeats 4000000 in
theorem implIf3 (F : List Nd) (o : Option Addr) (cap d g j0 j1 j2 : Nat) (a6 : Option Addr) (e6 : Nat) (v : Value) (C : List Cd) (w : World) (h3 : 3 ≤ e6) (ih : AddOk F o cap d) (hM : Mc 47 g (.slice o F.length cap) v C w) (hF : Nc g w o F) (hT : Ints g w a6 [(j0 : Int), (j1 : Int), (j2 : Int)])
    (hw0 : Cp.Wf F d j0) (hw1 : Cp.Wf F d j1) (hw2 : Cp.Wf F d j2) (hlen : C.length + (Cp.choice (Cp.code F d) (j0 : Int) (j1 : Int) [(j2 : Int)] C.length).length ≤ 100000) :
    Calls Try.prog 39 #[.pointer (some ⟨g, 0, none⟩), .slice a6 3 e6] w fun e w' => e = .returned (.tuple #[]) ∧ Rc 47 g (.slice o F.length cap) v (C ++ Cp.choice (Cp.code F d) (j0 : Int) (j1 : Int) [(j2 : Int)] C.length) w w' := by
  obtain ⟨a7, rfl, hb7, hc0⟩ := hT 0 (by simp)
  obtain ⟨a8, ha8, -, hc1⟩ := hT 1 (by simp)
  cases ha8
  obtain ⟨a8, ha8, -, hc2⟩ := hT 2 (by simp)
  cases ha8
  rw [show a7.add 0 = a7 by unfold Addr.add; split <;> simp_all] at hc0
  rw [show a7.add 1 = ⟨a7.block, a7.off + 1, none⟩ from rfl] at hc1
  rw [show a7.add 2 = ⟨a7.block, a7.off + 2, none⟩ from rfl] at hc2
  simp only [List.getElem_cons_zero, List.getElem_cons_succ] at hc0 hc1 hc2
  have hlen2 : C.length + (Cp.code F d j0 C.length).length + 1 + (Cp.code F d j1 (C.length + (Cp.code F d j0 C.length).length + 1)).length + 1 + (Cp.code F d j2 (C.length + (Cp.code F d j0 C.length).length + 1 + (Cp.code F d j1 (C.length + (Cp.code F d j0 C.length).length + 1)).length + 1)).length ≤ 100000 := by
    unfold Cp.choice at hlen
    simp only [List.length_append, List.length_cons, Int.toNat_natCast] at hlen
    omega
  have k1 := mkHid (ih j0 g v C w hw0 hM hF (by omega))
  obtain ⟨C1, hC1⟩ : ∃ C1, C ++ Cp.code F d j0 C.length = C1 := ⟨_, rfl⟩
  have hl1 : Hid (C1.length = C.length + (Cp.code F d j0 C.length).length) := show _ = _ by rw [← hC1, List.length_append]
  rw [hC1] at k1
  have HC1 := mkHid hC1
  have Hlen := mkHid hlen2
  have HM := mkHid hM
  have HF := mkHid hF
  have Hih := mkHid ih
  have HW := mkHid hw1
  have HW2 := mkHid hw2
  have hc2' := mkHid hc2
  have h6 : ¬ e6 = 2 := by omega
  have H3 := mkHid h3
  clear hC1 hM hF ih hw0 hw1 hw2 hlen hlen2 hT hc2 h3
  go_enter Try.func39, Try.ntmps39
  go_wp2_with (go_at_call 19; fail)
  refine k1.out.mono ?_
  rintro e w1 ⟨rfl, v1, hM1, hE1, hN1⟩
  have HE1 := mkHid hE1
  have HN1 := mkHid hN1
  have HB1 := mkHid (HM.out.low hE1)
  have HM1 := mkHid hM1
  have k2 := mkHid (implJump g _ v1 C1 4 w1 hM1 (by have := hl1.out; have := Hlen.out; omega))
  clear hM1 hE1 hN1
  go_wp2_with (go_at_call 55; fail)
  refine k2.out.mono ?_
  rintro e w2 ⟨rfl, v2, hM2, hE2, hN2, hJ2⟩
  have HE2 := mkHid hE2
  have HN2 := mkHid hN2
  have J2 := mkHid hJ2
  have HB2 := mkHid (HB1.out.trans (HM1.out.low hE2))
  have y1 := (HB2.out.cell (p := ⟨a7.block, a7.off + 1, none⟩) hb7).trans hc1
  have eL : (C1 ++ [Cp.zc 4 0]).length = C.length + (Cp.code F d j0 C.length).length + 1 := by rw [List.length_append, hl1.out]; rfl
  have k3 := mkHid (Hih.out j1 g v2 _ w2 HW.out hM2 (HF.out.below HB2.out) (by rw [eL]; have := Hlen.out; omega))
  rw [eL] at k3
  have HM2 := mkHid hM2
  have HeL := mkHid eL
  clear hM2 hE2 hN2 hJ2 eL
  go_wp2_with (go_at_call 19; fail)
  refine k3.out.mono ?_
  rintro e w3 ⟨rfl, v3, hM3, hE3, hN3⟩
  have HE3 := mkHid hE3
  have HN3 := mkHid hN3
  have J3 := mkHid (J2.out.keep hE3 hN3)
  have HB3 := mkHid (HB2.out.trans (HM2.out.low hE3))
  have HM3 := mkHid hM3
  obtain ⟨B1, hB1⟩ : ∃ B1, Cp.code F d j1 (C.length + (Cp.code F d j0 C.length).length + 1) = B1 := ⟨_, rfl⟩
  rw [hB1] at hM3 Hlen HM3
  have HB1c := mkHid hB1
  have k4 := mkHid (implJump g _ v3 _ 2 w3 hM3 (by have := hl1.out; have := Hlen.out; simp only [List.length_append, List.length_singleton]; omega))
  clear hM3 hE3 hN3 y1 hB1
  go_wp2_with (go_at_call 55; fail)
  refine k4.out.mono ?_
  rintro e w4 ⟨rfl, v4, hM4, hE4, hN4, hK4⟩
  have HE4 := mkHid hE4
  have HN4 := mkHid hN4
  have J4 := mkHid (J3.out.keep hE4 hN4)
  have K4 := mkHid hK4
  have HB4 := mkHid (HB3.out.trans (HM3.out.low hE4))
  have HM4 := mkHid hM4
  have k5 := mkHid (J4.out.tell hM4 (by simp only [List.length_append, List.length_singleton]; omega))
  clear hM4 hE4 hN4 hK4
  unfold jmV
  go_wp2_with (go_at_call 73; fail)
  refine k5.out.mono ?_
  rintro e w5 ⟨rfl, v5, hM5, hE5, hN5⟩
  have HE5 := mkHid hE5
  have HN5 := mkHid hN5
  have K5 := mkHid (K4.out.keep hE5 hN5)
  have HB5 := mkHid (HB4.out.trans (HM4.out.low hE5))
  have y2 := (HB5.out.cell (p := ⟨a7.block, a7.off + 2, none⟩) hb7).trans hc2'.out
  obtain ⟨C5, hC5⟩ : ∃ C5, Cp.pt (C1 ++ [Cp.zc 4 0] ++ B1 ++ [Cp.zc 2 0]) C1.length ((C1 ++ [Cp.zc 4 0] ++ B1 ++ [Cp.zc 2 0]).length : Int) = C5 := ⟨_, rfl⟩
  have hl5 : C5.length = C.length + (Cp.code F d j0 C.length).length + 1 + B1.length + 1 := by
    rw [← hC5, Cp.pt_len]
    simp only [List.length_append, List.length_singleton, hl1.out]
  rw [hC5] at hM5
  have hT5 : Ints g w5 (some ⟨a7.block, a7.off + 2, none⟩) [(j2 : Int)] := by
    intro k hk
    have : k = 0 := by simpa using hk
    subst this
    exact ⟨_, rfl, hb7, y2⟩
  have ecat : ∀ b, Cp.cat (Cp.code F d) [(j2 : Int)] b = Cp.code F d j2 b := fun b => by simp [Cp.cat]
  have HM5 := mkHid hM5
  have k6 := mkHid (fun e => implAll F o cap d g [(j2 : Int)] (some ⟨a7.block, a7.off + 2, none⟩) e v5 C5 w5 Hih.out hM5 (HF.out.below HB5.out) hT5 (by simp) (by intro k hk; simp only [List.mem_singleton] at hk; subst hk; exact ⟨by omega, by rw [Int.toNat_natCast]; exact HW2.out⟩) (by rw [ecat, hl5]; have := Hlen.out; omega))
  simp only [ecat] at k6
  have HC5 := mkHid hC5
  have Hl5 := mkHid hl5
  clear hM5 hE5 hN5 hT5 hC5 hl5 ecat y2
  go_wp2_with (go_at_call 38; fail)
  refine (k6.out _).mono ?_
  rintro e w6 ⟨rfl, v6, hM6, hE6, hN6⟩
  have HE6 := mkHid hE6
  have HN6 := mkHid hN6
  have K6 := mkHid (K5.out.keep hE6 hN6)
  have k7 := mkHid (K6.out.tell hM6 (by have h5 := Hl5.out; have h1 := hl1.out; simp only [List.length_append, List.length_singleton]; omega))
  clear hM6 hE6 hN6
  go_wp2_with (go_at_call 73; fail)
  refine k7.out.mono ?_
  rintro e w7 ⟨rfl, v7, hM7, hE7, hN7⟩
  have HM7 := mkHid hM7
  have HE7 := mkHid hE7
  have HN7 := mkHid hN7
  clear hM7 hE7 hN7
  go_wp2
  refine bodyPost_end (v := .tuple #[]) (results_none Try.results39 _ _ _) rfl ⟨rfl, ?_⟩
  refine Rc.trans HE1.out HN1.out (Rc.trans HE2.out HN2.out (Rc.trans HE3.out HN3.out (Rc.trans HE4.out HN4.out (Rc.trans HE5.out HN5.out (Rc.trans HE6.out HN6.out ⟨v7, ?_, HE7.out, HN7.out⟩)))))
  have hM := HM7.out
  refine Eq.mp (congrArg (fun L => Mc 47 g (.slice o F.length cap) v7 L w7) ?_) hM
  have hl := hl1.out
  have hl5 := Hl5.out
  have e7 : (C5 ++ Cp.code F d j2 C5.length).length = C.length + (Cp.code F d j0 C.length).length + 1 + B1.length + 1 + (Cp.code F d j2 (C.length + (Cp.code F d j0 C.length).length + 1 + B1.length + 1)).length := by rw [List.length_append, hl5]
  rw [e7, hl5, ← HC5.out]
  refine Eq.trans (if3_made C1 B1 _ _ _ _ (by simp only [List.length_append, List.length_singleton])) ?_
  rw [← HC1.out, ← HB1c.out]
  unfold Cp.choice
  simp only [List.length_append, List.length_singleton, Int.toNat_natCast, List.append_assoc, Nat.add_assoc]
end Go.Proofs.Ytonnmbkfjiddnaa
namespace Go.Proofs.Ytonnmbkfjiddnaa
open Go.RowKit Go.Lib Go.Maps
namespace Cp
/-- The code of the first ones, where the jumps do not lead anywhere yet. -/
def part (f : Nat → Nat → List Cd) (op : Int) : List Int → Nat → List Cd
  | [], _ => []
  | k :: r, b => f k.toNat b ++ sev f op 0 r (b + (f k.toNat b).length)
def ppos (f : Nat → Nat → List Cd) : List Int → Nat → List Nat
  | [], _ => []
  | k :: r, b => pos f r (b + (f k.toNat b).length)
theorem part_one (f : Nat → Nat → List Cd) (op x : Int) (b : Nat) : part f op [x] b = f x.toNat b := by simp [part, sev]
theorem part_snoc (f : Nat → Nat → List Cd) (op x : Int) (b : Nat) : ∀ (l : List Int), l ≠ [] → part f op (l ++ [x]) b = part f op l b ++ zc op 0 :: f x.toNat (b + (part f op l b).length + 1)
  | [], h => absurd rfl h
  | k :: r, _ => by
    rw [List.cons_append, part, sev_snoc, part, List.append_assoc, List.length_append]
    congr 5
    omega
theorem ppos_snoc (f : Nat → Nat → List Cd) (op x : Int) (b : Nat) : ∀ (l : List Int), l ≠ [] → ppos f (l ++ [x]) b = ppos f l b ++ [b + (part f op l b).length]
  | [], h => absurd rfl h
  | k :: r, _ => by
    rw [List.cons_append, ppos, pos_snoc f op, ppos, part, List.length_append, Nat.add_assoc b]
theorem part_told (f : Nat → Nat → List Cd) (op : Int) (b : Nat) (C : List Cd) (h : C.length = b) : ∀ (l : List Int), (ppos f l b).foldl (fun L a => pt L a ((C ++ part f op l b).length : Nat)) (C ++ part f op l b) = C ++ sevs f op l b
  | [] => by simp [ppos, part, sevs]
  | k :: r => by
    rw [ppos, part, sevs, ← List.append_assoc]
    have e : (C ++ f k.toNat b ++ sev f op 0 r (b + (f k.toNat b).length)).length = b + (f k.toNat b).length + (sev f op 0 r (b + (f k.toNat b).length)).length := by
      rw [List.length_append, List.length_append, h]
    rw [e]
    have := sev_told f op ((b + (f k.toNat b).length + (sev f op 0 r (b + (f k.toNat b).length)).length : Nat) : Int) r (b + (f k.toNat b).length) (C ++ f k.toNat b) (by rw [List.length_append, h])
    rw [this, List.append_assoc]
theorem part_take (f : Nat → Nat → List Cd) (op : Int) (b : Nat) (l : List Int) : ∀ k, (part f op (l.take k) b).length ≤ (part f op l b).length := by
  intro k
  by_cases hk : l.length ≤ k
  · rw [List.take_of_length_le hk]; exact Nat.le_refl _
  · have key : ∀ (r p : List Int), (part f op p b).length ≤ (part f op (p ++ r) b).length := by
      intro r
      induction r with
      | nil => intro p; rw [List.append_nil]; exact Nat.le_refl _
      | cons x r ih =>
        intro p
        have h1 := ih (p ++ [x])
        rw [List.append_assoc, List.cons_append, List.nil_append] at h1
        refine Nat.le_trans ?_ h1
        by_cases hp : p = []
        · subst hp; exact Nat.zero_le _
        · rw [part_snoc f op x b p hp, List.length_append]; omega
    have := key (l.drop k) (l.take k)
    rwa [List.take_append_drop] at this
theorem sevs_len (f : Nat → Nat → List Cd) (op : Int) (b : Nat) : ∀ l, (sevs f op l b).length = (part f op l b).length
  | [] => rfl
  | k :: r => by rw [sevs, part, List.length_append, List.length_append, sev_len]
theorem fold_len (P : List Nat) (e : Int) : ∀ (L : List Cd), (P.foldl (fun L a => pt L a e) L).length = L.length := by
  induction P with
  | nil => intro L; rfl
  | cons a P ih => intro L; rw [List.foldl_cons, ih, pt_len]
theorem pos_lt (f : Nat → Nat → List Cd) (op : Int) : ∀ (r : List Int) (b : Nat), ∀ a ∈ pos f r b, a < b + (sev f op 0 r b).length
  | [], _, a, h => (List.not_mem_nil h).elim
  | k :: r, b, a, h => by
    rw [pos] at h
    rw [sev, List.length_cons, List.length_append]
    rcases List.mem_cons.1 h with rfl | h
    · omega
    · have := pos_lt f op r _ a h
      omega
theorem ppos_lt (f : Nat → Nat → List Cd) (op : Int) (b : Nat) : ∀ (l : List Int), ∀ a ∈ ppos f l b, a < b + (part f op l b).length
  | [], a, h => (List.not_mem_nil h).elim
  | k :: r, a, h => by
    have := pos_lt f op r _ a h
    rw [part, List.length_append]
    omega
end Cp
def plcCells (P : List Nat) : List Value := P.map fun p : Nat => Value.int .i64 (p : Int)
/-- The slice holds just these places. -/
def OwnP (B : Nat) (v : Value) (P : List Nat) (w : World) : Prop := w.ownsRow B 3 1 v P.length (plcCells P)
theorem OwnP.made (B : Nat) (w : World) (h : B ≤ w.heap.size) : OwnP B (.slice (some ⟨w.heap.size, 0, none⟩) 0 0) [] (w.alloc (.cells #[] 3)) :=
  World.ownsRow_made w #[] 0 h (by unfold maxLen; omega) rfl
theorem OwnP.shape {B : Nat} {v : Value} {P : List Nat} {w : World} (h : OwnP B v P w) : ∃ o cap, v = .slice o P.length cap := by
  rcases h.2 with ⟨rfl, h0⟩ | ⟨g, cap, cur, rfl, -⟩
  · exact ⟨none, 0, by rw [h0]⟩
  · exact ⟨_, cap, rfl⟩
theorem OwnP.at {B : Nat} {o : Option Addr} {n cap : Nat} {P : List Nat} {w : World} (h : OwnP B (.slice o n cap) P w) (k : Nat) (hk : k < P.length) : ∃ q, o = some ⟨q, 0, none⟩ ∧ w.cell? ⟨q, k, none⟩ = some (.int .i64 (P[k] : Int)) := by
  rcases h.2 with ⟨h1, h0⟩ | ⟨q, cap', cur, h1, -⟩
  · omega
  · simp only [Value.slice.injEq] at h1
    obtain ⟨rfl, rfl, rfl⟩ := h1
    refine ⟨q, rfl, ?_⟩
    have := World.ownsRow.cells h (g := q) rfl k (.int .i64 (P[k] : Int)) (by unfold plcCells; rw [List.getElem?_map, List.getElem?_eq_getElem hk]; rfl)
    rw [add_off] at this
    exact this
theorem OwnP.ef {B g : Nat} {v u : Value} {P : List Nat} {w w' : World} {E : List CdE} (h : OwnP B v P w) (hB : g < B) (hC : Cw (g + 1) u E w) (hE : Ef g u.ownBlock w w') : OwnP B v P w' := by
  refine ⟨h.1, ?_⟩
  have hap := own_apart9 h hC.row (by decide)
  rcases h.2 with hn | ⟨q, cap, cur, rfl, hb, hq, rest⟩
  · exact .inl hn
  · refine .inr ⟨q, cap, cur, rfl, hb, ?_, rest⟩
    rw [hE.keep q (heap_ltM hq) (by omega) ?_]
    · exact hq
    · rcases hap with e | e
      · cases e
      · exact e
theorem OwnP.below {B : Nat} {v : Value} {P : List Nat} {w w' : World} (h : OwnP B v P w) (hb : Below w.heap.size w w') : OwnP B v P w' := World.ownsRow.kept h (row := none) ⟨hb.os, hb.tape, hb.output, hb.size, fun k hk _ => hb.block k hk⟩ (by cases v.ownBlock <;> simp)
theorem Ef.grown {g : Nat} {r row : Option Nat} {W w w' : World} (h : Ef g r W w) (hg : w.grownBy w' row) (hr : ∀ k, row = some k → W.heap.size ≤ k) : Ef g r W w' :=
  ⟨hg.os.trans h.os, hg.tape.trans h.tape, hg.output.trans h.output, Nat.le_trans h.size hg.size, fun k hk h1 h2 => (hg.block k (Nat.lt_of_lt_of_le hk h.size) (fun e => by have := hr k e.symm; omega)).trans (h.keep k hk h1 h2)⟩
theorem Lo.grown {g b : Nat} {v : Value} {cs : Array Value} {row : Option Nat} {w w' : World} (h : Lo g v b cs w) (hg : w.grownBy w' row) (hr : some b ≠ row) : Lo g v b cs w' := ⟨(hg.block b (heap_ltM h.blk) hr).trans h.blk, h.ne, h.nr⟩
/-- A list of places grows beside the code. -/
theorem Mc.grown {g B : Nat} {nv v u : Value} {C : List Cd} {P : List Nat} {w w' : World} (h : Mc 41 g nv v C w) (hu : OwnP B u P w) (hB : g < B) (hg : w.grownBy w' u.ownBlock) : Mc 41 g nv v C w' := by
  obtain ⟨E, hE, hM⟩ := h
  refine ⟨E, hE, (hg.block g (heap_ltM hM.blk) ?_).trans hM.blk, ⟨World.ownsRow.kept hM.cw.row hg (own_apart9 hM.cw.row hu (by decide)), fun s hs => (hM.cw.own s hs).keep hg ?_, hM.cw.sep, hM.cw.kids⟩⟩
  · intro e
    have := (World.ownsRow.lt hu g e.symm).1
    omega
  · by_cases hn : s.2 = []
    · exact .inl hn
    · exact .inr (own_apart9 (show w.ownsRow (g + 1) 9 1 _ _ _ from (hM.cw.own s hs).2 hn) hu (by decide))
theorem Try.info3P : (Try.prog.info? 3).map (fun i => (i.zero, i.size, i.bytes)) = some (some (.int .i64 0), 1, 8) := by kernel_rfl
/-- An append of one place. -/
theorem wp_appP {w : World} {ops : Array Oper} {rest : List Oper} {o : Oper} {a : Act} {Q : Exit → Act → World → Prop} (hgd : o.guard = none) (s x : Operand)
    (ho : o.op = .call { callee := .builtin .append, args := #[s, x], argTypes := #[73, 73] })
    (B : Nat) (v : Value) (P : List Nat) (hs : a.eval s = v) (hown : OwnP B v P w) (u : Nat)
    (c : Nat) (hx : a.eval x = .slice (some ⟨w.heap.size, 0, none⟩) 1 c) (hlen : P.length ≤ 1000000) (hB : B ≤ w.heap.size)
    (h : ∀ v' w', OwnP B v' (P ++ [u]) w' → (w.alloc (.cells #[.int .i64 (u : Int)] 3)).grownBy w' v.ownBlock → wpList Try.prog ops Q rest (a.put o.dst v') w') : wpList Try.prog ops Q (o :: rest) a (w.alloc (.cells #[.int .i64 (u : Int)] 3)) := by
  obtain ⟨i0, hi0, hz0, hz1, hz2⟩ := info_parts Try.info3P
  unfold OwnP at hown
  refine wpList_append_own _ hgd s x 73 ho B 3 i0 (.int .i64 0) 1 8 Try.underlying73 hi0 hz0 hz1 hz2 rfl (by decide) v P.length (plcCells P) hs (World.ownsRow.alloc hown _) ⟨w.heap.size, 0, none⟩ 1 c [.int .i64 (u : Int)] hx
    rfl ?_ ?_ (by unfold maxLen; omega) (by omega) (by simp; omega) ?_
  · intro j y hj
    rw [add_off]
    match j, hj with
    | 0, hj => simp at hj; subst hj; simp
  · intro y hy
    simp at hy
    subst hy
    rfl
  · intro v' w' h1 h2 _
    refine h v' w' ?_ h2
    unfold OwnP plcCells
    rw [List.map_append, List.length_append]
    exact h1
end Go.Proofs.Ytonnmbkfjiddnaa
namespace Go.Proofs.Ytonnmbkfjiddnaa
open Go.RowKit Go.Lib Go.Maps
def jmCells (P : List Nat) : List Value := P.map jmV
/-- The slice holds just the closures whose locals lie there. -/
def OwnJ (B : Nat) (v : Value) (P : List Nat) (w : World) : Prop := w.ownsRow B 1 1 v P.length (jmCells P)
theorem OwnJ.nil (B : Nat) (w : World) : OwnJ B (.slice none 0 0) [] w := World.ownsRow_nil w B _ 1
theorem OwnJ.shape {B : Nat} {v : Value} {P : List Nat} {w : World} (h : OwnJ B v P w) : ∃ o cap, v = .slice o P.length cap := by
  rcases h.2 with ⟨rfl, h0⟩ | ⟨g, cap, cur, rfl, -⟩
  · exact ⟨none, 0, by rw [h0]⟩
  · exact ⟨_, cap, rfl⟩
theorem OwnJ.at {B : Nat} {o : Option Addr} {n cap : Nat} {P : List Nat} {w : World} (h : OwnJ B (.slice o n cap) P w) (k : Nat) (hk : k < P.length) : ∃ q, o = some ⟨q, 0, none⟩ ∧ w.cell? ⟨q, k, none⟩ = some (jmV P[k]) := by
  rcases h.2 with ⟨h1, h0⟩ | ⟨q, cap', cur, h1, -⟩
  · omega
  · simp only [Value.slice.injEq] at h1
    obtain ⟨rfl, rfl, rfl⟩ := h1
    refine ⟨q, rfl, ?_⟩
    have := World.ownsRow.cells h (g := q) rfl k (jmV P[k]) (by unfold jmCells; rw [List.getElem?_map, List.getElem?_eq_getElem hk]; rfl)
    rw [add_off] at this
    exact this
theorem OwnJ.ef {B g : Nat} {v u : Value} {P : List Nat} {w w' : World} {E : List CdE} (h : OwnJ B v P w) (hB : g < B) (hC : Cw (g + 1) u E w) (hE : Ef g u.ownBlock w w') : OwnJ B v P w' := by
  refine ⟨h.1, ?_⟩
  have hap := own_apart9 h hC.row (by decide)
  rcases h.2 with hn | ⟨q, cap, cur, rfl, hb, hq, rest⟩
  · exact .inl hn
  · refine .inr ⟨q, cap, cur, rfl, hb, ?_, rest⟩
    rw [hE.keep q (heap_ltM hq) (by omega) ?_]
    · exact hq
    · rcases hap with e | e
      · cases e
      · exact e
theorem Lc.grown {t : TypeId} {g b B : Nat} {v u x : Value} {P : List Nat} {w w' : World} (h : Lc t g v b x w) (hu : OwnJ B u P w) (ht : t ≠ 1) (hg : w.grownBy w' u.ownBlock) : Lc t g v b x w' := by
  refine ⟨(hg.block b (heap_ltM h.blk) ?_).trans h.blk, h.ne, h.nr⟩
  intro e
  rcases hu.2 with ⟨rfl, -⟩ | ⟨q, cap, cur, rfl, -, hq, -⟩
  · cases e
  · simp only [Value.ownBlock, Option.some.injEq] at e
    rw [← e, h.blk] at hq
    simp only [Option.some.injEq, Obj.cells.injEq] at hq
    exact ht hq.2.1
theorem Jm.below {g n b : Nat} {v : Value} {w w' : World} (h : Jm g n v b w) (hb : Below w.heap.size w w') : Jm g n v b w' := ⟨h.1.below hb, h.2.below hb⟩
theorem Jm.grown {g n b B : Nat} {v u : Value} {P : List Nat} {w w' : World} (h : Jm g n v b w) (hu : OwnJ B u P w) (hg : w.grownBy w' u.ownBlock) : Jm g n v b w' := ⟨h.1.grown hu (by decide) hg, h.2.grown hu (by decide) hg⟩
/-- A list of closures grows beside the code. -/
theorem Mc.grownJ {g B : Nat} {nv v u : Value} {C : List Cd} {P : List Nat} {w w' : World} (h : Mc 47 g nv v C w) (hu : OwnJ B u P w) (hB : g < B) (hg : w.grownBy w' u.ownBlock) : Mc 47 g nv v C w' := by
  obtain ⟨E, hE, hM⟩ := h
  refine ⟨E, hE, (hg.block g (heap_ltM hM.blk) ?_).trans hM.blk, ⟨World.ownsRow.kept hM.cw.row hg (own_apart9 hM.cw.row hu (by decide)), fun s hs => (hM.cw.own s hs).keep hg ?_, hM.cw.sep, hM.cw.kids⟩⟩
  · intro e
    have := (World.ownsRow.lt hu g e.symm).1
    omega
  · by_cases hn : s.2 = []
    · exact .inl hn
    · exact .inr (own_apart9 (show w.ownsRow (g + 1) 9 1 _ _ _ from (hM.cw.own s hs).2 hn) hu (by decide))
theorem Try.info1J : (Try.prog.info? 1).map (fun i => (i.zero, i.size, i.bytes)) = some (some .nilFunc, 1, 8) := by kernel_rfl
/-- An append of one closure. -/
theorem wp_appJ {w : World} {ops : Array Oper} {rest : List Oper} {o : Oper} {a : Act} {Q : Exit → Act → World → Prop} (hgd : o.guard = none) (s x : Operand)
    (ho : o.op = .call { callee := .builtin .append, args := #[s, x], argTypes := #[79, 79] })
    (B : Nat) (v : Value) (P : List Nat) (hs : a.eval s = v) (hown : OwnJ B v P w) (u : Nat)
    (c : Nat) (hx : a.eval x = .slice (some ⟨w.heap.size, 0, none⟩) 1 c) (hlen : P.length ≤ 1000000) (hB : B ≤ w.heap.size)
    (h : ∀ v' w', OwnJ B v' (P ++ [u]) w' → (w.alloc (.cells #[jmV u] 1)).grownBy w' v.ownBlock → wpList Try.prog ops Q rest (a.put o.dst v') w') : wpList Try.prog ops Q (o :: rest) a (w.alloc (.cells #[jmV u] 1)) := by
  obtain ⟨i0, hi0, hz0, hz1, hz2⟩ := info_parts Try.info1J
  unfold OwnJ at hown
  refine wpList_append_own _ hgd s x 79 ho B 1 i0 .nilFunc 1 8 Try.underlying79 hi0 hz0 hz1 hz2 rfl (by decide) v P.length (jmCells P) hs (World.ownsRow.alloc hown _) ⟨w.heap.size, 0, none⟩ 1 c [jmV u] hx
    rfl ?_ ?_ (by unfold maxLen; omega) (by omega) (by simp; omega) ?_
  · intro j y hj
    rw [add_off]
    match j, hj with
    | 0, hj => simp at hj; subst hj; simp
  · intro y hy
    simp at hy
    subst hy
    rfl
  · intro v' w' h1 h2 _
    refine h v' w' ?_ h2
    unfold OwnJ jmCells
    rw [List.map_append, List.length_append]
    exact h1
end Go.Proofs.Ytonnmbkfjiddnaa
namespace Go.Proofs.Ytonnmbkfjiddnaa
open Go.RowKit Go.Lib Go.Maps
set_option maxHeartbeats 8000000 in
theorem implSev (F : List Nd) (o : Option Addr) (cap d g : Nat) (op : Int) (ks : List Int) (a6 : Option Addr) (e6 : Nat) (v : Value) (C : List Cd) (w : World) (ih : AddOk F o cap d) (hM : Mc 47 g (.slice o F.length cap) v C w) (hF : Nc g w o F) (hT : Ints g w a6 ks) (hkl : ks.length ≤ 100000)
    (hw : ∀ k ∈ ks, 0 ≤ k ∧ Cp.Wf F d k.toNat) (hlen : C.length + (Cp.part (Cp.code F d) op ks C.length).length ≤ 100000) :
    Calls Try.prog 43 #[.pointer (some ⟨g, 0, none⟩), .int .i64 op, .slice a6 ks.length e6] w fun e w' => e = .returned (.tuple #[]) ∧ Rc 47 g (.slice o F.length cap) v (C ++ Cp.sevs (Cp.code F d) op ks C.length) w w' := by
  have HF := mkHid hF
  have Hw := mkHid hw
  have Hlen := mkHid hlen
  have Ih := mkHid ih
  have HM := mkHid hM
  have H6 := mkHid hT
  have hgl : g < w.heap.size := heap_ltM hM.blk
  clear hF hw hlen ih hM hT
  go_enter Try.func43, Try.ntmps43
  go_wp2
  go_loopw [6, 13] (fun ov iv wr => ∃ (k : Nat) (v' : Value) (Q : List (Nat × Nat)), k ≤ ks.length ∧ iv = .int .i64 k ∧ Hid (Q.map (·.1) = Cp.ppos (Cp.code F d) (ks.take k) C.length) ∧ Hid (Mc 47 g (.slice o F.length cap) v' (C ++ Cp.part (Cp.code F d) op (ks.take k) C.length) wr) ∧ Hid (Ef g v.ownBlock w wr) ∧ Hid (Nw w v v') ∧ Hid (OwnJ w.heap.size ov (Q.map (·.2)) wr) ∧ Hid (∀ q ∈ Q, Jm g q.1 v' q.2 wr) ∧ Q.length ≤ k) (fun _ iv _ => ks.length - (Lib.intOf iv).toNat)
  case atStart =>
    refine ⟨0, v, [], Nat.zero_le _, rfl, rfl, ?_, Ef.refl _ _ _, .inl rfl, OwnJ.nil _ _, (fun _ h => (List.not_mem_nil h).elim), Nat.zero_le _⟩
    show Mc _ _ _ _ _ _
    rw [List.take_zero, Cp.part, List.append_nil]
    exact HM.out
  case round =>
    obtain ⟨k, v', Q, hkk, rfl, hP, hMr, hEr, hNr, hOr, hJr, hQl⟩ := hrel
    by_cases hlt : k < ks.length
    · obtain ⟨a7, rfl, hb7, hc7⟩ := H6.out k hlt
      obtain ⟨hj0, hwf⟩ := Hw.out ks[k] (List.getElem_mem hlt)
      obtain ⟨j, hj⟩ : ∃ j : Nat, ks[k] = (j : Int) := ⟨ks[k].toNat, by omega⟩
      have hsn : ks.take (k + 1) = ks.take k ++ [(j : Int)] := by rw [← hj]; exact (List.take_append_getElem hlt).symm
      rw [hj] at hwf hc7
      rw [Int.toNat_natCast] at hwf
      have hBr := mkHid (HM.out.low hEr.out)
      have y := (hBr.out.cell (p := a7.add k) (by rw [add_blockG]; exact hb7)).trans hc7
      have hsr := hEr.out.size
      have hbnd := Cp.part_take (Cp.code F d) op C.length ks (k + 1)
      have Hlen2 := Hlen.out
      have Hwf := mkHid hwf
      obtain ⟨E0, -, hMk⟩ := id hMr.out
      have hCw := mkHid hMk.cw
      clear hwf hc7 hj0 hj hMk
      rcases Nat.eq_zero_or_pos k with hk0 | hk0
      · subst hk0
        rw [show a7.add 0 = a7 by unfold Addr.add; split <;> simp_all] at y
        rw [List.take_zero] at hsn hP hMr
        rw [List.nil_append] at hsn
        have hMr1 : Hid (Mc 47 g (.slice o F.length cap) v' C wr) := by
          have := hMr.out
          rw [Cp.part, List.append_nil] at this
          exact this
        have hnext : Hid (C ++ Cp.part (Cp.code F d) op (ks.take (0 + 1)) C.length = C ++ Cp.code F d j C.length) := by
          show _ = _
          rw [hsn, Cp.part_one, Int.toNat_natCast]
        have hb2 : C.length + (Cp.code F d j C.length).length ≤ 100000 := by
          have h2 := congrArg List.length hnext.out
          rw [List.length_append, List.length_append] at h2
          omega
        have hP2 : Hid (Q.map (·.1) = Cp.ppos (Cp.code F d) (ks.take (0 + 1)) C.length) := by
          show _ = _
          rw [hP.out, hsn]
          rfl
        have kT := mkHid (Ih.out j g v' C wr Hwf.out hMr1.out (HF.out.below hBr.out) hb2)
        clear hb2 hbnd Hlen2 hsn hP hMr
        go_wp2_with (go_at_call 19; fail)
        refine kT.out.mono ?_
        rintro e w2 ⟨rfl, v2, hM2, hE2, hN2⟩
        rw [← hnext.out] at hM2
        have HM2 := mkHid hM2
        have HO2 := mkHid (OwnJ.ef hOr.out hgl hCw.out hE2)
        have HJ2 : Hid (∀ q ∈ Q, Jm g q.1 v2 q.2 w2) := fun q hq => (hJr.out q hq).keep hE2 hN2
        have HE2 := mkHid (Ef.trans hEr.out hNr.out hE2)
        have HN2 := mkHid (Nw.trans hNr.out hEr.out.size hN2)
        clear hM2 hE2 hN2 kT y hMr1 hEr hNr hOr hCw hJr
        go_wp2
        go_roundw
        case rel => exact ⟨1, v2, Q, by omega, by go_num, hP2, HM2, HE2, HN2, HO2, HJ2, by omega⟩
        case measure => simp [Lib.intOf]; omega
      · have hne : ks.take k ≠ [] := by
          intro e
          have := congrArg List.length e
          rw [List.length_take, List.length_nil] at this
          omega
        obtain ⟨D, hD⟩ : ∃ D, C ++ Cp.part (Cp.code F d) op (ks.take k) C.length = D := ⟨_, rfl⟩
        have hlD : D.length = C.length + (Cp.part (Cp.code F d) op (ks.take k) C.length).length := by rw [← hD, List.length_append]
        rw [hD] at hMr
        have hnext : Hid (C ++ Cp.part (Cp.code F d) op (ks.take (k + 1)) C.length = D ++ [Cp.zc op 0] ++ Cp.code F d j (D.length + 1)) := by
          show _ = _
          rw [hsn, Cp.part_snoc _ _ _ _ _ hne, Int.toNat_natCast, ← List.append_assoc, hD, hlD, List.append_assoc]
          rfl
        have hP2 : Hid ((Q ++ [(D.length, wr.heap.size)]).map (·.1) = Cp.ppos (Cp.code F d) (ks.take (k + 1)) C.length) := by
          show _ = _
          rw [List.map_append, hP.out, hsn, Cp.ppos_snoc _ op _ _ _ hne, hlD]
          rfl
        have hb2 : D.length + 1 + (Cp.code F d j (D.length + 1)).length ≤ 100000 := by
          have h2 := congrArg List.length hnext.out
          rw [List.length_append, List.length_append, List.length_append, List.length_singleton] at h2
          omega
        have Hb2 := mkHid hb2
        have kP := mkHid (implJump g _ v' D op wr hMr.out (by omega))
        have HD := mkHid hD
        have yk := mkHid y
        clear hbnd Hlen2 hsn hP hb2 hlD hD hne
        go_wp2_with (go_at_call 55; fail)
        refine kP.out.mono ?_
        rintro e w2 ⟨rfl, v2, hM2, hE2, hN2, hK2⟩
        have HM2 := mkHid hM2
        have HO2 := mkHid (OwnJ.ef hOr.out hgl hCw.out hE2)
        have HJ2 : Hid (∀ q ∈ Q ++ [(D.length, wr.heap.size)], Jm g q.1 v2 q.2 w2) := by
          intro q hq
          rcases List.mem_append.1 hq with hq | hq
          · exact (hJr.out q hq).keep hE2 hN2
          · obtain rfl := List.mem_singleton.1 hq
            exact hK2
        have HE2 := mkHid (Ef.trans hEr.out hNr.out hE2)
        have HN2 := mkHid (Nw.trans hNr.out hEr.out.size hN2)
        have hs2 := hE2.size
        have hQm : (Q.map (·.2)).length ≤ 1000000 := by rw [List.length_map]; omega
        clear hM2 hE2 hN2 kP y hMr hEr hNr hOr hCw hK2 hJr
        unfold jmV
        go_wp2_with (at_builtin; refine wp_appJ rfl _ _ rfl w.heap.size u6 (Q.map (·.2)) rfl HO2.out wr.heap.size 1 rfl hQm (by omega) ?_; intro ov' w3 hO3 hg3; refine Hid.out ?_)
        have hbA : Below w2.heap.size w2 (w2.alloc (.cells #[jmV wr.heap.size] 1)) := (Below.refl _ _).alloc (Nat.le_refl _) _
        have HOA : OwnJ w.heap.size u6 (Q.map (·.2)) (w2.alloc (.cells #[jmV wr.heap.size] 1)) := World.ownsRow.alloc HO2.out _
        have hlow : ∀ k, u6.ownBlock = some k → w.heap.size ≤ k := fun k hk => (World.ownsRow.lt HOA k hk).1
        have hM3 := Mc.grownJ (HM2.out.below hbA) HOA hgl hg3
        have HE3 := mkHid (Ef.grown (Ef.grown (row := none) HE2.out ⟨hbA.os, hbA.tape, hbA.output, hbA.size, fun k hk _ => hbA.block k hk⟩ (fun k hk => by cases hk)) hg3 hlow)
        have HJ3 : Hid (∀ q ∈ Q ++ [(D.length, wr.heap.size)], Jm g q.1 v2 q.2 w3) := fun q hq => ((HJ2.out q hq).below hbA).grown HOA hg3
        have HO3 : Hid (OwnJ w.heap.size ov' ((Q ++ [(D.length, wr.heap.size)]).map (·.2)) w3) := by
          show OwnJ _ _ _ _
          rw [List.map_append]
          exact hO3
        have HM3 := mkHid hM3
        have hlx : (D ++ [Cp.zc op 0]).length = D.length + 1 := by simp
        have hB3 := mkHid (HM.out.low HE3.out)
        obtain ⟨a8, ha8, hb8, -⟩ := H6.out k hlt
        cases ha8
        have y3 : w3.cell? (a7.add k) = some (.int .i64 (j : Int)) := ((hB3.out.cell (p := a7.add k) (by rw [add_blockG]; exact hb8)).trans (hBr.out.cell (p := a7.add k) (by rw [add_blockG]; exact hb8)).symm).trans yk.out
        obtain ⟨E3, -, hMk3⟩ := id hM3
        have hCw3 := mkHid hMk3.cw
        have kT0 := Ih.out j g v2 _ w3 Hwf.out HM3.out (HF.out.below hB3.out) (by rw [hlx]; have := Hb2.out; omega)
        rw [hlx, ← hnext.out] at kT0
        have kT := mkHid kT0
        clear hbA HOA hlow hM3 hO3 hg3 hMk3 kT0 hb8 HM2 HO2 HE2 HJ2
        refine mkHid ?_
        go_wp2_with (go_at_call 19; fail)
        refine kT.out.mono ?_
        rintro e w4 ⟨rfl, v4, hM4, hE4, hN4⟩
        have HM4 := mkHid hM4
        have HO4 := mkHid (OwnJ.ef HO3.out hgl hCw3.out hE4)
        have HJ4 : Hid (∀ q ∈ Q ++ [(D.length, wr.heap.size)], Jm g q.1 v4 q.2 w4) := fun q hq => (HJ3.out q hq).keep hE4 hN4
        have HE4 := mkHid (Ef.trans HE3.out HN2.out hE4)
        have HN4 := mkHid (Nw.trans HN2.out HE3.out.size hN4)
        clear hM4 hE4 hN4 kT y3 HM3 HO3 HE3 hCw3 HJ3
        have hQ2 : (Q ++ [(D.length, wr.heap.size)]).length ≤ k + 1 := by rw [List.length_append, List.length_singleton]; omega
        go_wp2
        go_roundw
        case rel => exact ⟨k + 1, v4, _, by omega, by go_num, hP2, HM4, HE4, HN4, HO4, HJ4, hQ2⟩
        case measure => simp [Lib.intOf]; omega
    · have hall : ks.take k = ks := List.take_of_length_le (by omega)
      rw [hall] at hP hMr
      obtain ⟨oo, oc, rfl⟩ := hOr.out.shape
      obtain ⟨D, hD⟩ : ∃ D, C ++ Cp.part (Cp.code F d) op ks C.length = D := ⟨_, rfl⟩
      have hlD : D.length = C.length + (Cp.part (Cp.code F d) op ks C.length).length := by rw [← hD, List.length_append]
      have hlt2 : Hid (∀ q ∈ Q, q.1 < D.length) := by
        intro q hq
        have ha : q.1 ∈ Cp.ppos (Cp.code F d) ks C.length := by rw [← hP.out]; exact List.mem_map_of_mem hq
        have := Cp.ppos_lt (Cp.code F d) op C.length ks q.1 ha
        omega
      have hfin : Hid (Q.foldl (fun L q => Cp.pt L q.1 (D.length : Nat)) D = C ++ Cp.sevs (Cp.code F d) op ks C.length) := by
        show _ = _
        have := Cp.part_told (Cp.code F d) op C.length C rfl ks
        rw [hD, ← hP.out, List.foldl_map] at this
        exact this
      rw [hD] at hMr
      have hQ3 : Q.length ≤ 100000 := by omega
      rw [List.length_map] at hOr ⊢
      clear hD hlD hall hP
      go_wp2
      go_loopw [32] (fun iv wq => ∃ (m : Nat) (v'' : Value), m ≤ Q.length ∧ iv = .int .i64 m ∧ Hid (Mc 47 g (.slice o F.length cap) v'' ((Q.take m).foldl (fun L q => Cp.pt L q.1 (D.length : Nat)) D) wq) ∧ Hid (Ef g v.ownBlock w wq) ∧ Hid (Nw w v v'') ∧ Hid (OwnJ w.heap.size (.slice oo Q.length oc) (Q.map (·.2)) wq) ∧ Hid (∀ q ∈ Q, Jm g q.1 v'' q.2 wq)) (fun iv _ => Q.length - (Lib.intOf iv).toNat)
      case atStart => exact ⟨0, v', Nat.zero_le _, rfl, hMr, hEr, hNr, hOr, hJr⟩
      case round =>
        clear hMr hEr hNr hOr hJr
        obtain ⟨m, v'', hmm, rfl, hMq, hEq, hNq, hOq, hJq⟩ := hrel
        by_cases hltm : m < Q.length
        · obtain ⟨q, rfl, hcq⟩ := hOq.out.at m (by rw [List.length_map]; exact hltm)
          rw [List.getElem_map] at hcq
          obtain ⟨Dm, hDm⟩ : ∃ Dm, (Q.take m).foldl (fun L q => Cp.pt L q.1 (D.length : Nat)) D = Dm := ⟨_, rfl⟩
          have hlm : Dm.length = D.length := by
            rw [← hDm]
            have := Cp.fold_len ((Q.take m).map (·.1)) (D.length : Nat) D
            rw [List.foldl_map] at this
            exact this
          have hpm := hlt2.out Q[m] (List.getElem_mem hltm)
          have hjm := hJq.out Q[m] (List.getElem_mem hltm)
          rw [hDm] at hMq
          have hnx : Hid ((Q.take (m + 1)).foldl (fun L q => Cp.pt L q.1 (D.length : Nat)) D = Cp.pt Dm Q[m].1 (Dm.length : Int)) := by
            show _ = _
            rw [← List.take_append_getElem hltm, List.foldl_append, hDm, hlm]
            rfl
          have kH := mkHid (hjm.tell hMq.out (by omega))
          obtain ⟨Eq, -, hMkq⟩ := id hMq.out
          have hCwq := mkHid hMkq.cw
          clear hDm hlm hpm hMkq hjm
          generalize Q[m].1 = pm at *
          generalize Q[m].2 = pb at *
          unfold jmV at hcq
          go_wp2_with (go_at_call 73; fail)
          refine kH.out.mono ?_
          rintro e w5 ⟨rfl, v5, hM5, hE5, hN5⟩
          rw [← hnx.out] at hM5
          have HM5 := mkHid hM5
          have HO5 := mkHid (OwnJ.ef hOq.out hgl hCwq.out hE5)
          have HJ5 : Hid (∀ q ∈ Q, Jm g q.1 v5 q.2 w5) := fun q hq => (hJq.out q hq).keep hE5 hN5
          have HE5 := mkHid (Ef.trans hEq.out hNq.out hE5)
          have HN5 := mkHid (Nw.trans hNq.out hEq.out.size hN5)
          clear hM5 hE5 hN5 kH hcq hMq hEq hNq hOq hCwq hJq
          go_wp2
          go_roundw
          case rel => exact ⟨m + 1, v5, by omega, by go_num, HM5, HE5, HN5, HO5, HJ5⟩
          case measure => simp [Lib.intOf]; omega
        · have hall : Q.take m = Q := List.take_of_length_le (by omega)
          rw [hall, hfin.out] at hMq
          go_wp2
          refine bodyPost_end (v := .tuple #[]) (results_none Try.results43 _ _ _) rfl ⟨rfl, v'', hMq.out, hEq.out, hNq.out⟩
end Go.Proofs.Ytonnmbkfjiddnaa
