
/- The specification's code of a repetition. (By tools/gen/compdo2.py.) -/
import Derived.Test.YtonnmbkfjiddnaaCompImpl7
namespace Go.Proofs.Ytonnmbkfjiddnaa
open Go.RowKit Go.Lib Go.Maps
/-- Where an instruction leads, by a store of one's own. -/
theorem tellC (g a : Nat) (nv v : Value) (C : List Cd) (w : World) (hM : Mc 41 g nv v C w) (ha : a < C.length) (k : Int) :
    ∃ q cap x, v = .slice (some ⟨q, 0, none⟩) C.length cap ∧ w.cell? ⟨g, 1, none⟩ = some (.slice (some ⟨q, 0, none⟩) C.length cap) ∧ w.cell? ⟨q, a * 9 + 1, none⟩ = some x ∧ w.frozen? ⟨q, a * 9 + 1, none⟩ = false ∧ Mc 41 g nv v (Cp.pt C a k) (w.setCell ⟨q, a * 9 + 1, none⟩ (.int .i64 k)) ∧ Ef g v.ownBlock w (w.setCell ⟨q, a * 9 + 1, none⟩ (.int .i64 k)) ∧ Nw w v v := by
  obtain ⟨E, hE, hblk, hC⟩ := hM
  have hl : E.length = C.length := by rw [← hE]; simp
  have hgl := heap_ltM hblk
  obtain ⟨c0, c1⟩ := two_cellsM hblk
  obtain ⟨o, cap, rfl⟩ := hC.shape
  obtain ⟨q, rfl, hq⟩ : ∃ q, o = some ⟨q, 0, none⟩ ∧ g + 1 ≤ q := by
    rcases hC.row.2 with ⟨h1, h0⟩ | ⟨q, cap', cur, h1, h2, -⟩
    · omega
    · simp only [Value.slice.injEq] at h1
      exact ⟨q, h1.1, h2⟩
  have ha' : a < E.length := by omega
  have y1 := World.ownsRow.cellAt hC.row (a * 9 + 1) (by omega)
  have z1 := World.ownsRow.frozenAt hC.row (a * 9 + 1)
  rw [cdCells_at E a ha' 1 (by omega), show (cell9 E[a])[1]? = some (.int .i64 E[a].1.to) from rfl] at y1
  obtain ⟨hC2, hg2⟩ := hC.told a ha' k
  refine ⟨q, cap, _, by rw [hl], by rw [← hl]; exact c1, y1, z1, ⟨toE E a k, by rw [toE_pt, hE], (hg2.block g hgl (by intro e; cases e; omega)).trans hblk, by rw [toE_set E a ha']; exact hC2⟩, ⟨hg2.os, hg2.tape, hg2.output, hg2.size, fun j hj _ hr => hg2.block j hj hr⟩, .inl rfl⟩
theorem rep_made (C A : List Cd) (num L1 L2 : Int) (p : Nat) (hp : p = C.length + 2 + A.length) : Cp.pt (Cp.pt (C ++ [Cp.nc 8 num] ++ [Cp.zc 9 0] ++ A ++ [Cp.zc 2 0]) p L1) (C.length + 1) L2 = C ++ Cp.nc 8 num :: Cp.zc 9 L2 :: (A ++ [Cp.zc 2 L1]) := by
  rw [show C ++ [Cp.nc 8 num] ++ [Cp.zc 9 0] ++ A ++ [Cp.zc 2 0] = (C ++ [Cp.nc 8 num] ++ [Cp.zc 9 0] ++ A) ++ Cp.zc 2 0 :: [] by simp, Cp.pt_at _ _ _ _ _ _ (by simp; omega),
    show (C ++ [Cp.nc 8 num] ++ [Cp.zc 9 0] ++ A) ++ Cp.zc 2 L1 :: [] = (C ++ [Cp.nc 8 num]) ++ Cp.zc 9 0 :: (A ++ [Cp.zc 2 L1]) by simp, Cp.pt_at _ _ _ _ _ _ (by simp)]
  simp
set_option maxHeartbeats 4000000 in
theorem doRepeat (F : List Nd) (o : Option Addr) (cap d i g : Nat) (v : Value) (C : List Cd) (w : World) (hi : i < F.length) (hM : Mc 41 g (.slice o F.length cap) v C w) (hF : Nds g w o F) (_hlF : F.length ≤ 1048576) (j0 : Nat) (r : List Int) (hk : F[i].kind = 3) (ihD : DoOk F o cap d) (hkids : F[i].kids = (j0 : Int) :: r) (hwj0 : Cp.Wf F d j0) (htj0 : Fn.isTest (Fn.kindAt F j0) = false) (hlen : C.length + 4 + (Cp.code F d j0 (C.length + 3)).length ≤ 100000) :
    Calls Try.prog 15 #[.pointer (some ⟨g, 0, none⟩), .int .i64 i] w fun e w' => e = .returned (.tuple #[]) ∧ Rc 41 g (.slice o F.length cap) v (C ++ Cp.one (Cp.code F d) F[i] C.length) w w' := by
  have hF0 := mkHid hF
  have hone : Cp.one (Cp.code F d) F[i] C.length = Cp.zc 1 0 :: Cp.again (Cp.code F d) F[i].num (j0 : Int) (C.length + 1) := by
    unfold Cp.one Cp.rest
    rw [hk, hkids]
    rfl
  rw [hone]
  have IhD := mkHid ihD
  have Hlen := mkHid hlen
  have Hwj0 := mkHid hwj0
  have Htj0 := mkHid htj0
  have hlC : C.length ≤ 99999 := by omega
  clear ihD hone hlen hwj0 htj0
  obtain ⟨a, vn, vk, vd, rfl, ha, hA, hI⟩ := hF i hi
  obtain ⟨n0, hn0⟩ : ∃ n, F[i] = n := ⟨_, rfl⟩
  rw [hn0] at hA hI hk
  try rw [hn0]
  have x1 : (n0.kind == 1) = false := by rw [hk]; rfl
  have x2 : (n0.kind == 2) = false := by rw [hk]; rfl
  have x3 : (n0.kind == 3) = true := by rw [hk]; rfl
  have hI0 := mkHid hI
  obtain ⟨⟨a4, e4, rfl, T4⟩, ⟨a5, e5, rfl, T5⟩, ⟨a6, e6, rfl, T6⟩⟩ := hI
  obtain ⟨c0, c1, c2, c3, c4, c5, c6⟩ := hA
  rw [hn0] at hkids
  have hpos : 0 < n0.kids.length := by rw [hkids]; simp
  obtain ⟨a7, ha7, hb7, hc70⟩ := T6 0 hpos
  subst ha7
  rw [show n0.kids[0] = (j0 : Int) by simp [hkids], show a7.add 0 = a7 by unfold Addr.add; split <;> simp_all] at hc70
  have Hkids := mkHid hkids
  clear hkids
  have H4 := mkHid T4
  have H5 := mkHid T5
  have H6 := mkHid T6
  obtain ⟨W, hW, hbW, hMW, hL, hZ⟩ := two_locals n0 (.slice a4 n0.names.length e4) (.slice a5 n0.keys.length e5) (.slice (some a7) n0.kids.length e6) hM
  have gc := (two_cellsM hM.blk).1
  have k1 := mkHid (specPut0 g _ v C 1 0 W hMW (by omega))
  have HW := mkHid hW
  have HL := mkHid hL
  have HZ := mkHid hZ
  have HbW := mkHid hbW
  have Hk := mkHid hk
  have HMW := mkHid hMW
  have HM := mkHid hM
  obtain ⟨z0, z1, z2, z3, z4, z5, z6⟩ := blk7 hZ.blk
  obtain ⟨l0, l1, l2, l3, l4, l5, l6⟩ := blk7 hL.blk
  have hgl := heap_ltM hM.blk
  clear hW hL hZ hMW hbW T4 T5 T6 hk hM
  go_enter Try.func15, Try.ntmps15
  go_wp2_with (go_at_call 16; fail)
  rw [HW.out]
  refine k1.out.mono ?_
  rintro e w1 ⟨rfl, v1, hM1, hE1, hN1⟩
  have HL1 := mkHid (HL.out.keep hE1 hN1)
  have HZ1 := mkHid (HZ.out.keep hE1 hN1)
  have HM1 := mkHid hM1
  have HE1 := mkHid hE1
  have HN1 := mkHid hN1
  clear hM1 hE1 hN1
  clear l0 l1 l2 l3 l4 l5 l6 z0 z1 z2 z3 z4 z5 z6
  obtain ⟨l0, l1, l2, l3, l4, l5, l6⟩ := blk7 HL1.out.blk
  obtain ⟨z0, z1, z2, z3, z4, z5, z6⟩ := blk7 HZ1.out.blk
  have HB1 := mkHid ((HbW.out.mono (show g ≤ w.heap.size by omega)).trans (HMW.out.low HE1.out))
  obtain ⟨C1, hC1⟩ : ∃ C1, C ++ [(⟨1, 0, { Cp.z with num := 0 }⟩ : Cd)] = C1 := ⟨_, rfl⟩
  have hl1 : Hid (C1.length = C.length + 1) := show _ = _ from by rw [← hC1]; simp
  rw [hC1] at HM1
  have HC1 := mkHid hC1
  clear hC1
  obtain ⟨nm, hnm⟩ : ∃ nm, n0.num = nm := ⟨_, rfl⟩
  rw [hnm] at l1
  have Hnm := mkHid hnm
  clear hnm
  have k2 := mkHid (specPut0 g _ v1 C1 8 nm w1 HM1.out (by have := hl1.out; have := Hlen.out; omega))
  go_wp2_with (go_at_call 16; fail)
  refine k2.out.mono ?_
  rintro e w2 ⟨rfl, v2, hM2, hE2, hN2⟩
  have HL2 := mkHid (HL1.out.keep hE2 hN2)
  have HZ2 := mkHid (HZ1.out.keep hE2 hN2)
  have HM2 := mkHid hM2
  have HE2 := mkHid hE2
  have HN2 := mkHid hN2
  clear hM2 hE2 hN2
  clear l0 l1 l2 l3 l4 l5 l6 z0 z1 z2 z3 z4 z5 z6
  obtain ⟨l0, l1, l2, l3, l4, l5, l6⟩ := blk7 HL2.out.blk
  obtain ⟨z0, z1, z2, z3, z4, z5, z6⟩ := blk7 HZ2.out.blk
  have HB2 := mkHid (HB1.out.trans (HM1.out.low HE2.out))
  obtain ⟨C2, hC2⟩ : ∃ C2, C1 ++ [(⟨8, 0, { Cp.z with num := nm }⟩ : Cd)] = C2 := ⟨_, rfl⟩
  have hl2 : Hid (C2.length = C.length + 2) := show _ = _ from by rw [← hC2]; rw [List.length_append, hl1.out, List.length_cons, List.length_nil] <;> omega
  rw [hC2] at HM2
  have HC2 := mkHid hC2
  clear hC2
  have k3 := mkHid (specPut0 g _ v2 C2 9 0 w2 HM2.out (by have := hl2.out; have := Hlen.out; omega))
  go_wp2_with (go_at_call 16; fail)
  refine k3.out.mono ?_
  rintro e w3 ⟨rfl, v3, hM3, hE3, hN3⟩
  have HL3 := mkHid (HL2.out.keep hE3 hN3)
  have HZ3 := mkHid (HZ2.out.keep hE3 hN3)
  have HM3 := mkHid hM3
  have HE3 := mkHid hE3
  have HN3 := mkHid hN3
  clear hM3 hE3 hN3
  clear l0 l1 l2 l3 l4 l5 l6 z0 z1 z2 z3 z4 z5 z6
  obtain ⟨l0, l1, l2, l3, l4, l5, l6⟩ := blk7 HL3.out.blk
  obtain ⟨z0, z1, z2, z3, z4, z5, z6⟩ := blk7 HZ3.out.blk
  have HB3 := mkHid (HB2.out.trans (HM2.out.low HE3.out))
  obtain ⟨C3, hC3⟩ : ∃ C3, C2 ++ [(⟨9, 0, { Cp.z with num := 0 }⟩ : Cd)] = C3 := ⟨_, rfl⟩
  have hl3 : Hid (C3.length = C.length + 3) := show _ = _ from by rw [← hC3]; rw [List.length_append, hl2.out, List.length_cons, List.length_nil] <;> omega
  rw [hC3] at HM3
  have HC3 := mkHid hC3
  clear hC3
  have y0 := (HB3.out.cell (p := a7) (by exact hb7)).trans hc70
  have k4 := mkHid (IhD.out j0 g v3 C3 w3 Hwj0.out Htj0.out HM3.out (hF0.out.below HB3.out) (by rw [hl3.out]; have := Hlen.out; omega))
  go_wp2_with (go_at_call 15; fail)
  refine k4.out.mono ?_
  rintro e w4 ⟨rfl, v4, hM4, hE4, hN4⟩
  have HL4 := mkHid (HL3.out.keep hE4 hN4)
  have HZ4 := mkHid (HZ3.out.keep hE4 hN4)
  have HM4 := mkHid hM4
  have HE4 := mkHid hE4
  have HN4 := mkHid hN4
  clear hM4 hE4 hN4
  clear l0 l1 l2 l3 l4 l5 l6 z0 z1 z2 z3 z4 z5 z6
  obtain ⟨l0, l1, l2, l3, l4, l5, l6⟩ := blk7 HL4.out.blk
  obtain ⟨z0, z1, z2, z3, z4, z5, z6⟩ := blk7 HZ4.out.blk
  have HB4 := mkHid (HB3.out.trans (HM3.out.low HE4.out))
  clear y0
  obtain ⟨C4, hC4⟩ : ∃ C4, C3 ++ Cp.code F d j0 C3.length = C4 := ⟨_, rfl⟩
  have hl4 : Hid (C4.length = C.length + 3 + (Cp.code F d j0 (C.length + 3)).length) := show _ = _ from by rw [← hC4]; rw [List.length_append, hl3.out]
  rw [hC4] at HM4
  have HC4 := mkHid hC4
  clear hC4
  have k5 := mkHid (specPut0 g _ v4 C4 2 0 w4 HM4.out (by have := hl4.out; have := Hlen.out; omega))
  go_wp2_with (go_at_call 16; fail)
  refine k5.out.mono ?_
  rintro e w5 ⟨rfl, v5, hM5, hE5, hN5⟩
  have HL5 := mkHid (HL4.out.keep hE5 hN5)
  have HZ5 := mkHid (HZ4.out.keep hE5 hN5)
  have HM5 := mkHid hM5
  have HE5 := mkHid hE5
  have HN5 := mkHid hN5
  clear hM5 hE5 hN5
  clear l0 l1 l2 l3 l4 l5 l6 z0 z1 z2 z3 z4 z5 z6
  obtain ⟨l0, l1, l2, l3, l4, l5, l6⟩ := blk7 HL5.out.blk
  obtain ⟨z0, z1, z2, z3, z4, z5, z6⟩ := blk7 HZ5.out.blk
  have HB5 := mkHid (HB4.out.trans (HM4.out.low HE5.out))
  obtain ⟨C5, hC5⟩ : ∃ C5, C4 ++ [(⟨2, 0, { Cp.z with num := 0 }⟩ : Cd)] = C5 := ⟨_, rfl⟩
  have hl5 : Hid (C5.length = C.length + 4 + (Cp.code F d j0 (C.length + 3)).length) := show _ = _ from by rw [← hC5]; rw [List.length_append, hl4.out, List.length_cons, List.length_nil] <;> omega
  rw [hC5] at HM5
  have HC5 := mkHid hC5
  clear hC5
  obtain ⟨q, qc, qx, hv5, qs, qy, qf, hM6, hE6, hN6⟩ := tellC g C4.length _ v5 C5 w5 HM5.out (by have := hl5.out; have := hl4.out; omega) (C2.length : Int)
  have hq45 : C4.length < C5.length := by have := hl5.out; have := hl4.out; omega
  obtain ⟨w6, hw6⟩ : ∃ w6, w5.setCell ⟨q, C4.length * 9 + 1, none⟩ (.int .i64 (C2.length : Int)) = w6 := ⟨_, rfl⟩
  rw [hw6] at hM6 hE6
  have HL6 := mkHid (HL5.out.keep hE6 hN6)
  have HZ6 := mkHid (HZ5.out.keep hE6 hN6)
  have HM6 := mkHid hM6
  have HE6 := mkHid hE6
  have HN6 := mkHid hN6
  have Hw6 := mkHid hw6
  clear hM6 hE6 hN6 hw6 hv5
  obtain ⟨C6, hC6⟩ : ∃ C6, Cp.pt C5 C4.length (C2.length : Int) = C6 := ⟨_, rfl⟩
  have hl6 : Hid (C6.length = C.length + 4 + (Cp.code F d j0 (C.length + 3)).length) := show _ = _ from by rw [← hC6]; rw [Cp.pt_len, hl5.out]
  rw [hC6] at HM6
  have HC6 := mkHid hC6
  clear hC6
  have HB6 := mkHid (HB5.out.trans (HM5.out.low HE6.out))
  have k7 := mkHid (specHereC g C2.length _ v5 C6 w6 HM6.out (by have := hl6.out; have := hl2.out; omega))
  go_wp2_with (go_at_call 32; fail)
  rw [Hw6.out]
  refine k7.out.mono ?_
  rintro e w7 ⟨rfl, v7, hM7, hE7, hN7⟩
  have HM7 := mkHid hM7
  have HE7 := mkHid hE7
  have HN7 := mkHid hN7
  clear hM7 hE7 hN7
  go_wp2
  refine bodyPost_end (v := .tuple #[]) (results_none Try.results15 _ _ _) rfl ⟨rfl, Rc.ahead HbW.out ?_⟩
  refine Rc.trans HE1.out HN1.out (Rc.trans HE2.out HN2.out (Rc.trans HE3.out HN3.out (Rc.trans HE4.out HN4.out (Rc.trans HE5.out HN5.out (Rc.trans HE6.out HN6.out (⟨v7, ?_, HE7.out, HN7.out⟩))))))
  have e2 : C2 = C ++ [Cp.zc 1 0] ++ [Cp.nc 8 nm] := by
    rw [← HC2.out, ← HC1.out]
    rfl
  have e5 : C5 = C ++ [Cp.zc 1 0] ++ [Cp.nc 8 nm] ++ [Cp.zc 9 0] ++ Cp.code F d j0 (C.length + 3) ++ [Cp.zc 2 0] := by
    rw [← HC5.out, ← HC4.out, hl3.out, ← HC3.out, e2]
    rfl
  have l2 : (C2.length : Int) = ((C.length + 1 + 1 : Nat) : Int) := by have := hl2.out; omega
  have l6 : (C6.length : Int) = ((C.length + 1 + 2 + (Cp.code F d j0 (C.length + 3)).length + 1 : Nat) : Int) := by have := hl6.out; omega
  have p2 : C2.length = (C ++ [Cp.zc 1 0]).length + 1 := by rw [hl2.out]; simp
  have p4 : C4.length = (C ++ [Cp.zc 1 0]).length + 2 + (Cp.code F d j0 (C.length + 3)).length := by rw [hl4.out]; simp <;> omega
  have e : C ++ Cp.zc 1 0 :: Cp.again (Cp.code F d) n0.num (j0 : Int) (C.length + 1) = Cp.pt C6 C2.length (C6.length : Int) := by
    rw [l6, ← HC6.out, l2, p2, e5]
    refine Eq.trans ?_ (rep_made (C ++ [Cp.zc 1 0]) _ _ _ _ _ p4).symm
    unfold Cp.again
    rw [Hnm.out]
    simp only [Int.toNat_natCast, List.append_assoc, List.cons_append, List.nil_append]
  rw [e]
  exact HM7.out
end Go.Proofs.Ytonnmbkfjiddnaa
