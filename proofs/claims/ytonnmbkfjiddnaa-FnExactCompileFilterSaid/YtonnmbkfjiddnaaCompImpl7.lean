
/- The specification's code of a test, kind by kind. (By tools/gen/comptest.py.) -/

/- The specification's code of a test that turns another one round. (By tools/gen/comptest.py.) -/

/- The program's coder: addOpposite. -/

/- The program's coder: addRepeated. -/

/- The specification's code of a command, kind by kind. (By tools/gen/compdo.py.) -/

/- The specification's code of a block. -/

/- The program's coder: addAll. -/
import Derived.Test.YtonnmbkfjiddnaaCompSpec3
import Derived.Test.YtonnmbkfjiddnaaCompImpl4
namespace Go.Proofs.Ytonnmbkfjiddnaa
open Go.RowKit Go.Lib Go.Maps
abbrev ndCs (n : Nd) (vn vk vd : Value) : Array Value := #[.int .i64 n.kind, .int .i64 n.num, .int .i64 n.mat, .string n.text, vn, vk, vd]
abbrev zCs : Array Value := #[.int .i64 0, .int .i64 0, .int .i64 0, .string ⟨#[]⟩, .slice none 0 0, .slice none 0 0, .slice none 0 0]
/-- A node and an empty one in new blocks. -/
theorem two_locals {g : Nat} {nv v : Value} {C : List Cd} {w : World} {t : TypeId} (n : Nd) (vn vk vd : Value) (h : Mc t g nv v C w) :
    ∃ W, (w.alloc (.cells (ndCs n vn vk vd) 44)).alloc (.cells zCs 44) = W ∧ Below w.heap.size w W ∧ Mc t g nv v C W ∧ Lo g v w.heap.size (ndCs n vn vk vd) W ∧ Lo g v (w.heap.size + 1) zCs W := by
  refine ⟨_, rfl, ?_⟩
  have hb : Below w.heap.size w ((w.alloc (.cells (ndCs n vn vk vd) 44)).alloc (.cells zCs 44)) := ((Below.refl _ _).alloc (Nat.le_refl _) _).alloc (by simp) _
  have hg := heap_ltM h.blk
  have hr : ∀ k, w.heap.size ≤ k → some k ≠ v.ownBlock := fun k hk e => by
    obtain ⟨E, -, hM⟩ := h
    have := (World.ownsRow.lt hM.cw.row k e.symm).2
    omega
  refine ⟨hb, h.below hb, ⟨?_, by omega, hr _ (Nat.le_refl _)⟩, ⟨?_, by omega, hr _ (by omega)⟩⟩
  · rw [heap_alloc_old _ _ _ (by simp)]
    exact heap_alloc_at _ _
  · have := heap_alloc_at (w.alloc (.cells (ndCs n vn vk vd) 44)) (.cells zCs 44)
    rw [show (w.alloc (.cells (ndCs n vn vk vd) 44)).heap.size = w.heap.size + 1 from by simp] at this
    exact this
theorem code_at (F : List Nd) (d i b : Nat) (hi : i < F.length) : Cp.code F (d + 1) i b = Cp.one (Cp.code F d) F[i] b := by
  show Cp.one _ _ _ = _
  rw [List.getElem?_eq_getElem hi]
  rfl
/-- What the specification's test does with a node of depth d. -/
def TestOk (F : List Nd) (o : Option Addr) (cap d : Nat) : Prop := ∀ (i g : Nat) (v : Value) (C : List Cd) (w : World), Cp.Wf F d i → Fn.isTest (Fn.kindAt F i) = true → Mc 41 g (.slice o F.length cap) v C w → Nds g w o F → C.length + (Cp.code F d i C.length).length ≤ 100000 →
    Calls Try.prog 31 #[.pointer (some ⟨g, 0, none⟩), .int .i64 i] w fun e w' => e = .returned (.tuple #[]) ∧ Rc 41 g (.slice o F.length cap) v (C ++ Cp.code F d i C.length) w w'
set_option maxHeartbeats 4000000 in
theorem testTrue (F : List Nd) (o : Option Addr) (cap d i g : Nat) (v : Value) (C : List Cd) (w : World) (hi : i < F.length) (hM : Mc 41 g (.slice o F.length cap) v C w) (hF : Nds g w o F) (_hlF : F.length ≤ 1048576) (hk : F[i].kind = 20) (hlen : C.length ≤ 99998) :
    Calls Try.prog 31 #[.pointer (some ⟨g, 0, none⟩), .int .i64 i] w fun e w' => e = .returned (.tuple #[]) ∧ Rc 41 g (.slice o F.length cap) v (C ++ Cp.one (Cp.code F d) F[i] C.length) w w' := by
  obtain ⟨a, vn, vk, vd, rfl, ha, hA, hI⟩ := hF i hi
  obtain ⟨n0, hn0⟩ : ∃ n, F[i] = n := ⟨_, rfl⟩
  rw [hn0] at hA hI hk
  try rw [hn0]
  have x20 : (n0.kind == 20) = true := by rw [hk]; rfl
  have hI0 := mkHid hI
  obtain ⟨⟨a4, e4, rfl, T4⟩, ⟨a5, e5, rfl, T5⟩, ⟨a6, e6, rfl, T6⟩⟩ := hI
  obtain ⟨c0, c1, c2, c3, c4, c5, c6⟩ := hA
  have H4 := mkHid T4
  have H5 := mkHid T5
  have H6 := mkHid T6
  obtain ⟨W, hW, hbW, hMW, hL, hZ⟩ := two_locals n0 (.slice a4 n0.names.length e4) (.slice a5 n0.keys.length e5) (.slice a6 n0.kids.length e6) hM
  have gc := (two_cellsM hM.blk).1
  have k1 := mkHid (specPut0 g _ v C 1 0 W hMW (by omega))
  have HW := mkHid hW
  have HL := mkHid hL
  have HZ := mkHid hZ
  have HbW := mkHid hbW
  have Hk := mkHid hk
  have HMW := mkHid hMW
  have HM := mkHid hM
  obtain ⟨z0, z1, z2, z3, z4, z5, z6⟩ := blk7 hZ.blk
  have hgl := heap_ltM hM.blk
  clear hW hL hZ hMW hbW T4 T5 T6 hk hM
  go_enter Try.func31, Try.ntmps31
  go_wp2_with (go_at_call 16; fail)
  rw [HW.out]
  refine k1.out.mono ?_
  rintro e w1 ⟨rfl, v1, hM1, hE1, hN1⟩
  have HL1 := mkHid (HL.out.keep hE1 hN1)
  have HZ1 := mkHid (HZ.out.keep hE1 hN1)
  have HM1 := mkHid hM1
  have HE1 := mkHid hE1
  have HN1 := mkHid hN1
  clear hM1 hE1 hN1
  clear z0 z1 z2 z3 z4 z5 z6
  obtain ⟨l0, l1, l2, l3, l4, l5, l6⟩ := blk7 HL1.out.blk
  obtain ⟨z0, z1, z2, z3, z4, z5, z6⟩ := blk7 HZ1.out.blk
  have k2 := mkHid (specPut0 g _ v1 _ 5 1 w1 HM1.out (by simp; omega))
  go_wp2_with (go_at_call 16; fail)
  refine k2.out.mono ?_
  rintro e w2 ⟨rfl, v2, hM2, hE2, hN2⟩
  have HL2 := mkHid (HL1.out.keep hE2 hN2)
  have HZ2 := mkHid (HZ1.out.keep hE2 hN2)
  have HM2 := mkHid hM2
  have HE2 := mkHid hE2
  have HN2 := mkHid hN2
  clear hM2 hE2 hN2
  clear l0 l1 l2 l3 l4 l5 l6 z0 z1 z2 z3 z4 z5 z6
  obtain ⟨l0, l1, l2, l3, l4, l5, l6⟩ := blk7 HL2.out.blk
  obtain ⟨z0, z1, z2, z3, z4, z5, z6⟩ := blk7 HZ2.out.blk
  go_wp2
  refine bodyPost_end (v := .tuple #[]) (results_none Try.results31 _ _ _) rfl ⟨rfl, Rc.ahead HbW.out ?_⟩
  refine Rc.trans HE1.out HN1.out (⟨v2, ?_, HE2.out, HN2.out⟩)
  have e : C ++ Cp.one (Cp.code F d) n0 C.length = C ++ [⟨1, 0, { Cp.z with num := 0 }⟩] ++ [⟨5, 0, { Cp.z with num := 1 }⟩] := by
    unfold Cp.one Cp.rest
    rw [Hk.out]
    simp [Cp.zc, Cp.nc, Cp.z]
  rw [e]
  exact HM2.out
set_option maxHeartbeats 4000000 in
theorem testFalse (F : List Nd) (o : Option Addr) (cap d i g : Nat) (v : Value) (C : List Cd) (w : World) (hi : i < F.length) (hM : Mc 41 g (.slice o F.length cap) v C w) (hF : Nds g w o F) (_hlF : F.length ≤ 1048576) (hk : F[i].kind = 21) (hlen : C.length ≤ 99998) :
    Calls Try.prog 31 #[.pointer (some ⟨g, 0, none⟩), .int .i64 i] w fun e w' => e = .returned (.tuple #[]) ∧ Rc 41 g (.slice o F.length cap) v (C ++ Cp.one (Cp.code F d) F[i] C.length) w w' := by
  obtain ⟨a, vn, vk, vd, rfl, ha, hA, hI⟩ := hF i hi
  obtain ⟨n0, hn0⟩ : ∃ n, F[i] = n := ⟨_, rfl⟩
  rw [hn0] at hA hI hk
  try rw [hn0]
  have x20 : (n0.kind == 20) = false := by rw [hk]; rfl
  have x21 : (n0.kind == 21) = true := by rw [hk]; rfl
  have hI0 := mkHid hI
  obtain ⟨⟨a4, e4, rfl, T4⟩, ⟨a5, e5, rfl, T5⟩, ⟨a6, e6, rfl, T6⟩⟩ := hI
  obtain ⟨c0, c1, c2, c3, c4, c5, c6⟩ := hA
  have H4 := mkHid T4
  have H5 := mkHid T5
  have H6 := mkHid T6
  obtain ⟨W, hW, hbW, hMW, hL, hZ⟩ := two_locals n0 (.slice a4 n0.names.length e4) (.slice a5 n0.keys.length e5) (.slice a6 n0.kids.length e6) hM
  have gc := (two_cellsM hM.blk).1
  have k1 := mkHid (specPut0 g _ v C 1 0 W hMW (by omega))
  have HW := mkHid hW
  have HL := mkHid hL
  have HZ := mkHid hZ
  have HbW := mkHid hbW
  have Hk := mkHid hk
  have HMW := mkHid hMW
  have HM := mkHid hM
  obtain ⟨z0, z1, z2, z3, z4, z5, z6⟩ := blk7 hZ.blk
  have hgl := heap_ltM hM.blk
  clear hW hL hZ hMW hbW T4 T5 T6 hk hM
  go_enter Try.func31, Try.ntmps31
  go_wp2_with (go_at_call 16; fail)
  rw [HW.out]
  refine k1.out.mono ?_
  rintro e w1 ⟨rfl, v1, hM1, hE1, hN1⟩
  have HL1 := mkHid (HL.out.keep hE1 hN1)
  have HZ1 := mkHid (HZ.out.keep hE1 hN1)
  have HM1 := mkHid hM1
  have HE1 := mkHid hE1
  have HN1 := mkHid hN1
  clear hM1 hE1 hN1
  clear z0 z1 z2 z3 z4 z5 z6
  obtain ⟨l0, l1, l2, l3, l4, l5, l6⟩ := blk7 HL1.out.blk
  obtain ⟨z0, z1, z2, z3, z4, z5, z6⟩ := blk7 HZ1.out.blk
  have k2 := mkHid (specPut0 g _ v1 _ 5 0 w1 HM1.out (by simp; omega))
  go_wp2_with (go_at_call 16; fail)
  refine k2.out.mono ?_
  rintro e w2 ⟨rfl, v2, hM2, hE2, hN2⟩
  have HL2 := mkHid (HL1.out.keep hE2 hN2)
  have HZ2 := mkHid (HZ1.out.keep hE2 hN2)
  have HM2 := mkHid hM2
  have HE2 := mkHid hE2
  have HN2 := mkHid hN2
  clear hM2 hE2 hN2
  clear l0 l1 l2 l3 l4 l5 l6 z0 z1 z2 z3 z4 z5 z6
  obtain ⟨l0, l1, l2, l3, l4, l5, l6⟩ := blk7 HL2.out.blk
  obtain ⟨z0, z1, z2, z3, z4, z5, z6⟩ := blk7 HZ2.out.blk
  go_wp2
  refine bodyPost_end (v := .tuple #[]) (results_none Try.results31 _ _ _) rfl ⟨rfl, Rc.ahead HbW.out ?_⟩
  refine Rc.trans HE1.out HN1.out (⟨v2, ?_, HE2.out, HN2.out⟩)
  have e : C ++ Cp.one (Cp.code F d) n0 C.length = C ++ [⟨1, 0, { Cp.z with num := 0 }⟩] ++ [⟨5, 0, { Cp.z with num := 0 }⟩] := by
    unfold Cp.one Cp.rest
    rw [Hk.out]
    simp [Cp.zc, Cp.nc, Cp.z]
  rw [e]
  exact HM2.out
set_option maxHeartbeats 4000000 in
theorem testLeaf (F : List Nd) (o : Option Addr) (cap d i g : Nat) (v : Value) (C : List Cd) (w : World) (hi : i < F.length) (hM : Mc 41 g (.slice o F.length cap) v C w) (hF : Nds g w o F) (_hlF : F.length ≤ 1048576) (hk : 25 ≤ F[i].kind ∧ F[i].kind ≤ 31) (hfit : F[i].fits 1048576) (hlen : C.length ≤ 99998) :
    Calls Try.prog 31 #[.pointer (some ⟨g, 0, none⟩), .int .i64 i] w fun e w' => e = .returned (.tuple #[]) ∧ Rc 41 g (.slice o F.length cap) v (C ++ Cp.one (Cp.code F d) F[i] C.length) w w' := by
  have hfit0 := mkHid hfit
  clear hfit
  obtain ⟨a, vn, vk, vd, rfl, ha, hA, hI⟩ := hF i hi
  obtain ⟨n0, hn0⟩ : ∃ n, F[i] = n := ⟨_, rfl⟩
  rw [hn0] at hA hI hk
  try rw [hn0]
  have x20 : (n0.kind == 20) = false := by simp; omega
  have x21 : (n0.kind == 21) = false := by simp; omega
  have x22 : (n0.kind == 22) = false := by simp; omega
  have x23 : (n0.kind == 23) = false := by simp; omega
  have x24 : (n0.kind == 24) = false := by simp; omega
  have hI0 := mkHid hI
  obtain ⟨⟨a4, e4, rfl, T4⟩, ⟨a5, e5, rfl, T5⟩, ⟨a6, e6, rfl, T6⟩⟩ := hI
  obtain ⟨c0, c1, c2, c3, c4, c5, c6⟩ := hA
  have H4 := mkHid T4
  have H5 := mkHid T5
  have H6 := mkHid T6
  obtain ⟨W, hW, hbW, hMW, hL, hZ⟩ := two_locals n0 (.slice a4 n0.names.length e4) (.slice a5 n0.keys.length e5) (.slice a6 n0.kids.length e6) hM
  have gc := (two_cellsM hM.blk).1
  have k1 := mkHid (specPut0 g _ v C 1 0 W hMW (by omega))
  have HW := mkHid hW
  have HL := mkHid hL
  have HZ := mkHid hZ
  have HbW := mkHid hbW
  have Hk := mkHid hk
  have HMW := mkHid hMW
  have HM := mkHid hM
  obtain ⟨z0, z1, z2, z3, z4, z5, z6⟩ := blk7 hZ.blk
  have hgl := heap_ltM hM.blk
  clear hW hL hZ hMW hbW T4 T5 T6 hk hM
  go_enter Try.func31, Try.ntmps31
  go_wp2_with (go_at_call 16; fail)
  rw [HW.out]
  refine k1.out.mono ?_
  rintro e w1 ⟨rfl, v1, hM1, hE1, hN1⟩
  have HL1 := mkHid (HL.out.keep hE1 hN1)
  have HZ1 := mkHid (HZ.out.keep hE1 hN1)
  have HM1 := mkHid hM1
  have HE1 := mkHid hE1
  have HN1 := mkHid hN1
  clear hM1 hE1 hN1
  clear z0 z1 z2 z3 z4 z5 z6
  obtain ⟨l0, l1, l2, l3, l4, l5, l6⟩ := blk7 HL1.out.blk
  obtain ⟨z0, z1, z2, z3, z4, z5, z6⟩ := blk7 HZ1.out.blk
  rw [hn0] at hfit0
  have HB1 := mkHid ((HbW.out.mono (show g ≤ w.heap.size by omega)).trans (HMW.out.low HE1.out))
  have k2 := mkHid (specBare n0 _ _ _ w1 ((hI0.out.below HB1.out).mono (by have := HB1.out.size; omega)) hfit0.out)
  unfold ndV at k2
  go_wp2_with (go_at_call 33; fail)
  refine k2.out.mono ?_
  rintro e wb ⟨un, uk, ud, rfl, hn, hk', hf, hd, hb⟩
  have k3 := mkHid (specPutN g _ v1 _ 7 n0 un uk ud w1 wb HM1.out (by simp; omega) hb hn hk' hf hd)
  unfold ndV at k3
  clear k2 hn hk' hf hd hb l0 l1 l2 l3 l4 l5 l6 z0 z1 z2 z3 z4 z5 z6
  go_wp2_with (go_at_call 16; fail)
  refine k3.out.mono ?_
  rintro e w2 ⟨rfl, v2, hM2, hE2, hN2⟩
  have HM2 := mkHid hM2
  have HE2 := mkHid hE2
  have HN2 := mkHid hN2
  clear hM2 hE2 hN2
  go_wp2
  refine bodyPost_end (v := .tuple #[]) (results_none Try.results31 _ _ _) rfl ⟨rfl, Rc.ahead HbW.out ?_⟩
  refine Rc.trans HE1.out HN1.out (⟨v2, ?_, HE2.out, HN2.out⟩)
  have e : C ++ Cp.one (Cp.code F d) n0 C.length = C ++ [⟨1, 0, { Cp.z with num := 0 }⟩] ++ [⟨7, 0, Cp.bare n0⟩] := by
    have h := Hk.out
    unfold Cp.one Cp.rest
    rw [if_neg (by omega), if_neg (by omega), if_neg (by omega), if_neg (by omega), if_neg (by omega), if_neg (by omega), if_neg (by omega), if_neg (by omega), if_neg (by omega)]
    have ht : Fn.isTest n0.kind = true := by unfold Fn.isTest; simp; omega
    simp [Cp.zc, Cp.z, Cp.leaf, ht]
  rw [e]
  exact HM2.out
end Go.Proofs.Ytonnmbkfjiddnaa
namespace Go.Proofs.Ytonnmbkfjiddnaa
open Go.RowKit Go.Lib Go.Maps
theorem cons_of (l : List Int) (h : 0 < l.length) : l = l[0] :: l.tail := by
  cases l with
  | nil => exact absurd h (Nat.not_lt_zero _)
  | cons x t => rfl
theorem opp_made (C : List Cd) (L1 L2 : Int) : Cp.pt (Cp.pt (C ++ [Cp.zc 3 0] ++ [Cp.nc 5 1] ++ [Cp.zc 2 0]) C.length L1 ++ [Cp.nc 5 0]) (C.length + 2) L2 = C ++ [Cp.zc 3 L1, Cp.nc 5 1, Cp.zc 2 L2, Cp.nc 5 0] := by
  rw [show C ++ [Cp.zc 3 0] ++ [Cp.nc 5 1] ++ [Cp.zc 2 0] = C ++ Cp.zc 3 0 :: [Cp.nc 5 1, Cp.zc 2 0] by simp, Cp.pt_mid,
    show C ++ Cp.zc 3 L1 :: [Cp.nc 5 1, Cp.zc 2 0] ++ [Cp.nc 5 0] = (C ++ [Cp.zc 3 L1, Cp.nc 5 1]) ++ Cp.zc 2 0 :: [Cp.nc 5 0] by simp, Cp.pt_at _ _ _ _ _ _ (by simp)]
  simp
theorem kids_first (kind : Int) (F : List Nd) (ks : List Int) (hkind : kind = 22 ∨ kind = 23 ∨ kind = 24) (h : Fn.kidsOk kind (ks.map (Fn.kindAt F)) = true) : 1 ≤ ks.length := by
  unfold Fn.kidsOk Fn.least at h
  rw [Bool.and_eq_true] at h
  have h2 := h.2
  rw [if_neg (by omega), if_pos (by omega)] at h2
  have h3 := of_decide_eq_true h2
  rw [List.length_map] at h3
  omega
theorem kid_first (F : List Nd) (ks : List Int) (h1 : 0 < ks.length) (h : Fn.kidsOk 22 (ks.map (Fn.kindAt F)) = true) : Fn.isTest (Fn.kindAt F ks[0]) = true := by
  unfold Fn.kidsOk at h
  rw [Bool.and_eq_true] at h
  cases ks with
  | nil => exact absurd h1 (Nat.not_lt_zero _)
  | cons k r =>
    have h2 := h.1
    rw [List.map_cons, Fn.kidsFrom, Bool.and_eq_true] at h2
    have h3 := h2.1
    unfold Fn.kidOk at h3
    rw [if_neg (by omega), if_neg (by omega), if_neg (by omega), if_pos rfl, Bool.and_eq_true] at h3
    exact h3.2
set_option maxHeartbeats 4000000 in
theorem testNot (F : List Nd) (o : Option Addr) (cap d i g : Nat) (v : Value) (C : List Cd) (w : World) (hi : i < F.length) (hM : Mc 41 g (.slice o F.length cap) v C w) (hF : Nds g w o F) (_hlF : F.length ≤ 1048576) (hk : F[i].kind = 22) (ih : TestOk F o cap d) (hw : ∀ k ∈ F[i].kids, 0 ≤ k ∧ Cp.Wf F d k.toNat) (hok : Fn.kidsOk F[i].kind (F[i].kids.map (Fn.kindAt F)) = true) (hlen : C.length + (Cp.one (Cp.code F d) F[i] C.length).length ≤ 100000) :
    Calls Try.prog 31 #[.pointer (some ⟨g, 0, none⟩), .int .i64 i] w fun e w' => e = .returned (.tuple #[]) ∧ Rc 41 g (.slice o F.length cap) v (C ++ Cp.one (Cp.code F d) F[i] C.length) w w' := by
  have hF0 := mkHid hF
  rw [hk] at hok
  have h1 := kids_first 22 F _ (.inl rfl) hok
  have h2 := kid_first F _ h1 hok
  obtain ⟨j, r, hkids, Hw2, H2⟩ : ∃ (j : Nat) (r : List Int), F[i].kids = (j : Int) :: r ∧ Hid (Cp.Wf F d j) ∧ Hid (Fn.isTest (Fn.kindAt F (j : Int)) = true) := by
    obtain ⟨hw1, hw2⟩ := hw F[i].kids[0] (List.getElem_mem h1)
    refine ⟨F[i].kids[0].toNat, F[i].kids.tail, ?_, hw2, ?_⟩
    · rw [Int.toNat_of_nonneg hw1]
      exact cons_of _ h1
    · show _ = _
      rw [Int.toNat_of_nonneg hw1]
      exact h2
  have Ih := mkHid ih
  have hone : ∀ b, Cp.one (Cp.code F d) F[i] b = Cp.zc 1 0 :: Cp.opp (Cp.code F d) (j : Int) (b + 1) := by
    intro b
    unfold Cp.one Cp.rest
    rw [hk, hkids]
    rfl
  rw [hone] at hlen ⊢
  have hlen2 : C.length + (Cp.code F d j (C.length + 1)).length + 5 ≤ 100000 := by
    unfold Cp.opp at hlen
    simp only [List.length_cons, List.length_append, List.length_nil, Int.toNat_natCast] at hlen
    omega
  clear ih hw h2 hok h1 hone hlen
  obtain ⟨a, vn, vk, vd, rfl, ha, hA, hI⟩ := hF i hi
  obtain ⟨n0, hn0⟩ : ∃ n, F[i] = n := ⟨_, rfl⟩
  rw [hn0] at hA hI hk
  try rw [hn0]
  have x20 : (n0.kind == 20) = false := by rw [hk]; rfl
  have x21 : (n0.kind == 21) = false := by rw [hk]; rfl
  have x22 : (n0.kind == 22) = true := by rw [hk]; rfl
  have hI0 := mkHid hI
  obtain ⟨⟨a4, e4, rfl, T4⟩, ⟨a5, e5, rfl, T5⟩, ⟨a6, e6, rfl, T6⟩⟩ := hI
  obtain ⟨c0, c1, c2, c3, c4, c5, c6⟩ := hA
  rw [hn0] at hkids
  have hpos : 0 < n0.kids.length := by rw [hkids]; simp
  obtain ⟨a7, ha7, hb7, hc7⟩ := T6 0 hpos
  subst ha7
  rw [show n0.kids[0] = (j : Int) by simp [hkids]] at hc7
  have Hkids := mkHid hkids
  clear hkids
  have H4 := mkHid T4
  have H5 := mkHid T5
  have H6 := mkHid T6
  obtain ⟨W, hW, hbW, hMW, hL, hZ⟩ := two_locals n0 (.slice a4 n0.names.length e4) (.slice a5 n0.keys.length e5) (.slice (some a7) n0.kids.length e6) hM
  have gc := (two_cellsM hM.blk).1
  have k1 := mkHid (specPut0 g _ v C 1 0 W hMW (by omega))
  have HW := mkHid hW
  have HL := mkHid hL
  have HZ := mkHid hZ
  have HbW := mkHid hbW
  have Hk := mkHid hk
  have HMW := mkHid hMW
  have HM := mkHid hM
  obtain ⟨z0, z1, z2, z3, z4, z5, z6⟩ := blk7 hZ.blk
  have hgl := heap_ltM hM.blk
  clear hW hL hZ hMW hbW T4 T5 T6 hk hM
  go_enter Try.func31, Try.ntmps31
  go_wp2_with (go_at_call 16; fail)
  rw [HW.out]
  refine k1.out.mono ?_
  rintro e w1 ⟨rfl, v1, hM1, hE1, hN1⟩
  have HL1 := mkHid (HL.out.keep hE1 hN1)
  have HZ1 := mkHid (HZ.out.keep hE1 hN1)
  have HM1 := mkHid hM1
  have HE1 := mkHid hE1
  have HN1 := mkHid hN1
  clear hM1 hE1 hN1
  clear z0 z1 z2 z3 z4 z5 z6
  obtain ⟨l0, l1, l2, l3, l4, l5, l6⟩ := blk7 HL1.out.blk
  obtain ⟨z0, z1, z2, z3, z4, z5, z6⟩ := blk7 HZ1.out.blk
  have HB1 := mkHid ((HbW.out.mono (show g ≤ w.heap.size by omega)).trans (HMW.out.low HE1.out))
  rw [show a7.add 0 = a7 by unfold Addr.add; split <;> simp_all] at hc7
  have y1 := (HB1.out.cell (p := a7) hb7).trans hc7
  obtain ⟨C1, hC1⟩ : ∃ C1, C ++ [(⟨1, 0, { Cp.z with num := 0 }⟩ : Cd)] = C1 := ⟨_, rfl⟩
  have hl1 : Hid (C1.length = C.length + 1) := show _ = _ from by rw [← hC1]; simp
  rw [hC1] at HM1
  have HC1 := mkHid hC1
  clear hC1
  have k2 := mkHid (Ih.out j g v1 C1 w1 Hw2.out H2.out HM1.out (hF0.out.below HB1.out) (by rw [hl1.out]; omega))
  go_wp2_with (go_at_call 31; fail)
  refine k2.out.mono ?_
  rintro e w2 ⟨rfl, v2, hM2, hE2, hN2⟩
  have HL2 := mkHid (HL1.out.keep hE2 hN2)
  have HZ2 := mkHid (HZ1.out.keep hE2 hN2)
  have HM2 := mkHid hM2
  have HE2 := mkHid hE2
  have HN2 := mkHid hN2
  clear hM2 hE2 hN2
  clear l0 l1 l2 l3 l4 l5 l6 z0 z1 z2 z3 z4 z5 z6
  obtain ⟨l0, l1, l2, l3, l4, l5, l6⟩ := blk7 HL2.out.blk
  obtain ⟨z0, z1, z2, z3, z4, z5, z6⟩ := blk7 HZ2.out.blk
  obtain ⟨C2, hC2⟩ : ∃ C2, C1 ++ Cp.code F d j C1.length = C2 := ⟨_, rfl⟩
  have hl2 : Hid (C2.length = C.length + 1 + (Cp.code F d j (C.length + 1)).length) := show _ = _ from by rw [← hC2]; rw [List.length_append, hl1.out]
  rw [hC2] at HM2
  have HC2 := mkHid hC2
  clear hC2
  have k3 := mkHid (specPut0 g _ v2 C2 3 0 w2 HM2.out (by have := hl2.out; omega))
  go_wp2_with (go_at_call 16; fail)
  refine k3.out.mono ?_
  rintro e w3 ⟨rfl, v3, hM3, hE3, hN3⟩
  have HL3 := mkHid (HL2.out.keep hE3 hN3)
  have HZ3 := mkHid (HZ2.out.keep hE3 hN3)
  have HM3 := mkHid hM3
  have HE3 := mkHid hE3
  have HN3 := mkHid hN3
  clear hM3 hE3 hN3
  clear l0 l1 l2 l3 l4 l5 l6 z0 z1 z2 z3 z4 z5 z6
  obtain ⟨l0, l1, l2, l3, l4, l5, l6⟩ := blk7 HL3.out.blk
  obtain ⟨z0, z1, z2, z3, z4, z5, z6⟩ := blk7 HZ3.out.blk
  obtain ⟨C3, hC3⟩ : ∃ C3, C2 ++ [(⟨3, 0, { Cp.z with num := 0 }⟩ : Cd)] = C3 := ⟨_, rfl⟩
  have hl3 : Hid (C3.length = C.length + 2 + (Cp.code F d j (C.length + 1)).length) := show _ = _ from by rw [← hC3]; rw [List.length_append, hl2.out, List.length_cons, List.length_nil]; omega
  rw [hC3] at HM3
  have HC3 := mkHid hC3
  clear hC3
  have k4 := mkHid (specPut0 g _ v3 C3 5 1 w3 HM3.out (by have := hl3.out; omega))
  go_wp2_with (go_at_call 16; fail)
  refine k4.out.mono ?_
  rintro e w4 ⟨rfl, v4, hM4, hE4, hN4⟩
  have HL4 := mkHid (HL3.out.keep hE4 hN4)
  have HZ4 := mkHid (HZ3.out.keep hE4 hN4)
  have HM4 := mkHid hM4
  have HE4 := mkHid hE4
  have HN4 := mkHid hN4
  clear hM4 hE4 hN4
  clear l0 l1 l2 l3 l4 l5 l6 z0 z1 z2 z3 z4 z5 z6
  obtain ⟨l0, l1, l2, l3, l4, l5, l6⟩ := blk7 HL4.out.blk
  obtain ⟨z0, z1, z2, z3, z4, z5, z6⟩ := blk7 HZ4.out.blk
  obtain ⟨C4, hC4⟩ : ∃ C4, C3 ++ [(⟨5, 0, { Cp.z with num := 1 }⟩ : Cd)] = C4 := ⟨_, rfl⟩
  have hl4 : Hid (C4.length = C.length + 3 + (Cp.code F d j (C.length + 1)).length) := show _ = _ from by rw [← hC4]; rw [List.length_append, hl3.out, List.length_cons, List.length_nil]; omega
  rw [hC4] at HM4
  have HC4 := mkHid hC4
  clear hC4
  have k5 := mkHid (specPut0 g _ v4 C4 2 0 w4 HM4.out (by have := hl4.out; omega))
  go_wp2_with (go_at_call 16; fail)
  refine k5.out.mono ?_
  rintro e w5 ⟨rfl, v5, hM5, hE5, hN5⟩
  have HL5 := mkHid (HL4.out.keep hE5 hN5)
  have HZ5 := mkHid (HZ4.out.keep hE5 hN5)
  have HM5 := mkHid hM5
  have HE5 := mkHid hE5
  have HN5 := mkHid hN5
  clear hM5 hE5 hN5
  clear l0 l1 l2 l3 l4 l5 l6 z0 z1 z2 z3 z4 z5 z6
  obtain ⟨l0, l1, l2, l3, l4, l5, l6⟩ := blk7 HL5.out.blk
  obtain ⟨z0, z1, z2, z3, z4, z5, z6⟩ := blk7 HZ5.out.blk
  obtain ⟨C5, hC5⟩ : ∃ C5, C4 ++ [(⟨2, 0, { Cp.z with num := 0 }⟩ : Cd)] = C5 := ⟨_, rfl⟩
  have hl5 : Hid (C5.length = C.length + 4 + (Cp.code F d j (C.length + 1)).length) := show _ = _ from by rw [← hC5]; rw [List.length_append, hl4.out, List.length_cons, List.length_nil]; omega
  rw [hC5] at HM5
  have HC5 := mkHid hC5
  clear hC5
  have k6 := mkHid (specHereC g C2.length _ v5 C5 w5 HM5.out (by have := hl5.out; have := hl2.out; omega))
  go_wp2_with (go_at_call 32; fail)
  refine k6.out.mono ?_
  rintro e w6 ⟨rfl, v6, hM6, hE6, hN6⟩
  have HL6 := mkHid (HL5.out.keep hE6 hN6)
  have HZ6 := mkHid (HZ5.out.keep hE6 hN6)
  have HM6 := mkHid hM6
  have HE6 := mkHid hE6
  have HN6 := mkHid hN6
  clear hM6 hE6 hN6
  clear l0 l1 l2 l3 l4 l5 l6 z0 z1 z2 z3 z4 z5 z6
  obtain ⟨l0, l1, l2, l3, l4, l5, l6⟩ := blk7 HL6.out.blk
  obtain ⟨z0, z1, z2, z3, z4, z5, z6⟩ := blk7 HZ6.out.blk
  obtain ⟨C6, hC6⟩ : ∃ C6, Cp.pt C5 C2.length (C5.length : Int) = C6 := ⟨_, rfl⟩
  have hl6 : Hid (C6.length = C.length + 4 + (Cp.code F d j (C.length + 1)).length) := show _ = _ from by rw [← hC6]; rw [Cp.pt_len, hl5.out]
  rw [hC6] at HM6
  have HC6 := mkHid hC6
  clear hC6
  have k7 := mkHid (specPut0 g _ v6 C6 5 0 w6 HM6.out (by have := hl6.out; omega))
  go_wp2_with (go_at_call 16; fail)
  refine k7.out.mono ?_
  rintro e w7 ⟨rfl, v7, hM7, hE7, hN7⟩
  have HL7 := mkHid (HL6.out.keep hE7 hN7)
  have HZ7 := mkHid (HZ6.out.keep hE7 hN7)
  have HM7 := mkHid hM7
  have HE7 := mkHid hE7
  have HN7 := mkHid hN7
  clear hM7 hE7 hN7
  clear l0 l1 l2 l3 l4 l5 l6 z0 z1 z2 z3 z4 z5 z6
  obtain ⟨l0, l1, l2, l3, l4, l5, l6⟩ := blk7 HL7.out.blk
  obtain ⟨z0, z1, z2, z3, z4, z5, z6⟩ := blk7 HZ7.out.blk
  obtain ⟨C7, hC7⟩ : ∃ C7, C6 ++ [(⟨5, 0, { Cp.z with num := 0 }⟩ : Cd)] = C7 := ⟨_, rfl⟩
  have hl7 : Hid (C7.length = C.length + 5 + (Cp.code F d j (C.length + 1)).length) := show _ = _ from by rw [← hC7]; rw [List.length_append, hl6.out, List.length_cons, List.length_nil]; omega
  rw [hC7] at HM7
  have HC7 := mkHid hC7
  clear hC7
  have k8 := mkHid (specHereC g C4.length _ v7 C7 w7 HM7.out (by have := hl7.out; have := hl4.out; omega))
  go_wp2_with (go_at_call 32; fail)
  refine k8.out.mono ?_
  rintro e w8 ⟨rfl, v8, hM8, hE8, hN8⟩
  have HL8 := mkHid (HL7.out.keep hE8 hN8)
  have HZ8 := mkHid (HZ7.out.keep hE8 hN8)
  have HM8 := mkHid hM8
  have HE8 := mkHid hE8
  have HN8 := mkHid hN8
  clear hM8 hE8 hN8
  clear l0 l1 l2 l3 l4 l5 l6 z0 z1 z2 z3 z4 z5 z6
  obtain ⟨l0, l1, l2, l3, l4, l5, l6⟩ := blk7 HL8.out.blk
  obtain ⟨z0, z1, z2, z3, z4, z5, z6⟩ := blk7 HZ8.out.blk
  go_wp2
  refine bodyPost_end (v := .tuple #[]) (results_none Try.results31 _ _ _) rfl ⟨rfl, Rc.ahead HbW.out ?_⟩
  refine Rc.trans HE1.out HN1.out (Rc.trans HE2.out HN2.out (Rc.trans HE3.out HN3.out (Rc.trans HE4.out HN4.out (Rc.trans HE5.out HN5.out (Rc.trans HE6.out HN6.out (Rc.trans HE7.out HN7.out (⟨v8, ?_, HE8.out, HN8.out⟩)))))))
  have e : C ++ Cp.zc 1 0 :: Cp.opp (Cp.code F d) (j : Int) (C.length + 1) = Cp.pt C7 C4.length (C7.length : Int) := by
    have e2 : C2 = C ++ Cp.zc 1 0 :: Cp.code F d j (C.length + 1) := by
      rw [← HC2.out, hl1.out, ← HC1.out]
      simp [Cp.zc, Cp.z]
    have e5 : C5 = C2 ++ [Cp.zc 3 0] ++ [Cp.nc 5 1] ++ [Cp.zc 2 0] := by
      rw [← HC5.out, ← HC4.out, ← HC3.out]
      rfl
    have e4 : C4.length = C2.length + 2 := by rw [hl4.out, hl2.out]; omega
    have l5 : (C5.length : Int) = ((C.length + 1 + (Cp.code F d j (C.length + 1)).length + 3 : Nat) : Int) := by have := hl5.out; omega
    have l7 : (C7.length : Int) = ((C.length + 1 + (Cp.code F d j (C.length + 1)).length + 4 : Nat) : Int) := by have := hl7.out; omega
    rw [l7, ← HC7.out, ← HC6.out, l5, e5, e4]
    refine Eq.trans ?_ (opp_made C2 _ _).symm
    rw [e2]
    unfold Cp.opp
    simp only [Int.toNat_natCast, List.append_assoc, List.cons_append]
  rw [e]
  exact HM8.out
end Go.Proofs.Ytonnmbkfjiddnaa
namespace Go.Proofs.Ytonnmbkfjiddnaa
open Go.RowKit Go.Lib Go.Maps
theorem Jm.keep {g n b : Nat} {v v' : Value} {w w' : World} (h : Jm g n v b w) (hE : Ef g v.ownBlock w w') (hN : Nw w v v') : Jm g n v' b w' := ⟨h.1.keep hE hN, h.2.keep hE hN⟩
/-- The closure's call. -/
theorem Jm.tell {g n b : Nat} {nv v : Value} {C : List Cd} {w : World} (h : Jm g n v b w) (hM : Mc 47 g nv v C w) (hn : n < C.length) :
    Calls Try.prog 73 #[.pointer (some ⟨b, 0, none⟩), .pointer (some ⟨b + 1, 0, none⟩)] w fun e w' => e = .returned (.tuple #[]) ∧ Rc 47 g nv v (Cp.pt C n (C.length : Int)) w w' :=
  implTellC g n b (b + 1) nv v C w hM hn h.1.cell h.2.cell h.1.nr h.2.nr
/-- Nodes whose lists of kids have room for what is in them. -/
def Nc (B : Nat) (w : World) (o : Option Addr) (F : List Nd) : Prop := Nds B w o F ∧ ∀ i, i < F.length → ∀ (a : Addr) (x : Option Addr) (k e : Nat), o = some a → w.cell? ⟨(a.add (i * 7)).block, (a.add (i * 7)).off + 6, none⟩ = some (.slice x k e) → k ≤ e
theorem Nc.below {B : Nat} {w w' : World} {o : Option Addr} {F : List Nd} (h : Nc B w o F) (hb : Below B w w') : Nc B w' o F := by
  refine ⟨h.1.below hb, fun i hi a x k e ho hc => ?_⟩
  obtain ⟨a', vn, vk, vd, ho', ha', -, -⟩ := h.1 i hi
  rw [ho] at ho'
  cases ho'
  exact h.2 i hi a x k e ho ((hb.cell (p := ⟨(a.add (i * 7)).block, (a.add (i * 7)).off + 6, none⟩) (by rw [add_blockN]; exact ha')).symm.trans hc)
/-- What the program's add does with a node of depth d. -/
def AddOk (F : List Nd) (o : Option Addr) (cap d : Nat) : Prop := ∀ (i g : Nat) (v : Value) (C : List Cd) (w : World), Cp.Wf F d i → Mc 47 g (.slice o F.length cap) v C w → Nc g w o F → C.length + (Cp.code F d i C.length).length ≤ 100000 →
    Calls Try.prog 19 #[.pointer (some ⟨g, 0, none⟩), .int .i64 i] w fun e w' => e = .returned (.tuple #[]) ∧ Rc 47 g (.slice o F.length cap) v (C ++ Cp.code F d i C.length) w w'
set_option maxHeartbeats 4000000 in
theorem implOpp (F : List Nd) (o : Option Addr) (cap d j g : Nat) (v : Value) (C : List Cd) (w : World) (ih : AddOk F o cap d) (hW : Cp.Wf F d j) (hM : Mc 47 g (.slice o F.length cap) v C w) (hF : Nc g w o F) (hlen : C.length + (Cp.code F d j C.length).length + 4 ≤ 100000) :
    Calls Try.prog 42 #[.pointer (some ⟨g, 0, none⟩), .int .i64 j] w fun e w' => e = .returned (.tuple #[]) ∧ Rc 47 g (.slice o F.length cap) v (C ++ Cp.opp (Cp.code F d) (j : Int) C.length) w w' := by
  have k1 := mkHid (ih j g v C w hW hM hF (by omega))
  obtain ⟨C2, hC2⟩ : ∃ C2, C ++ Cp.code F d j C.length = C2 := ⟨_, rfl⟩
  have hl2 : Hid (C2.length = C.length + (Cp.code F d j C.length).length) := show _ = _ by rw [← hC2, List.length_append]
  rw [hC2] at k1
  have HC2 := mkHid hC2
  have Hlen := mkHid hlen
  clear hC2 hW hM hF hlen ih
  go_enter Try.func42, Try.ntmps42
  go_wp2_with (go_at_call 19; fail)
  refine k1.out.mono ?_
  rintro e w1 ⟨rfl, v1, hM1, hE1, hN1⟩
  have HE1 := mkHid hE1
  have HN1 := mkHid hN1
  have k2 := mkHid (implJump g _ v1 C2 3 w1 hM1 (by have := hl2.out; have := Hlen.out; omega))
  clear hM1 hE1 hN1
  go_wp2_with (go_at_call 55; fail)
  refine k2.out.mono ?_
  rintro e w2 ⟨rfl, v2, hM2, hE2, hN2, hJ2⟩
  have HE2 := mkHid hE2
  have HN2 := mkHid hN2
  have J2 := mkHid hJ2
  have k3 := mkHid (implPutNumber g _ v2 _ 5 1 w2 hM2 (by have := hl2.out; have := Hlen.out; rw [List.length_append]; simp only [List.length_singleton]; omega))
  clear hM2 hE2 hN2 hJ2
  go_wp2_with (go_at_call 41; fail)
  refine k3.out.mono ?_
  rintro e w3 ⟨rfl, v3, hM3, hE3, hN3⟩
  have HE3 := mkHid hE3
  have HN3 := mkHid hN3
  have J3 := mkHid (J2.out.keep hE3 hN3)
  have k4 := mkHid (implJump g _ v3 _ 2 w3 hM3 (by have := hl2.out; have := Hlen.out; simp only [List.length_append, List.length_singleton]; omega))
  clear hM3 hE3 hN3
  go_wp2_with (go_at_call 55; fail)
  refine k4.out.mono ?_
  rintro e w4 ⟨rfl, v4, hM4, hE4, hN4, hK4⟩
  have HE4 := mkHid hE4
  have HN4 := mkHid hN4
  have J4 := mkHid (J3.out.keep hE4 hN4)
  have K4 := mkHid hK4
  have k5 := mkHid (J4.out.tell hM4 (by simp only [List.length_append, List.length_singleton]; omega))
  clear hM4 hE4 hN4 hK4
  unfold jmV
  go_wp2_with (go_at_call 73; fail)
  refine k5.out.mono ?_
  rintro e w5 ⟨rfl, v5, hM5, hE5, hN5⟩
  have HE5 := mkHid hE5
  have HN5 := mkHid hN5
  have K5 := mkHid (K4.out.keep hE5 hN5)
  have k6 := mkHid (implPutNumber g _ v5 _ 5 0 w5 hM5 (by have := hl2.out; have := Hlen.out; rw [Cp.pt_len]; simp only [List.length_append, List.length_singleton]; omega))
  clear hM5 hE5 hN5
  go_wp2_with (go_at_call 41; fail)
  refine k6.out.mono ?_
  rintro e w6 ⟨rfl, v6, hM6, hE6, hN6⟩
  have HE6 := mkHid hE6
  have HN6 := mkHid hN6
  have K6 := mkHid (K5.out.keep hE6 hN6)
  have k7 := mkHid (K6.out.tell hM6 (by simp only [List.length_append, List.length_singleton, Cp.pt_len]; omega))
  clear hM6 hE6 hN6
  go_wp2_with (go_at_call 73; fail)
  refine k7.out.mono ?_
  rintro e w7 ⟨rfl, v7, hM7, hE7, hN7⟩
  have HM7 := mkHid hM7
  have HE7 := mkHid hE7
  have HN7 := mkHid hN7
  clear hM7 hE7 hN7
  go_wp2
  refine bodyPost_end (v := .tuple #[]) (results_none Try.results42 _ _ _) rfl ⟨rfl, ?_⟩
  refine Rc.trans HE1.out HN1.out (Rc.trans HE2.out HN2.out (Rc.trans HE3.out HN3.out (Rc.trans HE4.out HN4.out (Rc.trans HE5.out HN5.out (Rc.trans HE6.out HN6.out ⟨v7, ?_, HE7.out, HN7.out⟩)))))
  have hM := HM7.out
  have hl := hl2.out
  refine Eq.mp (congrArg (fun L => Mc 47 g (.slice o F.length cap) v7 L w7) ?_) hM
  have e4 : (C2 ++ [Cp.zc 3 0] ++ [(⟨5, 0, { Cp.z with num := 1 }⟩ : Cd)]).length = C2.length + 2 := by simp
  rw [e4]
  refine Eq.trans (opp_made C2 _ _) ?_
  unfold Cp.opp
  simp only [List.length_append, List.length_singleton, Cp.pt_len, Int.toNat_natCast, ← HC2.out, List.append_assoc]
  rfl
end Go.Proofs.Ytonnmbkfjiddnaa
namespace Go.Proofs.Ytonnmbkfjiddnaa
open Go.RowKit Go.Lib Go.Maps
set_option maxHeartbeats 4000000 in
theorem implRep (F : List Nd) (o : Option Addr) (cap d j g : Nat) (num : Int) (v : Value) (C : List Cd) (w : World) (ih : AddOk F o cap d) (hW : Cp.Wf F d j) (hM : Mc 47 g (.slice o F.length cap) v C w) (hF : Nc g w o F) (hlen : C.length + (Cp.code F d j (C.length + 2)).length + 3 ≤ 100000) :
    Calls Try.prog 40 #[.pointer (some ⟨g, 0, none⟩), .int .i64 num, .int .i64 j] w fun e w' => e = .returned (.tuple #[]) ∧ Rc 47 g (.slice o F.length cap) v (C ++ Cp.again (Cp.code F d) num (j : Int) C.length) w w' := by
  have k1 := mkHid (implPutNumber g _ v C 8 num w hM (by omega))
  have HM := mkHid hM
  have HF := mkHid hF
  have HW := mkHid hW
  have Hih := mkHid ih
  have Hlen := mkHid hlen
  clear hW hM hF hlen ih
  go_enter Try.func40, Try.ntmps40
  go_wp2_with (go_at_call 41; fail)
  refine k1.out.mono ?_
  rintro e w1 ⟨rfl, v1, hM1, hE1, hN1⟩
  have HE1 := mkHid hE1
  have HN1 := mkHid hN1
  obtain ⟨C1, hC1⟩ : ∃ C1, C ++ [(⟨8, 0, { Cp.z with num := num }⟩ : Cd)] = C1 := ⟨_, rfl⟩
  have hl1 : Hid (C1.length = C.length + 1) := show _ = _ by rw [← hC1]; simp
  rw [hC1] at hM1
  have HC1 := mkHid hC1
  have HB1 := mkHid (HM.out.low hE1)
  have k2 := mkHid (implHere g _ v1 C1 w1 hM1)
  have k3 := mkHid (implJump g _ v1 C1 9 w1 hM1 (by have := hl1.out; have := Hlen.out; omega))
  have HM1 := mkHid hM1
  clear hM1 hE1 hN1 hC1
  go_wp2_with (go_at_call 56; fail)
  refine k2.out.mono ?_
  rintro e w1' ⟨rfl, rfl⟩
  go_wp2_with (go_at_call 55; fail)
  refine k3.out.mono ?_
  rintro e w2 ⟨rfl, v2, hM2, hE2, hN2, hJ2⟩
  have HE2 := mkHid hE2
  have HN2 := mkHid hN2
  have J2 := mkHid hJ2
  have HB2 := mkHid (HB1.out.trans (HM1.out.low hE2))
  have eL : (C1 ++ [Cp.zc 9 0]).length = C.length + 2 := by rw [List.length_append, hl1.out]; rfl
  have HL := mkHid eL
  have k4 := mkHid (Hih.out j g v2 _ w2 HW.out hM2 (HF.out.below HB2.out) (by rw [eL]; have := Hlen.out; omega))
  rw [eL] at k4
  clear hM2 hE2 hN2 hJ2 eL
  go_wp2_with (go_at_call 19; fail)
  refine k4.out.mono ?_
  rintro e w3 ⟨rfl, v3, hM3, hE3, hN3⟩
  have HE3 := mkHid hE3
  have HN3 := mkHid hN3
  have J3 := mkHid (J2.out.keep hE3 hN3)
  have k5 := mkHid (implPut0 g _ v3 _ 2 (C1.length : Int) 0 w3 hM3 (by have := hl1.out; have := Hlen.out; simp only [List.length_append, List.length_singleton]; omega))
  clear hM3 hE3 hN3
  go_wp2_with (go_at_call 20; fail)
  refine k5.out.mono ?_
  rintro e w4 ⟨rfl, v4, hM4, hE4, hN4⟩
  have HE4 := mkHid hE4
  have HN4 := mkHid hN4
  have J4 := mkHid (J3.out.keep hE4 hN4)
  have k6 := mkHid (J4.out.tell hM4 (by simp only [List.length_append, List.length_singleton]; omega))
  clear hM4 hE4 hN4
  unfold jmV
  go_wp2_with (go_at_call 73; fail)
  refine k6.out.mono ?_
  rintro e w5 ⟨rfl, v5, hM5, hE5, hN5⟩
  have HM5 := mkHid hM5
  have HE5 := mkHid hE5
  have HN5 := mkHid hN5
  clear hM5 hE5 hN5
  go_wp2
  refine bodyPost_end (v := .tuple #[]) (results_none Try.results40 _ _ _) rfl ⟨rfl, ?_⟩
  refine Rc.trans HE1.out HN1.out (Rc.trans HE2.out HN2.out (Rc.trans HE3.out HN3.out (Rc.trans HE4.out HN4.out ⟨v5, ?_, HE5.out, HN5.out⟩)))
  have hM := HM5.out
  refine Eq.mp (congrArg (fun L => Mc 47 g (.slice o F.length cap) v5 L w5) ?_) hM
  have hl := hl1.out
  have e5 : C1 ++ [Cp.zc 9 0] ++ Cp.code F d j (C.length + 2) ++ [(⟨2, (C1.length : Int), { Cp.z with num := 0 }⟩ : Cd)] = C1 ++ Cp.zc 9 0 :: (Cp.code F d j (C.length + 2) ++ [Cp.zc 2 ((C.length + 1 : Nat) : Int)]) := by
    rw [hl]
    simp only [List.append_assoc, List.singleton_append]
    rfl
  rw [e5, Cp.pt_mid, ← HC1.out]
  unfold Cp.again
  have e6 : (C ++ [(⟨8, 0, { Cp.z with num := num }⟩ : Cd)] ++ Cp.zc 9 0 :: (Cp.code F d j (C.length + 2) ++ [Cp.zc 2 ((C.length + 1 : Nat) : Int)])).length = C.length + 2 + (Cp.code F d j (C.length + 2)).length + 1 := by
    simp only [List.length_append, List.length_cons, List.length_nil]
    omega
  rw [e6]
  simp only [List.append_assoc, List.singleton_append, Int.toNat_natCast]
  rfl
end Go.Proofs.Ytonnmbkfjiddnaa
namespace Go.Proofs.Ytonnmbkfjiddnaa
open Go.RowKit Go.Lib Go.Maps
/-- What the specification's do does with a node of depth d. -/
def DoOk (F : List Nd) (o : Option Addr) (cap d : Nat) : Prop := ∀ (i g : Nat) (v : Value) (C : List Cd) (w : World), Cp.Wf F d i → Fn.isTest (Fn.kindAt F i) = false → Mc 41 g (.slice o F.length cap) v C w → Nds g w o F → C.length + (Cp.code F d i C.length).length ≤ 100000 →
    Calls Try.prog 15 #[.pointer (some ⟨g, 0, none⟩), .int .i64 i] w fun e w' => e = .returned (.tuple #[]) ∧ Rc 41 g (.slice o F.length cap) v (C ++ Cp.code F d i C.length) w w'
set_option maxHeartbeats 4000000 in
theorem doStop (F : List Nd) (o : Option Addr) (cap d i g : Nat) (v : Value) (C : List Cd) (w : World) (hi : i < F.length) (hM : Mc 41 g (.slice o F.length cap) v C w) (hF : Nds g w o F) (_hlF : F.length ≤ 1048576) (hk : F[i].kind = 6) (hlen : C.length ≤ 99998) :
    Calls Try.prog 15 #[.pointer (some ⟨g, 0, none⟩), .int .i64 i] w fun e w' => e = .returned (.tuple #[]) ∧ Rc 41 g (.slice o F.length cap) v (C ++ Cp.one (Cp.code F d) F[i] C.length) w w' := by
  obtain ⟨a, vn, vk, vd, rfl, ha, hA, hI⟩ := hF i hi
  obtain ⟨n0, hn0⟩ : ∃ n, F[i] = n := ⟨_, rfl⟩
  rw [hn0] at hA hI hk
  try rw [hn0]
  have x1 : (n0.kind == 1) = false := by rw [hk]; rfl
  have x2 : (n0.kind == 2) = false := by rw [hk]; rfl
  have x3 : (n0.kind == 3) = false := by rw [hk]; rfl
  have x6 : (n0.kind == 6) = true := by rw [hk]; rfl
  have hI0 := mkHid hI
  obtain ⟨⟨a4, e4, rfl, T4⟩, ⟨a5, e5, rfl, T5⟩, ⟨a6, e6, rfl, T6⟩⟩ := hI
  obtain ⟨c0, c1, c2, c3, c4, c5, c6⟩ := hA
  have H4 := mkHid T4
  have H5 := mkHid T5
  have H6 := mkHid T6
  obtain ⟨W, hW, hbW, hMW, hL, hZ⟩ := two_locals n0 (.slice a4 n0.names.length e4) (.slice a5 n0.keys.length e5) (.slice a6 n0.kids.length e6) hM
  have gc := (two_cellsM hM.blk).1
  have k1 := mkHid (specPut0 g _ v C 1 0 W hMW (by omega))
  have HW := mkHid hW
  have HL := mkHid hL
  have HZ := mkHid hZ
  have HbW := mkHid hbW
  have Hk := mkHid hk
  have HMW := mkHid hMW
  have HM := mkHid hM
  obtain ⟨z0, z1, z2, z3, z4, z5, z6⟩ := blk7 hZ.blk
  obtain ⟨l0, l1, l2, l3, l4, l5, l6⟩ := blk7 hL.blk
  have hgl := heap_ltM hM.blk
  clear hW hL hZ hMW hbW T4 T5 T6 hk hM
  go_enter Try.func15, Try.ntmps15
  go_wp2_with (go_at_call 16; fail)
  rw [HW.out]
  refine k1.out.mono ?_
  rintro e w1 ⟨rfl, v1, hM1, hE1, hN1⟩
  have HL1 := mkHid (HL.out.keep hE1 hN1)
  have HZ1 := mkHid (HZ.out.keep hE1 hN1)
  have HM1 := mkHid hM1
  have HE1 := mkHid hE1
  have HN1 := mkHid hN1
  clear hM1 hE1 hN1
  clear l0 l1 l2 l3 l4 l5 l6 z0 z1 z2 z3 z4 z5 z6
  obtain ⟨l0, l1, l2, l3, l4, l5, l6⟩ := blk7 HL1.out.blk
  obtain ⟨z0, z1, z2, z3, z4, z5, z6⟩ := blk7 HZ1.out.blk
  have k2 := mkHid (specPut0 g _ v1 _ 10 0 w1 HM1.out (by simp; omega))
  go_wp2_with (go_at_call 16; fail)
  refine k2.out.mono ?_
  rintro e w2 ⟨rfl, v2, hM2, hE2, hN2⟩
  have HL2 := mkHid (HL1.out.keep hE2 hN2)
  have HZ2 := mkHid (HZ1.out.keep hE2 hN2)
  have HM2 := mkHid hM2
  have HE2 := mkHid hE2
  have HN2 := mkHid hN2
  clear hM2 hE2 hN2
  clear l0 l1 l2 l3 l4 l5 l6 z0 z1 z2 z3 z4 z5 z6
  obtain ⟨l0, l1, l2, l3, l4, l5, l6⟩ := blk7 HL2.out.blk
  obtain ⟨z0, z1, z2, z3, z4, z5, z6⟩ := blk7 HZ2.out.blk
  go_wp2
  refine bodyPost_end (v := .tuple #[]) (results_none Try.results15 _ _ _) rfl ⟨rfl, Rc.ahead HbW.out ?_⟩
  refine Rc.trans HE1.out HN1.out (⟨v2, ?_, HE2.out, HN2.out⟩)
  have e : C ++ Cp.one (Cp.code F d) n0 C.length = C ++ [⟨1, 0, { Cp.z with num := 0 }⟩] ++ [⟨10, 0, { Cp.z with num := 0 }⟩] := by
    unfold Cp.one Cp.rest
    rw [Hk.out]
    simp [Cp.zc, Cp.z]
  rw [e]
  exact HM2.out
set_option maxHeartbeats 4000000 in
theorem doLeaf (F : List Nd) (o : Option Addr) (cap d i g : Nat) (v : Value) (C : List Cd) (w : World) (hi : i < F.length) (hM : Mc 41 g (.slice o F.length cap) v C w) (hF : Nds g w o F) (_hlF : F.length ≤ 1048576) (hk : F[i].kind = 4 ∨ F[i].kind = 5 ∨ (7 ≤ F[i].kind ∧ F[i].kind ≤ 11)) (hfit : F[i].fits 1048576) (hlen : C.length ≤ 99998) :
    Calls Try.prog 15 #[.pointer (some ⟨g, 0, none⟩), .int .i64 i] w fun e w' => e = .returned (.tuple #[]) ∧ Rc 41 g (.slice o F.length cap) v (C ++ Cp.one (Cp.code F d) F[i] C.length) w w' := by
  have hfit0 := mkHid hfit
  clear hfit
  obtain ⟨a, vn, vk, vd, rfl, ha, hA, hI⟩ := hF i hi
  obtain ⟨n0, hn0⟩ : ∃ n, F[i] = n := ⟨_, rfl⟩
  rw [hn0] at hA hI hk
  try rw [hn0]
  have x1 : (n0.kind == 1) = false := by simp; omega
  have x2 : (n0.kind == 2) = false := by simp; omega
  have x3 : (n0.kind == 3) = false := by simp; omega
  have x6 : (n0.kind == 6) = false := by simp; omega
  have hI0 := mkHid hI
  obtain ⟨⟨a4, e4, rfl, T4⟩, ⟨a5, e5, rfl, T5⟩, ⟨a6, e6, rfl, T6⟩⟩ := hI
  obtain ⟨c0, c1, c2, c3, c4, c5, c6⟩ := hA
  have H4 := mkHid T4
  have H5 := mkHid T5
  have H6 := mkHid T6
  obtain ⟨W, hW, hbW, hMW, hL, hZ⟩ := two_locals n0 (.slice a4 n0.names.length e4) (.slice a5 n0.keys.length e5) (.slice a6 n0.kids.length e6) hM
  have gc := (two_cellsM hM.blk).1
  have k1 := mkHid (specPut0 g _ v C 1 0 W hMW (by omega))
  have HW := mkHid hW
  have HL := mkHid hL
  have HZ := mkHid hZ
  have HbW := mkHid hbW
  have Hk := mkHid hk
  have HMW := mkHid hMW
  have HM := mkHid hM
  obtain ⟨z0, z1, z2, z3, z4, z5, z6⟩ := blk7 hZ.blk
  obtain ⟨l0, l1, l2, l3, l4, l5, l6⟩ := blk7 hL.blk
  have hgl := heap_ltM hM.blk
  clear hW hL hZ hMW hbW T4 T5 T6 hk hM
  go_enter Try.func15, Try.ntmps15
  go_wp2_with (go_at_call 16; fail)
  rw [HW.out]
  refine k1.out.mono ?_
  rintro e w1 ⟨rfl, v1, hM1, hE1, hN1⟩
  have HL1 := mkHid (HL.out.keep hE1 hN1)
  have HZ1 := mkHid (HZ.out.keep hE1 hN1)
  have HM1 := mkHid hM1
  have HE1 := mkHid hE1
  have HN1 := mkHid hN1
  clear hM1 hE1 hN1
  clear l0 l1 l2 l3 l4 l5 l6 z0 z1 z2 z3 z4 z5 z6
  obtain ⟨l0, l1, l2, l3, l4, l5, l6⟩ := blk7 HL1.out.blk
  obtain ⟨z0, z1, z2, z3, z4, z5, z6⟩ := blk7 HZ1.out.blk
  rw [hn0] at hfit0
  have HB1 := mkHid ((HbW.out.mono (show g ≤ w.heap.size by omega)).trans (HMW.out.low HE1.out))
  have k2 := mkHid (specBare n0 _ _ _ w1 ((hI0.out.below HB1.out).mono (by have := HB1.out.size; omega)) hfit0.out)
  unfold ndV at k2
  go_wp2_with (go_at_call 33; fail)
  refine k2.out.mono ?_
  rintro e wb ⟨un, uk, ud, rfl, hn, hk', hf, hd, hb⟩
  have k3 := mkHid (specPutN g _ v1 _ 6 n0 un uk ud w1 wb HM1.out (by simp; omega) hb hn hk' hf hd)
  unfold ndV at k3
  clear k2 hn hk' hf hd hb l0 l1 l2 l3 l4 l5 l6 z0 z1 z2 z3 z4 z5 z6
  go_wp2_with (go_at_call 16; fail)
  refine k3.out.mono ?_
  rintro e w2 ⟨rfl, v2, hM2, hE2, hN2⟩
  have HM2 := mkHid hM2
  have HE2 := mkHid hE2
  have HN2 := mkHid hN2
  clear hM2 hE2 hN2
  go_wp2
  refine bodyPost_end (v := .tuple #[]) (results_none Try.results15 _ _ _) rfl ⟨rfl, Rc.ahead HbW.out ?_⟩
  refine Rc.trans HE1.out HN1.out (⟨v2, ?_, HE2.out, HN2.out⟩)
  have e : C ++ Cp.one (Cp.code F d) n0 C.length = C ++ [⟨1, 0, { Cp.z with num := 0 }⟩] ++ [⟨6, 0, Cp.bare n0⟩] := by
    have h := Hk.out
    unfold Cp.one Cp.rest
    rw [if_neg (by omega), if_neg (by omega), if_neg (by omega), if_neg (by omega), if_neg (by omega), if_neg (by omega), if_neg (by omega), if_neg (by omega), if_neg (by omega)]
    have ht : Fn.isTest n0.kind = false := by unfold Fn.isTest; simp; omega
    simp [Cp.zc, Cp.z, Cp.leaf, ht]
  rw [e]
  exact HM2.out
end Go.Proofs.Ytonnmbkfjiddnaa
namespace Go.Proofs.Ytonnmbkfjiddnaa
open Go.RowKit Go.Lib Go.Maps
theorem cat_app (f : Nat → Nat → List Cd) : ∀ (p r : List Int) (b : Nat), Cp.cat f (p ++ r) b = Cp.cat f p b ++ Cp.cat f r (b + (Cp.cat f p b).length)
  | [], r, b => by simp [Cp.cat]
  | k :: p, r, b => by
    rw [List.cons_append, Cp.cat, cat_app f p r, Cp.cat, List.append_assoc, List.length_append, Nat.add_assoc]
theorem cat_take (f : Nat → Nat → List Cd) (l : List Int) (k b : Nat) : (Cp.cat f (l.take k) b).length ≤ (Cp.cat f l b).length := by
  have h := cat_app f (l.take k) (l.drop k) b
  rw [List.take_append_drop] at h
  rw [h, List.length_append]
  omega
theorem Ef.refl (g : Nat) (r : Option Nat) (w : World) : Ef g r w w := ⟨rfl, rfl, rfl, Nat.le_refl _, fun _ _ _ _ => rfl⟩
set_option maxHeartbeats 4000000 in
theorem doBlock (F : List Nd) (o : Option Addr) (cap d i g : Nat) (v : Value) (C : List Cd) (w : World) (hi : i < F.length) (hM : Mc 41 g (.slice o F.length cap) v C w) (hF : Nds g w o F) (_hlF : F.length ≤ 1048576) (hk : F[i].kind = 1) (ihD : DoOk F o cap d) (hw : ∀ k ∈ F[i].kids, 0 ≤ k ∧ Cp.Wf F d k.toNat ∧ Fn.isTest (Fn.kindAt F k) = false) (hkl : F[i].kids.length ≤ 1048576) (hlen : C.length + (Cp.cat (Cp.code F d) F[i].kids C.length).length ≤ 100000) :
    Calls Try.prog 15 #[.pointer (some ⟨g, 0, none⟩), .int .i64 i] w fun e w' => e = .returned (.tuple #[]) ∧ Rc 41 g (.slice o F.length cap) v (C ++ Cp.one (Cp.code F d) F[i] C.length) w w' := by
  have hF0 := mkHid hF
  have hone : Cp.one (Cp.code F d) F[i] C.length = Cp.cat (Cp.code F d) F[i].kids C.length := by
    unfold Cp.one
    rw [hk]
    rfl
  rw [hone]
  have Hw := mkHid hw
  have Hlen := mkHid hlen
  have IhD := mkHid ihD
  clear hone hw hlen ihD
  obtain ⟨a, vn, vk, vd, rfl, ha, hA, hI⟩ := hF i hi
  obtain ⟨n0, hn0⟩ : ∃ n, F[i] = n := ⟨_, rfl⟩
  rw [hn0] at hA hI hk Hw Hlen hkl
  rw [hn0]
  have x1 : (n0.kind == 1) = true := by rw [hk]; rfl
  obtain ⟨⟨a4, e4, rfl, T4⟩, ⟨a5, e5, rfl, T5⟩, ⟨a6, e6, rfl, T6⟩⟩ := hI
  obtain ⟨c0, c1, c2, c3, c4, c5, c6⟩ := hA
  obtain ⟨W, hW, hbW, hMW, hL, hZ⟩ := two_locals n0 (.slice a4 n0.names.length e4) (.slice a5 n0.keys.length e5) (.slice a6 n0.kids.length e6) hM
  have gc := (two_cellsM hM.blk).1
  have HW := mkHid hW
  have HL := mkHid hL
  have HbW := mkHid hbW
  have HMW := mkHid hMW
  have H6 := mkHid T6
  obtain ⟨l0, l1, l2, l3, l4, l5, l6⟩ := blk7 hL.blk
  rw [← hW] at l0 l6
  have hgl := heap_ltM hM.blk
  clear hW hL hZ hMW hbW T4 T5 T6 hk hM l1 l2 l3 l4 l5
  go_enter Try.func15, Try.ntmps15
  go_wp2
  rw [HW.out]
  clear l0 l6
  go_loopw [6] (fun iv wr => ∃ (k : Nat) (v' : Value), k ≤ n0.kids.length ∧ iv = .int .i64 k ∧ Hid (Mc 41 g (.slice (some a) F.length cap) v' (C ++ Cp.cat (Cp.code F d) (n0.kids.take k) C.length) wr) ∧ Hid (Ef g v.ownBlock W wr) ∧ Hid (Nw W v v') ∧ Hid (Lo g v' w.heap.size (ndCs n0 (.slice a4 n0.names.length e4) (.slice a5 n0.keys.length e5) (.slice a6 n0.kids.length e6)) wr)) (fun iv _ => n0.kids.length - (Lib.intOf iv).toNat)
  case atStart =>
    refine ⟨0, v, Nat.zero_le _, rfl, ?_, Ef.refl _ _ _, .inl rfl, HL⟩
    show Mc _ _ _ _ _ _
    rw [List.take_zero, Cp.cat, List.append_nil]
    exact HMW.out
  case round =>
    obtain ⟨k, v', hkk, rfl, hMr, hEr, hNr, hLr⟩ := hrel
    obtain ⟨l0, l1, l2, l3, l4, l5, l6⟩ := blk7 hLr.out.blk
    by_cases hlt : k < n0.kids.length
    · have hEM := hMr.out
      have hBr := mkHid ((HbW.out.mono (show g ≤ w.heap.size by omega)).trans (HMW.out.low hEr.out))
      obtain ⟨a7, rfl, hb7, hc7⟩ := H6.out k hlt
      obtain ⟨hn0, hwf, htst⟩ := Hw.out n0.kids[k] (List.getElem_mem hlt)
      obtain ⟨j, hj⟩ : ∃ j : Nat, n0.kids[k] = (j : Int) := ⟨n0.kids[k].toNat, by omega⟩
      have hsn : n0.kids.take (k + 1) = n0.kids.take k ++ [(j : Int)] := by rw [← hj]; exact (List.take_append_getElem hlt).symm
      rw [hj] at hwf htst hc7
      rw [Int.toNat_natCast] at hwf
      have y := (hBr.out.cell (p := a7.add k) (by rw [add_blockG]; exact hb7)).trans hc7
      obtain ⟨C1, hC1⟩ : ∃ C1, C ++ Cp.cat (Cp.code F d) (n0.kids.take k) C.length = C1 := ⟨_, rfl⟩
      have hl1 : C1.length = C.length + (Cp.cat (Cp.code F d) (n0.kids.take k) C.length).length := by rw [← hC1, List.length_append]
      have hnext : Hid (C ++ Cp.cat (Cp.code F d) (n0.kids.take (k + 1)) C.length = C1 ++ Cp.code F d j C1.length) := by
        show _ = _
        rw [hsn, Cp.cat_snoc, Int.toNat_natCast, ← List.append_assoc, hC1, hl1]
      have hbnd : C1.length + (Cp.code F d j C1.length).length ≤ 100000 := by
        have h1 := cat_take (Cp.code F d) n0.kids (k + 1) C.length
        have h2 := congrArg List.length hnext.out
        rw [List.length_append, List.length_append] at h2
        have := Hlen.out
        omega
      rw [hC1] at hMr
      have kD := mkHid (IhD.out j g v' C1 wr hwf htst hMr.out (hF0.out.below hBr.out) hbnd)
      clear hwf htst hc7 hn0 hj hsn hC1 hl1 hbnd hEM
      go_wp2_with (go_at_call 15; fail)
      refine kD.out.mono ?_
      rintro e w2 ⟨rfl, v2, hM2, hE2, hN2⟩
      rw [← hnext.out] at hM2
      have HM2 := mkHid hM2
      have HL2 := mkHid (hLr.out.keep hE2 hN2)
      have HE2 := mkHid (Ef.trans hEr.out hNr.out hE2)
      have HN2 := mkHid (Nw.trans hNr.out hEr.out.size hN2)
      clear hM2 hE2 hN2 kD l0 l1 l2 l3 l4 l5 l6 y hMr hEr hNr hLr
      go_wp2
      go_roundw
      case rel => exact ⟨k + 1, v2, by omega, by go_num, HM2, HE2, HN2, HL2⟩
      case measure => simp [Lib.intOf]; omega
    · have hall : Hid (n0.kids.take k = n0.kids) := show _ = _ from List.take_of_length_le (by omega)
      rw [hall.out] at hMr
      go_wp2
      refine bodyPost_ret (v := .tuple #[]) (results_none Try.results15 _ _ _) rfl ⟨rfl, Rc.ahead HbW.out ⟨v', hMr.out, hEr.out, hNr.out⟩⟩
end Go.Proofs.Ytonnmbkfjiddnaa
namespace Go.Proofs.Ytonnmbkfjiddnaa
open Go.RowKit Go.Lib Go.Maps
set_option maxHeartbeats 4000000 in
theorem implAll (F : List Nd) (o : Option Addr) (cap d g : Nat) (ks : List Int) (a6 : Option Addr) (e6 : Nat) (v : Value) (C : List Cd) (w : World) (ih : AddOk F o cap d) (hM : Mc 47 g (.slice o F.length cap) v C w) (hF : Nc g w o F) (hT : Ints g w a6 ks) (hkl : ks.length ≤ 1048576)
    (hw : ∀ k ∈ ks, 0 ≤ k ∧ Cp.Wf F d k.toNat) (hlen : C.length + (Cp.cat (Cp.code F d) ks C.length).length ≤ 100000) :
    Calls Try.prog 38 #[.pointer (some ⟨g, 0, none⟩), .slice a6 ks.length e6] w fun e w' => e = .returned (.tuple #[]) ∧ Rc 47 g (.slice o F.length cap) v (C ++ Cp.cat (Cp.code F d) ks C.length) w w' := by
  have hF0 := mkHid hF
  have Hw := mkHid hw
  have Hlen := mkHid hlen
  have IhD := mkHid ih
  have HMW := mkHid hM
  have H6 := mkHid hT
  clear hF hw hlen ih hM hT
  go_enter Try.func38, Try.ntmps38
  go_wp2
  go_loopw [8] (fun iv wr => ∃ (k : Nat) (v' : Value), k ≤ ks.length ∧ iv = .int .i64 k ∧ Hid (Mc 47 g (.slice o F.length cap) v' (C ++ Cp.cat (Cp.code F d) (ks.take k) C.length) wr) ∧ Hid (Ef g v.ownBlock w wr) ∧ Hid (Nw w v v')) (fun iv _ => ks.length - (Lib.intOf iv).toNat)
  case atStart =>
    refine ⟨0, v, Nat.zero_le _, rfl, ?_, Ef.refl _ _ _, .inl rfl⟩
    show Mc _ _ _ _ _ _
    rw [List.take_zero, Cp.cat, List.append_nil]
    exact HMW.out
  case round =>
    obtain ⟨k, v', hkk, rfl, hMr, hEr, hNr⟩ := hrel
    by_cases hlt : k < ks.length
    · have hBr := mkHid (HMW.out.low hEr.out)
      obtain ⟨a7, rfl, hb7, hc7⟩ := H6.out k hlt
      obtain ⟨hn0, hwf⟩ := Hw.out ks[k] (List.getElem_mem hlt)
      obtain ⟨j, hj⟩ : ∃ j : Nat, ks[k] = (j : Int) := ⟨ks[k].toNat, by omega⟩
      have hsn : ks.take (k + 1) = ks.take k ++ [(j : Int)] := by rw [← hj]; exact (List.take_append_getElem hlt).symm
      rw [hj] at hwf hc7
      rw [Int.toNat_natCast] at hwf
      have y := (hBr.out.cell (p := a7.add k) (by rw [add_blockG]; exact hb7)).trans hc7
      obtain ⟨C1, hC1⟩ : ∃ C1, C ++ Cp.cat (Cp.code F d) (ks.take k) C.length = C1 := ⟨_, rfl⟩
      have hl1 : C1.length = C.length + (Cp.cat (Cp.code F d) (ks.take k) C.length).length := by rw [← hC1, List.length_append]
      have hnext : Hid (C ++ Cp.cat (Cp.code F d) (ks.take (k + 1)) C.length = C1 ++ Cp.code F d j C1.length) := by
        show _ = _
        rw [hsn, Cp.cat_snoc, Int.toNat_natCast, ← List.append_assoc, hC1, hl1]
      have hbnd : C1.length + (Cp.code F d j C1.length).length ≤ 100000 := by
        have h1 := cat_take (Cp.code F d) ks (k + 1) C.length
        have h2 := congrArg List.length hnext.out
        rw [List.length_append, List.length_append] at h2
        have := Hlen.out
        omega
      rw [hC1] at hMr
      have kD := mkHid (IhD.out j g v' C1 wr hwf hMr.out (hF0.out.below hBr.out) hbnd)
      clear hwf hc7 hn0 hj hsn hC1 hl1 hbnd
      go_wp2_with (go_at_call 19; fail)
      refine kD.out.mono ?_
      rintro e w2 ⟨rfl, v2, hM2, hE2, hN2⟩
      rw [← hnext.out] at hM2
      have HM2 := mkHid hM2
      have HE2 := mkHid (Ef.trans hEr.out hNr.out hE2)
      have HN2 := mkHid (Nw.trans hNr.out hEr.out.size hN2)
      clear hM2 hE2 hN2 kD y hMr hEr hNr
      go_wp2
      go_roundw
      case rel => exact ⟨k + 1, v2, by omega, by go_num, HM2, HE2, HN2⟩
      case measure => simp [Lib.intOf]; omega
    · have hall : Hid (ks.take k = ks) := show _ = _ from List.take_of_length_le (by omega)
      rw [hall.out] at hMr
      go_wp2
      refine bodyPost_end (v := .tuple #[]) (results_none Try.results38 _ _ _) rfl ⟨rfl, v', hMr.out, hEr.out, hNr.out⟩
end Go.Proofs.Ytonnmbkfjiddnaa
