
/- The program's coder: add, a kind at a time. (By tools/gen/implcompadd.py.) -/
import Derived.Test.YtonnmbkfjiddnaaCompImplB
import Derived.Test.YtonnmbkfjiddnaaCompImplD
import Derived.Test.YtonnmbkfjiddnaaCompImpl7
namespace Go.Proofs.Ytonnmbkfjiddnaa
open Go.RowKit Go.Lib Go.Maps
theorem one_local {g : Nat} {nv v : Value} {C : List Cd} {w : World} {t : TypeId} (n : Nd) (vn vk vd : Value) (h : Mc t g nv v C w) :
    ∃ W, w.alloc (.cells (nCs n vn vk vd) 44) = W ∧ Below w.heap.size w W ∧ Mc t g nv v C W ∧ Lo g v w.heap.size (nCs n vn vk vd) W := by
  refine ⟨_, rfl, ?_⟩
  have hb : Below w.heap.size w (w.alloc (.cells (nCs n vn vk vd) 44)) := (Below.refl _ _).alloc (Nat.le_refl _) _
  have hg := heap_ltM h.blk
  have hr : ∀ k, w.heap.size ≤ k → some k ≠ v.ownBlock := fun k hk e => by
    obtain ⟨E, -, hM⟩ := h
    have := (World.ownsRow.lt hM.cw.row k e.symm).2
    omega
  exact ⟨hb, h.below hb, ⟨heap_alloc_at _ _, by omega, hr _ (Nat.le_refl _)⟩⟩
set_option maxHeartbeats 4000000 in
theorem addBlk (F : List Nd) (o : Option Addr) (cap d i g : Nat) (v : Value) (C : List Cd) (w : World) (hi : i < F.length) (hM : Mc 47 g (.slice o F.length cap) v C w) (hF : Nc g w o F) (_hlF : F.length ≤ 1048576) (hk : F[i].kind = 1) (ih : AddOk F o cap d) (hw : ∀ k ∈ F[i].kids, 0 ≤ k ∧ Cp.Wf F d k.toNat) (hkl : F[i].kids.length ≤ 1048576) (hlen : C.length + (Cp.cat (Cp.code F d) F[i].kids C.length).length ≤ 100000) :
    Calls Try.prog 19 #[.pointer (some ⟨g, 0, none⟩), .int .i64 i] w fun e w' => e = .returned (.tuple #[]) ∧ Rc 47 g (.slice o F.length cap) v (C ++ Cp.one (Cp.code F d) F[i] C.length) w w' := by
  have hone : Cp.one (Cp.code F d) F[i] C.length = Cp.cat (Cp.code F d) F[i].kids C.length := by
    unfold Cp.one
    rw [hk]
    rfl
  rw [hone]
  have HF := mkHid hF
  have H_ih := mkHid ih
  have H_hw := mkHid hw
  have H_hkl := mkHid hkl
  have H_hlen := mkHid hlen
  clear hone ih hw hkl hlen
  obtain ⟨a, vn, vk, vd, rfl, ha, hA, hI⟩ := hF.1 i hi
  have hcap := mkHid (hF.2 i hi a)
  obtain ⟨n0, hn0⟩ : ∃ n, F[i] = n := ⟨_, rfl⟩
  rw [hn0] at hA hI hk
  try rw [hn0]
  have x1 : (n0.kind == 1) = true := by rw [hk]; rfl
  have Hk := mkHid hk
  clear hk
  rw [hn0] at H_hw H_hkl H_hlen
  obtain ⟨⟨a4, e4, rfl, T4⟩, ⟨a5, e5, rfl, T5⟩, ⟨a6, e6, rfl, T6⟩⟩ := hI
  obtain ⟨c0, c1, c2, c3, c4, c5, c6⟩ := hA
  have h6 := mkHid (hcap.out a6 n0.kids.length e6 rfl c6)
  have H6 := mkHid T6
  obtain ⟨W, hW, hbW, hMW, hL⟩ := one_local n0 (.slice a4 n0.names.length e4) (.slice a5 n0.keys.length e5) (.slice a6 n0.kids.length e6) hM
  have gc := (two_cellsM hM.blk).1
  have hgl := heap_ltM hM.blk
  have HW := mkHid hW
  have HL := mkHid hL
  have HbW := mkHid hbW
  have HMW := mkHid hMW
  have HgW := mkHid (hbW.mono (show g ≤ w.heap.size by omega))
  have k1 := mkHid (implAll F (some a) cap d g n0.kids a6 e6 v C W H_ih.out hMW (HF.out.below HgW.out) (T6.below HgW.out) H_hkl.out H_hw.out H_hlen.out)
  obtain ⟨l0, l1, l2, l3, l4, l5, l6⟩ := blk7 hL.blk
  clear hL hMW hbW T4 T5 T6 hM
  subst hW
  go_enter Try.func19, Try.ntmps19
  go_wp2_with (go_at_call 38; fail)
  refine k1.out.mono ?_
  rintro e w1 ⟨rfl, h1⟩
  have H1 := mkHid h1
  clear h1 l0 l1 l2 l3 l4 l5 l6 k1
  go_wp2
  refine bodyPost_ret (v := .tuple #[]) (results_none Try.results19 _ _ _) rfl ⟨rfl, Rc.ahead HbW.out H1.out⟩
set_option maxHeartbeats 4000000 in
theorem addIf2 (F : List Nd) (o : Option Addr) (cap d i g : Nat) (v : Value) (C : List Cd) (w : World) (hi : i < F.length) (hM : Mc 47 g (.slice o F.length cap) v C w) (hF : Nc g w o F) (_hlF : F.length ≤ 1048576) (hk : F[i].kind = 2) (j0 j1 : Nat) (hkids : F[i].kids = [(j0 : Int), (j1 : Int)]) (ih : AddOk F o cap d) (hw0 : Cp.Wf F d j0) (hw1 : Cp.Wf F d j1) (hlen : C.length + 1 + (Cp.choice (Cp.code F d) (j0 : Int) (j1 : Int) [] (C.length + 1)).length ≤ 100000) :
    Calls Try.prog 19 #[.pointer (some ⟨g, 0, none⟩), .int .i64 i] w fun e w' => e = .returned (.tuple #[]) ∧ Rc 47 g (.slice o F.length cap) v (C ++ Cp.one (Cp.code F d) F[i] C.length) w w' := by
  have hone : Cp.one (Cp.code F d) F[i] C.length = Cp.zc 1 0 :: Cp.choice (Cp.code F d) (j0 : Int) (j1 : Int) [] (C.length + 1) := by
    unfold Cp.one Cp.rest
    rw [hk, hkids]
    rfl
  rw [hone]
  have HF := mkHid hF
  have H_ih := mkHid ih
  have H_hw0 := mkHid hw0
  have H_hw1 := mkHid hw1
  have H_hlen := mkHid hlen
  clear hone ih hw0 hw1 hlen
  obtain ⟨a, vn, vk, vd, rfl, ha, hA, hI⟩ := hF.1 i hi
  have hcap := mkHid (hF.2 i hi a)
  obtain ⟨n0, hn0⟩ : ∃ n, F[i] = n := ⟨_, rfl⟩
  rw [hn0] at hA hI hk hkids
  try rw [hn0]
  have x1 : (n0.kind == 1) = false := by rw [hk]; rfl
  have x2 : (n0.kind == 2) = true := by rw [hk]; rfl
  have Hk := mkHid hk
  clear hk
  obtain ⟨⟨a4, e4, rfl, T4⟩, ⟨a5, e5, rfl, T5⟩, ⟨a6, e6, rfl, T6⟩⟩ := hI
  obtain ⟨c0, c1, c2, c3, c4, c5, c6⟩ := hA
  have hl6 : n0.kids.length = 2 := by rw [hkids]; rfl
  rw [hl6] at c6
  rw [hkids] at T6
  clear hl6
  have h6 := mkHid (hcap.out a6 2 e6 rfl c6)
  have H6 := mkHid T6
  obtain ⟨W, hW, hbW, hMW, hL⟩ := one_local n0 (.slice a4 n0.names.length e4) (.slice a5 n0.keys.length e5) (.slice a6 2 e6) hM
  have gc := (two_cellsM hM.blk).1
  have hgl := heap_ltM hM.blk
  have HW := mkHid hW
  have HL := mkHid hL
  have HbW := mkHid hbW
  have HMW := mkHid hMW
  have HgW := mkHid (hbW.mono (show g ≤ w.heap.size by omega))
  have k1 := mkHid (implPut0 g _ v C 1 0 0 W hMW (by have := H_hlen.out; omega))
  clear hW hL hMW hbW T4 T5 T6 hM
  go_enter Try.func19, Try.ntmps19
  go_wp2_with (go_at_call 20; fail)
  rw [HW.out]
  refine k1.out.mono ?_
  rintro e w1 ⟨rfl, v1, hM1, hE1, hN1⟩
  have HL1 := mkHid (HL.out.keep hE1 hN1)
  have HE1 := mkHid hE1
  have HN1 := mkHid hN1
  have HB1 := mkHid (HgW.out.trans (HMW.out.low hE1))
  obtain ⟨C1, hC1⟩ : ∃ C1, C ++ [(⟨1, 0, { Cp.z with num := 0 }⟩ : Cd)] = C1 := ⟨_, rfl⟩
  have hl1 : C1.length = C.length + 1 := by rw [← hC1]; simp
  rw [hC1] at hM1
  have HC1 := mkHid hC1
  have Hl1 := mkHid hl1
  have HM1 := mkHid hM1
  obtain ⟨l0, l1, l2, l3, l4, l5, l6⟩ := blk7 HL1.out.blk
  clear hM1 hE1 hN1 hC1 k1
  have k2 := mkHid (implIf2 F (some a) cap d g j0 j1 a6 e6 v1 C1 w1 H_ih.out HM1.out (HF.out.below HB1.out) (H6.out.below HB1.out) H_hw0.out H_hw1.out (by rw [hl1]; exact H_hlen.out))
  clear hl1
  go_wp2_with (go_at_call 39; fail)
  refine k2.out.mono ?_
  rintro e w2 ⟨rfl, h2⟩
  have H2 := mkHid h2
  clear h2 k2
  go_wp2
  refine bodyPost_end (v := .tuple #[]) (results_none Try.results19 _ _ _) rfl ⟨rfl, Rc.ahead HbW.out (Rc.trans HE1.out HN1.out ?_)⟩
  refine Eq.mp (congrArg (fun L => Rc 47 g (.slice (some a) F.length cap) v1 L w1 w2) ?_) H2.out
  rw [Hl1.out, ← HC1.out, List.append_assoc]
  rfl
set_option maxHeartbeats 4000000 in
theorem addIf3 (F : List Nd) (o : Option Addr) (cap d i g : Nat) (v : Value) (C : List Cd) (w : World) (hi : i < F.length) (hM : Mc 47 g (.slice o F.length cap) v C w) (hF : Nc g w o F) (_hlF : F.length ≤ 1048576) (hk : F[i].kind = 2) (j0 j1 j2 : Nat) (hkids : F[i].kids = [(j0 : Int), (j1 : Int), (j2 : Int)]) (ih : AddOk F o cap d) (hw0 : Cp.Wf F d j0) (hw1 : Cp.Wf F d j1) (hw2 : Cp.Wf F d j2) (hlen : C.length + 1 + (Cp.choice (Cp.code F d) (j0 : Int) (j1 : Int) [(j2 : Int)] (C.length + 1)).length ≤ 100000) :
    Calls Try.prog 19 #[.pointer (some ⟨g, 0, none⟩), .int .i64 i] w fun e w' => e = .returned (.tuple #[]) ∧ Rc 47 g (.slice o F.length cap) v (C ++ Cp.one (Cp.code F d) F[i] C.length) w w' := by
  have hone : Cp.one (Cp.code F d) F[i] C.length = Cp.zc 1 0 :: Cp.choice (Cp.code F d) (j0 : Int) (j1 : Int) [(j2 : Int)] (C.length + 1) := by
    unfold Cp.one Cp.rest
    rw [hk, hkids]
    rfl
  rw [hone]
  have HF := mkHid hF
  have H_ih := mkHid ih
  have H_hw0 := mkHid hw0
  have H_hw1 := mkHid hw1
  have H_hw2 := mkHid hw2
  have H_hlen := mkHid hlen
  clear hone ih hw0 hw1 hw2 hlen
  obtain ⟨a, vn, vk, vd, rfl, ha, hA, hI⟩ := hF.1 i hi
  have hcap := mkHid (hF.2 i hi a)
  obtain ⟨n0, hn0⟩ : ∃ n, F[i] = n := ⟨_, rfl⟩
  rw [hn0] at hA hI hk hkids
  try rw [hn0]
  have x1 : (n0.kind == 1) = false := by rw [hk]; rfl
  have x2 : (n0.kind == 2) = true := by rw [hk]; rfl
  have Hk := mkHid hk
  clear hk
  obtain ⟨⟨a4, e4, rfl, T4⟩, ⟨a5, e5, rfl, T5⟩, ⟨a6, e6, rfl, T6⟩⟩ := hI
  obtain ⟨c0, c1, c2, c3, c4, c5, c6⟩ := hA
  have hl6 : n0.kids.length = 3 := by rw [hkids]; rfl
  rw [hl6] at c6
  rw [hkids] at T6
  clear hl6
  have h6 := mkHid (hcap.out a6 3 e6 rfl c6)
  have H6 := mkHid T6
  obtain ⟨W, hW, hbW, hMW, hL⟩ := one_local n0 (.slice a4 n0.names.length e4) (.slice a5 n0.keys.length e5) (.slice a6 3 e6) hM
  have gc := (two_cellsM hM.blk).1
  have hgl := heap_ltM hM.blk
  have HW := mkHid hW
  have HL := mkHid hL
  have HbW := mkHid hbW
  have HMW := mkHid hMW
  have HgW := mkHid (hbW.mono (show g ≤ w.heap.size by omega))
  have k1 := mkHid (implPut0 g _ v C 1 0 0 W hMW (by have := H_hlen.out; omega))
  clear hW hL hMW hbW T4 T5 T6 hM
  go_enter Try.func19, Try.ntmps19
  go_wp2_with (go_at_call 20; fail)
  rw [HW.out]
  refine k1.out.mono ?_
  rintro e w1 ⟨rfl, v1, hM1, hE1, hN1⟩
  have HL1 := mkHid (HL.out.keep hE1 hN1)
  have HE1 := mkHid hE1
  have HN1 := mkHid hN1
  have HB1 := mkHid (HgW.out.trans (HMW.out.low hE1))
  obtain ⟨C1, hC1⟩ : ∃ C1, C ++ [(⟨1, 0, { Cp.z with num := 0 }⟩ : Cd)] = C1 := ⟨_, rfl⟩
  have hl1 : C1.length = C.length + 1 := by rw [← hC1]; simp
  rw [hC1] at hM1
  have HC1 := mkHid hC1
  have Hl1 := mkHid hl1
  have HM1 := mkHid hM1
  obtain ⟨l0, l1, l2, l3, l4, l5, l6⟩ := blk7 HL1.out.blk
  clear hM1 hE1 hN1 hC1 k1
  have k2 := mkHid (implIf3 F (some a) cap d g j0 j1 j2 a6 e6 v1 C1 w1 h6.out H_ih.out HM1.out (HF.out.below HB1.out) (H6.out.below HB1.out) H_hw0.out H_hw1.out H_hw2.out (by rw [hl1]; exact H_hlen.out))
  clear hl1
  go_wp2_with (go_at_call 39; fail)
  refine k2.out.mono ?_
  rintro e w2 ⟨rfl, h2⟩
  have H2 := mkHid h2
  clear h2 k2
  go_wp2
  refine bodyPost_end (v := .tuple #[]) (results_none Try.results19 _ _ _) rfl ⟨rfl, Rc.ahead HbW.out (Rc.trans HE1.out HN1.out ?_)⟩
  refine Eq.mp (congrArg (fun L => Rc 47 g (.slice (some a) F.length cap) v1 L w1 w2) ?_) H2.out
  rw [Hl1.out, ← HC1.out, List.append_assoc]
  rfl
set_option maxHeartbeats 4000000 in
theorem addStop (F : List Nd) (o : Option Addr) (cap d i g : Nat) (v : Value) (C : List Cd) (w : World) (hi : i < F.length) (hM : Mc 47 g (.slice o F.length cap) v C w) (hF : Nc g w o F) (_hlF : F.length ≤ 1048576) (hk : F[i].kind = 6) (hlen : C.length ≤ 99998) :
    Calls Try.prog 19 #[.pointer (some ⟨g, 0, none⟩), .int .i64 i] w fun e w' => e = .returned (.tuple #[]) ∧ Rc 47 g (.slice o F.length cap) v (C ++ Cp.one (Cp.code F d) F[i] C.length) w w' := by
  have hone : Cp.one (Cp.code F d) F[i] C.length = Cp.zc 1 0 :: [Cp.zc 10 0] := by
    unfold Cp.one Cp.rest
    rw [hk]
    rfl
  rw [hone]
  have HF := mkHid hF
  have H_hlen := mkHid hlen
  clear hone hlen
  obtain ⟨a, vn, vk, vd, rfl, ha, hA, hI⟩ := hF.1 i hi
  have hcap := mkHid (hF.2 i hi a)
  obtain ⟨n0, hn0⟩ : ∃ n, F[i] = n := ⟨_, rfl⟩
  rw [hn0] at hA hI hk
  try rw [hn0]
  have x1 : (n0.kind == 1) = false := by rw [hk]; rfl
  have x2 : (n0.kind == 2) = false := by rw [hk]; rfl
  have x3 : (n0.kind == 3) = false := by rw [hk]; rfl
  have x6 : (n0.kind == 6) = true := by rw [hk]; rfl
  have Hk := mkHid hk
  clear hk
  obtain ⟨⟨a4, e4, rfl, T4⟩, ⟨a5, e5, rfl, T5⟩, ⟨a6, e6, rfl, T6⟩⟩ := hI
  obtain ⟨c0, c1, c2, c3, c4, c5, c6⟩ := hA
  have h6 := mkHid (hcap.out a6 n0.kids.length e6 rfl c6)
  have H6 := mkHid T6
  obtain ⟨W, hW, hbW, hMW, hL⟩ := one_local n0 (.slice a4 n0.names.length e4) (.slice a5 n0.keys.length e5) (.slice a6 n0.kids.length e6) hM
  have gc := (two_cellsM hM.blk).1
  have hgl := heap_ltM hM.blk
  have HW := mkHid hW
  have HL := mkHid hL
  have HbW := mkHid hbW
  have HMW := mkHid hMW
  have HgW := mkHid (hbW.mono (show g ≤ w.heap.size by omega))
  have k1 := mkHid (implPut0 g _ v C 1 0 0 W hMW (by have := H_hlen.out; omega))
  clear hW hL hMW hbW T4 T5 T6 hM
  go_enter Try.func19, Try.ntmps19
  go_wp2_with (go_at_call 20; fail)
  rw [HW.out]
  refine k1.out.mono ?_
  rintro e w1 ⟨rfl, v1, hM1, hE1, hN1⟩
  have HL1 := mkHid (HL.out.keep hE1 hN1)
  have HE1 := mkHid hE1
  have HN1 := mkHid hN1
  have HB1 := mkHid (HgW.out.trans (HMW.out.low hE1))
  obtain ⟨C1, hC1⟩ : ∃ C1, C ++ [(⟨1, 0, { Cp.z with num := 0 }⟩ : Cd)] = C1 := ⟨_, rfl⟩
  have hl1 : C1.length = C.length + 1 := by rw [← hC1]; simp
  rw [hC1] at hM1
  have HC1 := mkHid hC1
  have Hl1 := mkHid hl1
  have HM1 := mkHid hM1
  obtain ⟨l0, l1, l2, l3, l4, l5, l6⟩ := blk7 HL1.out.blk
  clear hM1 hE1 hN1 hC1 k1
  have k2 := mkHid (implPut0 g _ v1 C1 10 0 0 w1 HM1.out (by have := H_hlen.out; omega))
  clear hl1
  go_wp2_with (go_at_call 20; fail)
  refine k2.out.mono ?_
  rintro e w2 ⟨rfl, h2⟩
  have H2 := mkHid h2
  clear h2 k2
  go_wp2
  refine bodyPost_end (v := .tuple #[]) (results_none Try.results19 _ _ _) rfl ⟨rfl, Rc.ahead HbW.out (Rc.trans HE1.out HN1.out ?_)⟩
  refine Eq.mp (congrArg (fun L => Rc 47 g (.slice (some a) F.length cap) v1 L w1 w2) ?_) H2.out
  rw [← HC1.out, List.append_assoc]
  rfl
set_option maxHeartbeats 4000000 in
theorem addTrue (F : List Nd) (o : Option Addr) (cap d i g : Nat) (v : Value) (C : List Cd) (w : World) (hi : i < F.length) (hM : Mc 47 g (.slice o F.length cap) v C w) (hF : Nc g w o F) (_hlF : F.length ≤ 1048576) (hk : F[i].kind = 20) (hlen : C.length ≤ 99998) :
    Calls Try.prog 19 #[.pointer (some ⟨g, 0, none⟩), .int .i64 i] w fun e w' => e = .returned (.tuple #[]) ∧ Rc 47 g (.slice o F.length cap) v (C ++ Cp.one (Cp.code F d) F[i] C.length) w w' := by
  have hone : Cp.one (Cp.code F d) F[i] C.length = Cp.zc 1 0 :: [Cp.nc 5 1] := by
    unfold Cp.one Cp.rest
    rw [hk]
    rfl
  rw [hone]
  have HF := mkHid hF
  have H_hlen := mkHid hlen
  clear hone hlen
  obtain ⟨a, vn, vk, vd, rfl, ha, hA, hI⟩ := hF.1 i hi
  have hcap := mkHid (hF.2 i hi a)
  obtain ⟨n0, hn0⟩ : ∃ n, F[i] = n := ⟨_, rfl⟩
  rw [hn0] at hA hI hk
  try rw [hn0]
  have x1 : (n0.kind == 1) = false := by rw [hk]; rfl
  have x2 : (n0.kind == 2) = false := by rw [hk]; rfl
  have x3 : (n0.kind == 3) = false := by rw [hk]; rfl
  have x6 : (n0.kind == 6) = false := by rw [hk]; rfl
  have x20 : (n0.kind == 20) = true := by rw [hk]; rfl
  have Hk := mkHid hk
  clear hk
  obtain ⟨⟨a4, e4, rfl, T4⟩, ⟨a5, e5, rfl, T5⟩, ⟨a6, e6, rfl, T6⟩⟩ := hI
  obtain ⟨c0, c1, c2, c3, c4, c5, c6⟩ := hA
  have h6 := mkHid (hcap.out a6 n0.kids.length e6 rfl c6)
  have H6 := mkHid T6
  obtain ⟨W, hW, hbW, hMW, hL⟩ := one_local n0 (.slice a4 n0.names.length e4) (.slice a5 n0.keys.length e5) (.slice a6 n0.kids.length e6) hM
  have gc := (two_cellsM hM.blk).1
  have hgl := heap_ltM hM.blk
  have HW := mkHid hW
  have HL := mkHid hL
  have HbW := mkHid hbW
  have HMW := mkHid hMW
  have HgW := mkHid (hbW.mono (show g ≤ w.heap.size by omega))
  have k1 := mkHid (implPut0 g _ v C 1 0 0 W hMW (by have := H_hlen.out; omega))
  clear hW hL hMW hbW T4 T5 T6 hM
  go_enter Try.func19, Try.ntmps19
  go_wp2_with (go_at_call 20; fail)
  rw [HW.out]
  refine k1.out.mono ?_
  rintro e w1 ⟨rfl, v1, hM1, hE1, hN1⟩
  have HL1 := mkHid (HL.out.keep hE1 hN1)
  have HE1 := mkHid hE1
  have HN1 := mkHid hN1
  have HB1 := mkHid (HgW.out.trans (HMW.out.low hE1))
  obtain ⟨C1, hC1⟩ : ∃ C1, C ++ [(⟨1, 0, { Cp.z with num := 0 }⟩ : Cd)] = C1 := ⟨_, rfl⟩
  have hl1 : C1.length = C.length + 1 := by rw [← hC1]; simp
  rw [hC1] at hM1
  have HC1 := mkHid hC1
  have Hl1 := mkHid hl1
  have HM1 := mkHid hM1
  obtain ⟨l0, l1, l2, l3, l4, l5, l6⟩ := blk7 HL1.out.blk
  clear hM1 hE1 hN1 hC1 k1
  have k2 := mkHid (implPutNumber g _ v1 C1 5 1 w1 HM1.out (by have := H_hlen.out; omega))
  clear hl1
  go_wp2_with (go_at_call 41; fail)
  refine k2.out.mono ?_
  rintro e w2 ⟨rfl, h2⟩
  have H2 := mkHid h2
  clear h2 k2
  go_wp2
  refine bodyPost_end (v := .tuple #[]) (results_none Try.results19 _ _ _) rfl ⟨rfl, Rc.ahead HbW.out (Rc.trans HE1.out HN1.out ?_)⟩
  refine Eq.mp (congrArg (fun L => Rc 47 g (.slice (some a) F.length cap) v1 L w1 w2) ?_) H2.out
  rw [← HC1.out, List.append_assoc]
  rfl
set_option maxHeartbeats 4000000 in
theorem addFalse (F : List Nd) (o : Option Addr) (cap d i g : Nat) (v : Value) (C : List Cd) (w : World) (hi : i < F.length) (hM : Mc 47 g (.slice o F.length cap) v C w) (hF : Nc g w o F) (_hlF : F.length ≤ 1048576) (hk : F[i].kind = 21) (hlen : C.length ≤ 99998) :
    Calls Try.prog 19 #[.pointer (some ⟨g, 0, none⟩), .int .i64 i] w fun e w' => e = .returned (.tuple #[]) ∧ Rc 47 g (.slice o F.length cap) v (C ++ Cp.one (Cp.code F d) F[i] C.length) w w' := by
  have hone : Cp.one (Cp.code F d) F[i] C.length = Cp.zc 1 0 :: [Cp.nc 5 0] := by
    unfold Cp.one Cp.rest
    rw [hk]
    rfl
  rw [hone]
  have HF := mkHid hF
  have H_hlen := mkHid hlen
  clear hone hlen
  obtain ⟨a, vn, vk, vd, rfl, ha, hA, hI⟩ := hF.1 i hi
  have hcap := mkHid (hF.2 i hi a)
  obtain ⟨n0, hn0⟩ : ∃ n, F[i] = n := ⟨_, rfl⟩
  rw [hn0] at hA hI hk
  try rw [hn0]
  have x1 : (n0.kind == 1) = false := by rw [hk]; rfl
  have x2 : (n0.kind == 2) = false := by rw [hk]; rfl
  have x3 : (n0.kind == 3) = false := by rw [hk]; rfl
  have x6 : (n0.kind == 6) = false := by rw [hk]; rfl
  have x20 : (n0.kind == 20) = false := by rw [hk]; rfl
  have x21 : (n0.kind == 21) = true := by rw [hk]; rfl
  have Hk := mkHid hk
  clear hk
  obtain ⟨⟨a4, e4, rfl, T4⟩, ⟨a5, e5, rfl, T5⟩, ⟨a6, e6, rfl, T6⟩⟩ := hI
  obtain ⟨c0, c1, c2, c3, c4, c5, c6⟩ := hA
  have h6 := mkHid (hcap.out a6 n0.kids.length e6 rfl c6)
  have H6 := mkHid T6
  obtain ⟨W, hW, hbW, hMW, hL⟩ := one_local n0 (.slice a4 n0.names.length e4) (.slice a5 n0.keys.length e5) (.slice a6 n0.kids.length e6) hM
  have gc := (two_cellsM hM.blk).1
  have hgl := heap_ltM hM.blk
  have HW := mkHid hW
  have HL := mkHid hL
  have HbW := mkHid hbW
  have HMW := mkHid hMW
  have HgW := mkHid (hbW.mono (show g ≤ w.heap.size by omega))
  have k1 := mkHid (implPut0 g _ v C 1 0 0 W hMW (by have := H_hlen.out; omega))
  clear hW hL hMW hbW T4 T5 T6 hM
  go_enter Try.func19, Try.ntmps19
  go_wp2_with (go_at_call 20; fail)
  rw [HW.out]
  refine k1.out.mono ?_
  rintro e w1 ⟨rfl, v1, hM1, hE1, hN1⟩
  have HL1 := mkHid (HL.out.keep hE1 hN1)
  have HE1 := mkHid hE1
  have HN1 := mkHid hN1
  have HB1 := mkHid (HgW.out.trans (HMW.out.low hE1))
  obtain ⟨C1, hC1⟩ : ∃ C1, C ++ [(⟨1, 0, { Cp.z with num := 0 }⟩ : Cd)] = C1 := ⟨_, rfl⟩
  have hl1 : C1.length = C.length + 1 := by rw [← hC1]; simp
  rw [hC1] at hM1
  have HC1 := mkHid hC1
  have Hl1 := mkHid hl1
  have HM1 := mkHid hM1
  obtain ⟨l0, l1, l2, l3, l4, l5, l6⟩ := blk7 HL1.out.blk
  clear hM1 hE1 hN1 hC1 k1
  have k2 := mkHid (implPutNumber g _ v1 C1 5 0 w1 HM1.out (by have := H_hlen.out; omega))
  clear hl1
  go_wp2_with (go_at_call 41; fail)
  refine k2.out.mono ?_
  rintro e w2 ⟨rfl, h2⟩
  have H2 := mkHid h2
  clear h2 k2
  go_wp2
  refine bodyPost_end (v := .tuple #[]) (results_none Try.results19 _ _ _) rfl ⟨rfl, Rc.ahead HbW.out (Rc.trans HE1.out HN1.out ?_)⟩
  refine Eq.mp (congrArg (fun L => Rc 47 g (.slice (some a) F.length cap) v1 L w1 w2) ?_) H2.out
  rw [← HC1.out, List.append_assoc]
  rfl
set_option maxHeartbeats 4000000 in
theorem addNot (F : List Nd) (o : Option Addr) (cap d i g : Nat) (v : Value) (C : List Cd) (w : World) (hi : i < F.length) (hM : Mc 47 g (.slice o F.length cap) v C w) (hF : Nc g w o F) (_hlF : F.length ≤ 1048576) (hk : F[i].kind = 22) (j0 : Nat) (hkids : F[i].kids = [(j0 : Int)]) (ih : AddOk F o cap d) (hw0 : Cp.Wf F d j0) (hlen : C.length + 1 + (Cp.opp (Cp.code F d) (j0 : Int) (C.length + 1)).length ≤ 100000) :
    Calls Try.prog 19 #[.pointer (some ⟨g, 0, none⟩), .int .i64 i] w fun e w' => e = .returned (.tuple #[]) ∧ Rc 47 g (.slice o F.length cap) v (C ++ Cp.one (Cp.code F d) F[i] C.length) w w' := by
  have hone : Cp.one (Cp.code F d) F[i] C.length = Cp.zc 1 0 :: Cp.opp (Cp.code F d) (j0 : Int) (C.length + 1) := by
    unfold Cp.one Cp.rest
    rw [hk, hkids]
    rfl
  rw [hone]
  have HF := mkHid hF
  have H_ih := mkHid ih
  have H_hw0 := mkHid hw0
  have H_hlen := mkHid hlen
  clear hone ih hw0 hlen
  obtain ⟨a, vn, vk, vd, rfl, ha, hA, hI⟩ := hF.1 i hi
  have hcap := mkHid (hF.2 i hi a)
  obtain ⟨n0, hn0⟩ : ∃ n, F[i] = n := ⟨_, rfl⟩
  rw [hn0] at hA hI hk hkids
  try rw [hn0]
  have x1 : (n0.kind == 1) = false := by rw [hk]; rfl
  have x2 : (n0.kind == 2) = false := by rw [hk]; rfl
  have x3 : (n0.kind == 3) = false := by rw [hk]; rfl
  have x6 : (n0.kind == 6) = false := by rw [hk]; rfl
  have x20 : (n0.kind == 20) = false := by rw [hk]; rfl
  have x21 : (n0.kind == 21) = false := by rw [hk]; rfl
  have x22 : (n0.kind == 22) = true := by rw [hk]; rfl
  have Hk := mkHid hk
  clear hk
  obtain ⟨⟨a4, e4, rfl, T4⟩, ⟨a5, e5, rfl, T5⟩, ⟨a6, e6, rfl, T6⟩⟩ := hI
  obtain ⟨c0, c1, c2, c3, c4, c5, c6⟩ := hA
  have hl6 : n0.kids.length = 1 := by rw [hkids]; rfl
  rw [hl6] at c6
  rw [hkids] at T6
  clear hl6
  have h6 := mkHid (hcap.out a6 1 e6 rfl c6)
  have H6 := mkHid T6
  obtain ⟨W, hW, hbW, hMW, hL⟩ := one_local n0 (.slice a4 n0.names.length e4) (.slice a5 n0.keys.length e5) (.slice a6 1 e6) hM
  have gc := (two_cellsM hM.blk).1
  have hgl := heap_ltM hM.blk
  have HW := mkHid hW
  have HL := mkHid hL
  have HbW := mkHid hbW
  have HMW := mkHid hMW
  have HgW := mkHid (hbW.mono (show g ≤ w.heap.size by omega))
  have k1 := mkHid (implPut0 g _ v C 1 0 0 W hMW (by have := H_hlen.out; omega))
  clear hW hL hMW hbW T4 T5 T6 hM
  go_enter Try.func19, Try.ntmps19
  go_wp2_with (go_at_call 20; fail)
  rw [HW.out]
  refine k1.out.mono ?_
  rintro e w1 ⟨rfl, v1, hM1, hE1, hN1⟩
  have HL1 := mkHid (HL.out.keep hE1 hN1)
  have HE1 := mkHid hE1
  have HN1 := mkHid hN1
  have HB1 := mkHid (HgW.out.trans (HMW.out.low hE1))
  obtain ⟨C1, hC1⟩ : ∃ C1, C ++ [(⟨1, 0, { Cp.z with num := 0 }⟩ : Cd)] = C1 := ⟨_, rfl⟩
  have hl1 : C1.length = C.length + 1 := by rw [← hC1]; simp
  rw [hC1] at hM1
  have HC1 := mkHid hC1
  have Hl1 := mkHid hl1
  have HM1 := mkHid hM1
  obtain ⟨l0, l1, l2, l3, l4, l5, l6⟩ := blk7 HL1.out.blk
  clear hM1 hE1 hN1 hC1 k1
  obtain ⟨a7, rfl, hb7, hc7⟩ := H6.out 0 (by simp)
  rw [show a7.add 0 = a7 by unfold Addr.add; split <;> simp_all] at hc7
  have y0 := (HB1.out.cell (p := a7) hb7).trans hc7
  simp only [List.getElem_cons_zero] at y0
  clear hc7
  have k2 := mkHid (implOpp F (some a) cap d j0 g v1 C1 w1 H_ih.out H_hw0.out HM1.out (HF.out.below HB1.out) (by have h := H_hlen.out; rw [← hl1] at h; unfold Cp.opp at h; simp only [List.length_append, List.length_cons, List.length_nil, Int.toNat_natCast] at h; omega))
  clear hl1
  go_wp2_with (go_at_call 42; fail)
  refine k2.out.mono ?_
  rintro e w2 ⟨rfl, h2⟩
  have H2 := mkHid h2
  clear h2 k2
  go_wp2
  refine bodyPost_end (v := .tuple #[]) (results_none Try.results19 _ _ _) rfl ⟨rfl, Rc.ahead HbW.out (Rc.trans HE1.out HN1.out ?_)⟩
  refine Eq.mp (congrArg (fun L => Rc 47 g (.slice (some a) F.length cap) v1 L w1 w2) ?_) H2.out
  rw [Hl1.out, ← HC1.out, List.append_assoc]
  rfl
set_option maxHeartbeats 4000000 in
theorem addAllK (F : List Nd) (o : Option Addr) (cap d i g : Nat) (v : Value) (C : List Cd) (w : World) (hi : i < F.length) (hM : Mc 47 g (.slice o F.length cap) v C w) (hF : Nc g w o F) (_hlF : F.length ≤ 1048576) (hk : F[i].kind = 23) (ih : AddOk F o cap d) (hw : ∀ k ∈ F[i].kids, 0 ≤ k ∧ Cp.Wf F d k.toNat) (hkl : F[i].kids.length ≤ 100000) (hlen : C.length + 1 + (Cp.part (Cp.code F d) 4 F[i].kids (C.length + 1)).length ≤ 100000) :
    Calls Try.prog 19 #[.pointer (some ⟨g, 0, none⟩), .int .i64 i] w fun e w' => e = .returned (.tuple #[]) ∧ Rc 47 g (.slice o F.length cap) v (C ++ Cp.one (Cp.code F d) F[i] C.length) w w' := by
  have hone : Cp.one (Cp.code F d) F[i] C.length = Cp.zc 1 0 :: Cp.sevs (Cp.code F d) 4 F[i].kids (C.length + 1) := by
    unfold Cp.one Cp.rest
    rw [hk]
    rfl
  rw [hone]
  have HF := mkHid hF
  have H_ih := mkHid ih
  have H_hw := mkHid hw
  have H_hkl := mkHid hkl
  have H_hlen := mkHid hlen
  clear hone ih hw hkl hlen
  obtain ⟨a, vn, vk, vd, rfl, ha, hA, hI⟩ := hF.1 i hi
  have hcap := mkHid (hF.2 i hi a)
  obtain ⟨n0, hn0⟩ : ∃ n, F[i] = n := ⟨_, rfl⟩
  rw [hn0] at hA hI hk
  try rw [hn0]
  have x1 : (n0.kind == 1) = false := by rw [hk]; rfl
  have x2 : (n0.kind == 2) = false := by rw [hk]; rfl
  have x3 : (n0.kind == 3) = false := by rw [hk]; rfl
  have x6 : (n0.kind == 6) = false := by rw [hk]; rfl
  have x20 : (n0.kind == 20) = false := by rw [hk]; rfl
  have x21 : (n0.kind == 21) = false := by rw [hk]; rfl
  have x22 : (n0.kind == 22) = false := by rw [hk]; rfl
  have x23 : (n0.kind == 23) = true := by rw [hk]; rfl
  have Hk := mkHid hk
  clear hk
  rw [hn0] at H_hw H_hkl H_hlen
  obtain ⟨⟨a4, e4, rfl, T4⟩, ⟨a5, e5, rfl, T5⟩, ⟨a6, e6, rfl, T6⟩⟩ := hI
  obtain ⟨c0, c1, c2, c3, c4, c5, c6⟩ := hA
  have h6 := mkHid (hcap.out a6 n0.kids.length e6 rfl c6)
  have H6 := mkHid T6
  obtain ⟨W, hW, hbW, hMW, hL⟩ := one_local n0 (.slice a4 n0.names.length e4) (.slice a5 n0.keys.length e5) (.slice a6 n0.kids.length e6) hM
  have gc := (two_cellsM hM.blk).1
  have hgl := heap_ltM hM.blk
  have HW := mkHid hW
  have HL := mkHid hL
  have HbW := mkHid hbW
  have HMW := mkHid hMW
  have HgW := mkHid (hbW.mono (show g ≤ w.heap.size by omega))
  have k1 := mkHid (implPut0 g _ v C 1 0 0 W hMW (by have := H_hlen.out; omega))
  clear hW hL hMW hbW T4 T5 T6 hM
  go_enter Try.func19, Try.ntmps19
  go_wp2_with (go_at_call 20; fail)
  rw [HW.out]
  refine k1.out.mono ?_
  rintro e w1 ⟨rfl, v1, hM1, hE1, hN1⟩
  have HL1 := mkHid (HL.out.keep hE1 hN1)
  have HE1 := mkHid hE1
  have HN1 := mkHid hN1
  have HB1 := mkHid (HgW.out.trans (HMW.out.low hE1))
  obtain ⟨C1, hC1⟩ : ∃ C1, C ++ [(⟨1, 0, { Cp.z with num := 0 }⟩ : Cd)] = C1 := ⟨_, rfl⟩
  have hl1 : C1.length = C.length + 1 := by rw [← hC1]; simp
  rw [hC1] at hM1
  have HC1 := mkHid hC1
  have Hl1 := mkHid hl1
  have HM1 := mkHid hM1
  obtain ⟨l0, l1, l2, l3, l4, l5, l6⟩ := blk7 HL1.out.blk
  clear hM1 hE1 hN1 hC1 k1
  have k2 := mkHid (implSev F (some a) cap d g 4 n0.kids a6 e6 v1 C1 w1 H_ih.out HM1.out (HF.out.below HB1.out) (H6.out.below HB1.out) H_hkl.out H_hw.out (by rw [hl1]; exact H_hlen.out))
  clear hl1
  go_wp2_with (go_at_call 43; fail)
  refine k2.out.mono ?_
  rintro e w2 ⟨rfl, h2⟩
  have H2 := mkHid h2
  clear h2 k2
  go_wp2
  refine bodyPost_end (v := .tuple #[]) (results_none Try.results19 _ _ _) rfl ⟨rfl, Rc.ahead HbW.out (Rc.trans HE1.out HN1.out ?_)⟩
  refine Eq.mp (congrArg (fun L => Rc 47 g (.slice (some a) F.length cap) v1 L w1 w2) ?_) H2.out
  rw [Hl1.out, ← HC1.out, List.append_assoc]
  rfl
set_option maxHeartbeats 4000000 in
theorem addAnyK (F : List Nd) (o : Option Addr) (cap d i g : Nat) (v : Value) (C : List Cd) (w : World) (hi : i < F.length) (hM : Mc 47 g (.slice o F.length cap) v C w) (hF : Nc g w o F) (_hlF : F.length ≤ 1048576) (hk : F[i].kind = 24) (ih : AddOk F o cap d) (hw : ∀ k ∈ F[i].kids, 0 ≤ k ∧ Cp.Wf F d k.toNat) (hkl : F[i].kids.length ≤ 100000) (hlen : C.length + 1 + (Cp.part (Cp.code F d) 3 F[i].kids (C.length + 1)).length ≤ 100000) :
    Calls Try.prog 19 #[.pointer (some ⟨g, 0, none⟩), .int .i64 i] w fun e w' => e = .returned (.tuple #[]) ∧ Rc 47 g (.slice o F.length cap) v (C ++ Cp.one (Cp.code F d) F[i] C.length) w w' := by
  have hone : Cp.one (Cp.code F d) F[i] C.length = Cp.zc 1 0 :: Cp.sevs (Cp.code F d) 3 F[i].kids (C.length + 1) := by
    unfold Cp.one Cp.rest
    rw [hk]
    rfl
  rw [hone]
  have HF := mkHid hF
  have H_ih := mkHid ih
  have H_hw := mkHid hw
  have H_hkl := mkHid hkl
  have H_hlen := mkHid hlen
  clear hone ih hw hkl hlen
  obtain ⟨a, vn, vk, vd, rfl, ha, hA, hI⟩ := hF.1 i hi
  have hcap := mkHid (hF.2 i hi a)
  obtain ⟨n0, hn0⟩ : ∃ n, F[i] = n := ⟨_, rfl⟩
  rw [hn0] at hA hI hk
  try rw [hn0]
  have x1 : (n0.kind == 1) = false := by rw [hk]; rfl
  have x2 : (n0.kind == 2) = false := by rw [hk]; rfl
  have x3 : (n0.kind == 3) = false := by rw [hk]; rfl
  have x6 : (n0.kind == 6) = false := by rw [hk]; rfl
  have x20 : (n0.kind == 20) = false := by rw [hk]; rfl
  have x21 : (n0.kind == 21) = false := by rw [hk]; rfl
  have x22 : (n0.kind == 22) = false := by rw [hk]; rfl
  have x23 : (n0.kind == 23) = false := by rw [hk]; rfl
  have x24 : (n0.kind == 24) = true := by rw [hk]; rfl
  have Hk := mkHid hk
  clear hk
  rw [hn0] at H_hw H_hkl H_hlen
  obtain ⟨⟨a4, e4, rfl, T4⟩, ⟨a5, e5, rfl, T5⟩, ⟨a6, e6, rfl, T6⟩⟩ := hI
  obtain ⟨c0, c1, c2, c3, c4, c5, c6⟩ := hA
  have h6 := mkHid (hcap.out a6 n0.kids.length e6 rfl c6)
  have H6 := mkHid T6
  obtain ⟨W, hW, hbW, hMW, hL⟩ := one_local n0 (.slice a4 n0.names.length e4) (.slice a5 n0.keys.length e5) (.slice a6 n0.kids.length e6) hM
  have gc := (two_cellsM hM.blk).1
  have hgl := heap_ltM hM.blk
  have HW := mkHid hW
  have HL := mkHid hL
  have HbW := mkHid hbW
  have HMW := mkHid hMW
  have HgW := mkHid (hbW.mono (show g ≤ w.heap.size by omega))
  have k1 := mkHid (implPut0 g _ v C 1 0 0 W hMW (by have := H_hlen.out; omega))
  clear hW hL hMW hbW T4 T5 T6 hM
  go_enter Try.func19, Try.ntmps19
  go_wp2_with (go_at_call 20; fail)
  rw [HW.out]
  refine k1.out.mono ?_
  rintro e w1 ⟨rfl, v1, hM1, hE1, hN1⟩
  have HL1 := mkHid (HL.out.keep hE1 hN1)
  have HE1 := mkHid hE1
  have HN1 := mkHid hN1
  have HB1 := mkHid (HgW.out.trans (HMW.out.low hE1))
  obtain ⟨C1, hC1⟩ : ∃ C1, C ++ [(⟨1, 0, { Cp.z with num := 0 }⟩ : Cd)] = C1 := ⟨_, rfl⟩
  have hl1 : C1.length = C.length + 1 := by rw [← hC1]; simp
  rw [hC1] at hM1
  have HC1 := mkHid hC1
  have Hl1 := mkHid hl1
  have HM1 := mkHid hM1
  obtain ⟨l0, l1, l2, l3, l4, l5, l6⟩ := blk7 HL1.out.blk
  clear hM1 hE1 hN1 hC1 k1
  have k2 := mkHid (implSev F (some a) cap d g 3 n0.kids a6 e6 v1 C1 w1 H_ih.out HM1.out (HF.out.below HB1.out) (H6.out.below HB1.out) H_hkl.out H_hw.out (by rw [hl1]; exact H_hlen.out))
  clear hl1
  go_wp2_with (go_at_call 43; fail)
  refine k2.out.mono ?_
  rintro e w2 ⟨rfl, h2⟩
  have H2 := mkHid h2
  clear h2 k2
  go_wp2
  refine bodyPost_end (v := .tuple #[]) (results_none Try.results19 _ _ _) rfl ⟨rfl, Rc.ahead HbW.out (Rc.trans HE1.out HN1.out ?_)⟩
  refine Eq.mp (congrArg (fun L => Rc 47 g (.slice (some a) F.length cap) v1 L w1 w2) ?_) H2.out
  rw [Hl1.out, ← HC1.out, List.append_assoc]
  rfl
end Go.Proofs.Ytonnmbkfjiddnaa
