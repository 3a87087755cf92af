
/- The program's coder: add, at a repeat and at a leaf. (By tools/gen/implcompleaf.py.) -/
import Derived.Test.YtonnmbkfjiddnaaCompImplE
import Derived.OrdersHeld
namespace Go.Proofs.Ytonnmbkfjiddnaa
open Go.RowKit Go.Lib Go.Maps
theorem Rc.drew {t : TypeId} {g : Nat} {nv v : Value} {C : List Cd} {w w' : World} (h : Rc t g nv v C w w') : Rc t g nv v C w w'.drew := by
  obtain ⟨v', hM, hE, hN⟩ := h
  exact ⟨v', hM.below ((Below.refl _ _).drew), ⟨hE.os, hE.tape, hE.output, hE.size, hE.keep⟩, hN⟩
set_option maxHeartbeats 4000000 in
theorem addRep (F : List Nd) (o : Option Addr) (cap d i g : Nat) (v : Value) (C : List Cd) (w : World) (hi : i < F.length) (hM : Mc 47 g (.slice o F.length cap) v C w) (hF : Nc g w o F) (_hlF : F.length ≤ 1048576) (hk : F[i].kind = 3) (j0 : Nat) (hkids : F[i].kids = [(j0 : Int)]) (ih : AddOk F o cap d) (hw0 : Cp.Wf F d j0) (hlen : C.length + 1 + (Cp.again (Cp.code F d) F[i].num (j0 : Int) (C.length + 1)).length ≤ 100000) :
    Calls Try.prog 19 #[.pointer (some ⟨g, 0, none⟩), .int .i64 i] w fun e w' => e = .returned (.tuple #[]) ∧ Rc 47 g (.slice o F.length cap) v (C ++ Cp.one (Cp.code F d) F[i] C.length) w w' := by
  have hone : Cp.one (Cp.code F d) F[i] C.length = Cp.zc 1 0 :: Cp.again (Cp.code F d) F[i].num (j0 : Int) (C.length + 1) := by
    unfold Cp.one Cp.rest
    rw [hk, hkids]
    rfl
  rw [hone]
  have HF := mkHid hF
  have H_ih := mkHid ih
  have H_hw0 := mkHid hw0
  have H_hlen := mkHid hlen
  clear hone ih hw0 hlen
  obtain ⟨a, vn, vk, vd, rfl, ha, hA, hI⟩ := hF.1 i hi
  have hcap := mkHid (hF.2 i hi a)
  obtain ⟨n0, hn0⟩ : ∃ n, F[i] = n := ⟨_, rfl⟩
  rw [hn0] at hA hI hk hkids
  try rw [hn0]
  have x1 : (n0.kind == 1) = false := by rw [hk]; rfl
  have x2 : (n0.kind == 2) = false := by rw [hk]; rfl
  have x3 : (n0.kind == 3) = true := by rw [hk]; rfl
  have Hk := mkHid hk
  rw [hn0] at H_hlen
  clear hk
  obtain ⟨⟨a4, e4, rfl, T4⟩, ⟨a5, e5, rfl, T5⟩, ⟨a6, e6, rfl, T6⟩⟩ := hI
  obtain ⟨c0, c1, c2, c3, c4, c5, c6⟩ := hA
  have hl6 : n0.kids.length = 1 := by rw [hkids]; rfl
  rw [hl6] at c6
  rw [hkids] at T6
  clear hl6
  have h6 := mkHid (hcap.out a6 1 e6 rfl c6)
  have H6 := mkHid T6
  obtain ⟨W, hW, hbW, hMW, hL⟩ := one_local n0 (.slice a4 n0.names.length e4) (.slice a5 n0.keys.length e5) (.slice a6 1 e6) hM
  have gc := (two_cellsM hM.blk).1
  have hgl := heap_ltM hM.blk
  have HW := mkHid hW
  have HL := mkHid hL
  have HbW := mkHid hbW
  have HMW := mkHid hMW
  have HgW := mkHid (hbW.mono (show g ≤ w.heap.size by omega))
  have k1 := mkHid (implPut0 g _ v C 1 0 0 W hMW (by have := H_hlen.out; omega))
  clear hW hL hMW hbW T4 T5 T6 hM
  go_enter Try.func19, Try.ntmps19
  go_wp2_with (go_at_call 20; fail)
  rw [HW.out]
  refine k1.out.mono ?_
  rintro e w1 ⟨rfl, v1, hM1, hE1, hN1⟩
  have HL1 := mkHid (HL.out.keep hE1 hN1)
  have HE1 := mkHid hE1
  have HN1 := mkHid hN1
  have HB1 := mkHid (HgW.out.trans (HMW.out.low hE1))
  obtain ⟨C1, hC1⟩ : ∃ C1, C ++ [(⟨1, 0, { Cp.z with num := 0 }⟩ : Cd)] = C1 := ⟨_, rfl⟩
  have hl1 : C1.length = C.length + 1 := by rw [← hC1]; simp
  rw [hC1] at hM1
  have HC1 := mkHid hC1
  have Hl1 := mkHid hl1
  have HM1 := mkHid hM1
  obtain ⟨l0, l1, l2, l3, l4, l5, l6⟩ := blk7 HL1.out.blk
  clear hM1 hE1 hN1 hC1 k1
  obtain ⟨a7, rfl, hb7, hc7⟩ := H6.out 0 (by simp)
  rw [show a7.add 0 = a7 by unfold Addr.add; split <;> simp_all] at hc7
  have y0 := (HB1.out.cell (p := a7) hb7).trans hc7
  simp only [List.getElem_cons_zero] at y0
  clear hc7
  obtain ⟨S, hS⟩ : ∃ S, w.heap.size = S := ⟨_, rfl⟩
  rw [hS] at l1 l6
  have cS : w1.drew.cell? ⟨S, 1, none⟩ = some (.int .i64 n0.num) ∧ w1.drew.cell? ⟨S, 6, none⟩ = some (.slice (some a7) 1 e6) ∧ w1.drew.cell? a7 = some (.int .i64 (j0 : Int)) := ⟨l1, l6, y0⟩
  have bD : Below w1.heap.size w1 w1.drew := (Below.refl _ _).drew
  have BD := mkHid bD
  have k2 := mkHid (implRep F (some a) cap d j0 g n0.num v1 C1 w1.drew H_ih.out H_hw0.out (HM1.out.below bD) (HF.out.below (HB1.out.trans (bD.mono (by have := heap_ltM HM1.out.blk; omega)))) (by have h := H_hlen.out; rw [← hl1] at h; unfold Cp.again at h; simp only [List.length_append, List.length_cons, List.length_nil, Int.toNat_natCast] at h; omega))
  have hs1 : S < w1.heap.size := by have := heap_ltM HL1.out.blk; omega
  rw [hS] at HL1
  have hg7 : a7.block < g := hb7
  clear hl1 bD
  try simp only [hS]
  have HS := mkHid hS
  rw [hS] at l0
  go_wp2
  try simp only [HS.out]
  refine wp_region_held (S := fun w => w.cell? ⟨S, 1, none⟩ = some (.int .i64 n0.num) ∧ w.cell? ⟨S, 6, none⟩ = some (.slice (some a7) 1 e6) ∧ w.cell? a7 = some (.int .i64 (j0 : Int))) (by kernel_rfl) ?_
  refine wpAnyH_take (i := 0) (v := .pointer (some ⟨g, 0, none⟩)) rfl (by kernel_rfl) (by kernel_rfl) (by kernel_rfl) (fun _ _ _ h => h) (Or.inl ⟨by rfl, ?_⟩) cS ?_
  · intro w sS
    obtain ⟨s0, s1, s2⟩ := sS
    go_simp
    all_goals first | done | (intro h; exfalso; omega) | omega
  go_simp
  refine wpAnyH_take (i := 1) (v := .pointer (some ⟨S, 1, none⟩)) rfl (by kernel_rfl) (by kernel_rfl) (by kernel_rfl) (fun _ _ _ h => h) (Or.inl ⟨by rfl, ?_⟩) cS ?_
  · intro w sS
    obtain ⟨s0, s1, s2⟩ := sS
    go_simp
    all_goals first | done | (intro h; exfalso; omega) | omega
  go_simp
  refine wpAnyH_take (i := 2) (v := .int .i64 n0.num) rfl (by kernel_rfl) (by kernel_rfl) (by kernel_rfl) (fun _ _ _ h => h) (Or.inl ⟨by rfl, ?_⟩) cS ?_
  · intro w sS
    obtain ⟨s0, s1, s2⟩ := sS
    go_simp
    all_goals first | done | (intro h; exfalso; omega) | omega
  go_simp
  refine wpAnyH_take (i := 3) (v := .pointer (some ⟨S, 6, none⟩)) rfl (by kernel_rfl) (by kernel_rfl) (by kernel_rfl) (fun _ _ _ h => h) (Or.inl ⟨by rfl, ?_⟩) cS ?_
  · intro w sS
    obtain ⟨s0, s1, s2⟩ := sS
    go_simp
    all_goals first | done | (intro h; exfalso; omega) | omega
  go_simp
  refine wpAnyH_take (i := 4) (v := .slice (some a7) 1 e6) rfl (by kernel_rfl) (by kernel_rfl) (by kernel_rfl) (fun _ _ _ h => h) (Or.inl ⟨by rfl, ?_⟩) cS ?_
  · intro w sS
    obtain ⟨s0, s1, s2⟩ := sS
    go_simp
    all_goals first | done | (intro h; exfalso; omega) | omega
  go_simp
  refine wpAnyH_take (i := 5) (v := .pointer (some a7)) rfl (by kernel_rfl) (by kernel_rfl) (by kernel_rfl) (fun _ _ _ h => h) (Or.inl ⟨by rfl, ?_⟩) cS ?_
  · intro w sS
    obtain ⟨s0, s1, s2⟩ := sS
    go_simp
    all_goals first | done | (intro h; exfalso; omega) | omega
  go_simp
  refine wpAnyH_take (i := 6) (v := .int .i64 (j0 : Int)) rfl (by kernel_rfl) (by kernel_rfl) (by kernel_rfl) (fun _ _ _ h => h) (Or.inl ⟨by rfl, ?_⟩) cS ?_
  · intro w sS
    obtain ⟨s0, s1, s2⟩ := sS
    go_simp
    all_goals first | done | (intro h; exfalso; omega) | omega
  go_simp
  refine wpAnyH_all (rs := [7]) (by kernel_rfl) (by simp) ?_
  intro q hq
  simp only [List.mem_cons, List.not_mem_nil, or_false] at hq
  subst hq
  refine wpOp_step rfl (fun K hK => ?_)
  go_simp
  refine k2.out.mono ?_
  rintro e w2 ⟨rfl, v2, hM2, hE2, hN2⟩
  have HL2 := (HL1.out.below BD.out).keep hE2 hN2
  have hB2 := (HM1.out.below BD.out).low hE2
  refine hK _ _ ⟨⟨(blk7 HL2.blk).2.1, (blk7 HL2.blk).2.2.2.2.2.2, (hB2.cell (p := a7) hg7).trans cS.2.2⟩, ?_⟩
  have H2 := mkHid (Rc.ahead BD.out ⟨v2, hM2, hE2, hN2⟩)
  clear hK K hM2 hE2 hN2 HL2 hB2 k2
  go_simp
  refine wpAnyH_done (by kernel_rfl) ?_ _
  go_wp2
  refine bodyPost_end (v := .tuple #[]) (results_none Try.results19 _ _ _) rfl ⟨rfl, Rc.ahead HbW.out (Rc.trans HE1.out HN1.out ?_)⟩
  refine Eq.mp (congrArg (fun L => Rc 47 g (.slice (some a) F.length cap) v1 L w1 w2) ?_) H2.out
  rw [Hl1.out, ← HC1.out, List.append_assoc]
  rfl
set_option maxHeartbeats 4000000 in
theorem addLeaf (F : List Nd) (o : Option Addr) (cap d i g : Nat) (v : Value) (C : List Cd) (w : World) (hi : i < F.length) (hM : Mc 47 g (.slice o F.length cap) v C w) (hF : Nc g w o F) (_hlF : F.length ≤ 1048576) (hk : F[i].kind ≠ 1 ∧ F[i].kind ≠ 2 ∧ F[i].kind ≠ 3 ∧ F[i].kind ≠ 6 ∧ F[i].kind ≠ 20 ∧ F[i].kind ≠ 21 ∧ F[i].kind ≠ 22 ∧ F[i].kind ≠ 23 ∧ F[i].kind ≠ 24) (hfit : F[i].fits 1048576) (hlen : C.length ≤ 99998) :
    Calls Try.prog 19 #[.pointer (some ⟨g, 0, none⟩), .int .i64 i] w fun e w' => e = .returned (.tuple #[]) ∧ Rc 47 g (.slice o F.length cap) v (C ++ Cp.one (Cp.code F d) F[i] C.length) w w' := by
  have hone : Cp.one (Cp.code F d) F[i] C.length = Cp.zc 1 0 :: [Cp.leaf F[i]] := by
    obtain ⟨n1, n2, n3, n6, n20, n21, n22, n23, n24⟩ := hk
    unfold Cp.one Cp.rest
    rw [if_neg n1, if_neg n2, if_neg n3, if_neg n6, if_neg n20, if_neg n21, if_neg n22, if_neg n23, if_neg n24]
  rw [hone]
  have HF := mkHid hF
  have H_hlen := mkHid hlen
  have Hfit := mkHid hfit
  clear hone hlen hfit
  obtain ⟨a, vn, vk, vd, rfl, ha, hA, hI⟩ := hF.1 i hi
  have hcap := mkHid (hF.2 i hi a)
  obtain ⟨n0, hn0⟩ : ∃ n, F[i] = n := ⟨_, rfl⟩
  rw [hn0] at hA hI hk Hfit
  try rw [hn0]
  obtain ⟨n1, n2, n3, n6, n20, n21, n22, n23, n24⟩ := hk
  have x1 : (n0.kind == 1) = false := beq_eq_false_iff_ne.2 n1
  have x2 : (n0.kind == 2) = false := beq_eq_false_iff_ne.2 n2
  have x3 : (n0.kind == 3) = false := beq_eq_false_iff_ne.2 n3
  have x6 : (n0.kind == 6) = false := beq_eq_false_iff_ne.2 n6
  have x20 : (n0.kind == 20) = false := beq_eq_false_iff_ne.2 n20
  have x21 : (n0.kind == 21) = false := beq_eq_false_iff_ne.2 n21
  have x22 : (n0.kind == 22) = false := beq_eq_false_iff_ne.2 n22
  have x23 : (n0.kind == 23) = false := beq_eq_false_iff_ne.2 n23
  have x24 : (n0.kind == 24) = false := beq_eq_false_iff_ne.2 n24
  clear n1 n2 n3 n6 n20 n21 n22 n23 n24
  obtain ⟨⟨a4, e4, rfl, T4⟩, ⟨a5, e5, rfl, T5⟩, ⟨a6, e6, rfl, T6⟩⟩ := hI
  obtain ⟨c0, c1, c2, c3, c4, c5, c6⟩ := hA
  have H4 := mkHid T4
  have H5 := mkHid T5
  obtain ⟨W, hW, hbW, hMW, hL⟩ := one_local n0 (.slice a4 n0.names.length e4) (.slice a5 n0.keys.length e5) (.slice a6 n0.kids.length e6) hM
  have gc := (two_cellsM hM.blk).1
  have hgl := heap_ltM hM.blk
  have HW := mkHid hW
  have HL := mkHid hL
  have HbW := mkHid hbW
  have HMW := mkHid hMW
  have HgW := mkHid (hbW.mono (show g ≤ w.heap.size by omega))
  have k1 := mkHid (implPut0 g _ v C 1 0 0 W hMW (by have := H_hlen.out; omega))
  clear hW hL hMW hbW T4 T5 T6 hM
  go_enter Try.func19, Try.ntmps19
  go_wp2_with (go_at_call 20; fail)
  rw [HW.out]
  refine k1.out.mono ?_
  rintro e w1 ⟨rfl, v1, hM1, hE1, hN1⟩
  have HL1 := mkHid (HL.out.keep hE1 hN1)
  have HE1 := mkHid hE1
  have HN1 := mkHid hN1
  have HB1 := mkHid (HgW.out.trans (HMW.out.low hE1))
  obtain ⟨C1, hC1⟩ : ∃ C1, C ++ [(⟨1, 0, { Cp.z with num := 0 }⟩ : Cd)] = C1 := ⟨_, rfl⟩
  have hl1 : C1.length = C.length + 1 := by rw [← hC1]; simp
  rw [hC1] at hM1
  have HC1 := mkHid hC1
  have Hl1 := mkHid hl1
  have HM1 := mkHid hM1
  obtain ⟨l0, l1, l2, l3, l4, l5, l6⟩ := blk7 HL1.out.blk
  clear hM1 hE1 hN1 hC1 k1
  obtain ⟨S, hS⟩ : ∃ S, w.heap.size = S := ⟨_, rfl⟩
  rw [hS] at l0 l1 l2 l3 l4 l5 l6
  have cS : w1.drew.cell? ⟨S, 0, none⟩ = some (.int .i64 n0.kind) ∧ w1.drew.cell? ⟨S, 1, none⟩ = some (.int .i64 n0.num) ∧ w1.drew.cell? ⟨S, 2, none⟩ = some (.int .i64 n0.mat) ∧ w1.drew.cell? ⟨S, 3, none⟩ = some (.string n0.text) ∧ w1.drew.cell? ⟨S, 4, none⟩ = some (.slice a4 n0.names.length e4) ∧ w1.drew.cell? ⟨S, 5, none⟩ = some (.slice a5 n0.keys.length e5) ∧ w1.drew.cell? ⟨S, 6, none⟩ = some (.slice a6 n0.kids.length e6) := ⟨l0, l1, l2, l3, l4, l5, l6⟩
  have bD : Below w1.heap.size w1 w1.drew := (Below.refl _ _).drew
  have BD := mkHid bD
  have hg1 : g < w1.heap.size := heap_ltM HM1.out.blk
  have hBD : Below g w w1.drew := HB1.out.trans (bD.mono (by omega))
  have kO := mkHid (implOwnNode n0 a4 a5 a6 e4 e5 e6 w1.drew ((H4.out.below hBD).mono (by show g ≤ w1.heap.size; omega)) ((H5.out.below hBD).mono (by show g ≤ w1.heap.size; omega)) Hfit.out)
  obtain ⟨op, hop⟩ : ∃ op : Int, (if Fn.isTest n0.kind then 7 else 6) = op := ⟨_, rfl⟩
  have kL := mkHid (fun W => implLeafOp n0.kind W)
  rw [hop] at kL
  have HMD := mkHid (HM1.out.below bD)
  have hs1 : S < w1.heap.size := by have := heap_ltM HL1.out.blk; omega
  have Hop := mkHid hop
  have HS := mkHid hS
  unfold ndV at kO
  clear hl1 bD hBD hop
  try simp only [hS]
  go_wp2
  try simp only [HS.out]
  refine wp_region_held (S := fun w => w.cell? ⟨S, 0, none⟩ = some (.int .i64 n0.kind) ∧ w.cell? ⟨S, 1, none⟩ = some (.int .i64 n0.num) ∧ w.cell? ⟨S, 2, none⟩ = some (.int .i64 n0.mat) ∧ w.cell? ⟨S, 3, none⟩ = some (.string n0.text) ∧ w.cell? ⟨S, 4, none⟩ = some (.slice a4 n0.names.length e4) ∧ w.cell? ⟨S, 5, none⟩ = some (.slice a5 n0.keys.length e5) ∧ w.cell? ⟨S, 6, none⟩ = some (.slice a6 n0.kids.length e6)) (by kernel_rfl) ?_
  refine wpAnyH_take (i := 0) (v := .pointer (some ⟨g, 0, none⟩)) rfl (by kernel_rfl) (by kernel_rfl) (by kernel_rfl) (fun _ _ _ h => h) (Or.inl ⟨by rfl, ?_⟩) cS ?_
  · intro w sS
    obtain ⟨s0, s1, s2, s3, s4, s5, s6⟩ := sS
    go_simp
    all_goals first | done | (intro h; exfalso; omega) | omega
  go_simp
  refine wpAnyH_take (i := 1) (v := .pointer (some ⟨S, 0, none⟩)) rfl (by kernel_rfl) (by kernel_rfl) (by kernel_rfl) (fun _ _ _ h => h) (Or.inl ⟨by rfl, ?_⟩) cS ?_
  · intro w sS
    obtain ⟨s0, s1, s2, s3, s4, s5, s6⟩ := sS
    go_simp
    all_goals first | done | (intro h; exfalso; omega) | omega
  go_simp
  refine wpAnyH_take (i := 2) (v := .int .i64 n0.kind) rfl (by kernel_rfl) (by kernel_rfl) (by kernel_rfl) (fun _ _ _ h => h) (Or.inl ⟨by rfl, ?_⟩) cS ?_
  · intro w sS
    obtain ⟨s0, s1, s2, s3, s4, s5, s6⟩ := sS
    go_simp
    all_goals first | done | (intro h; exfalso; omega) | omega
  go_simp
  refine wpAnyH_take (i := 4) (v := .agg #[.int .i64 n0.kind, .int .i64 n0.num, .int .i64 n0.mat, .string n0.text, .slice a4 n0.names.length e4, .slice a5 n0.keys.length e5, .slice a6 n0.kids.length e6]) rfl (by kernel_rfl) (by kernel_rfl) (by kernel_rfl) (fun _ _ _ h => h) (Or.inl ⟨by rfl, ?_⟩) cS ?_
  · intro w sS
    obtain ⟨s0, s1, s2, s3, s4, s5, s6⟩ := sS
    go_simp
    all_goals first | done | (intro h; exfalso; omega) | omega
  go_simp
  refine wpAnyH_all (rs := [3]) (by kernel_rfl) (by simp) ?_
  intro q hq
  simp only [List.mem_cons, List.not_mem_nil, or_false] at hq
  subst hq
  refine wpOp_step rfl (fun K hK => ?_)
  go_simp
  refine (kL.out _).mono ?_
  rintro e w' ⟨rfl, rfl⟩
  refine hK _ _ ⟨cS, ?_⟩
  clear hK K
  go_simp
  refine wpAnyH_all (rs := [5]) (by kernel_rfl) (by simp) ?_
  intro q hq
  simp only [List.mem_cons, List.not_mem_nil, or_false] at hq
  subst hq
  refine wpOp_step rfl (fun K hK => ?_)
  go_simp
  refine kO.out.mono ?_
  rintro e wb ⟨un, uk, ud, rfl, hn, hk', hf, hd, hb⟩
  have sB : Below w1.heap.size w1.drew wb := hb
  have cB : wb.cell? ⟨S, 0, none⟩ = some (.int .i64 n0.kind) ∧ wb.cell? ⟨S, 1, none⟩ = some (.int .i64 n0.num) ∧ wb.cell? ⟨S, 2, none⟩ = some (.int .i64 n0.mat) ∧ wb.cell? ⟨S, 3, none⟩ = some (.string n0.text) ∧ wb.cell? ⟨S, 4, none⟩ = some (.slice a4 n0.names.length e4) ∧ wb.cell? ⟨S, 5, none⟩ = some (.slice a5 n0.keys.length e5) ∧ wb.cell? ⟨S, 6, none⟩ = some (.slice a6 n0.kids.length e6) := ⟨(sB.cell (p := ⟨S, 0, none⟩) hs1).trans cS.1, (sB.cell (p := ⟨S, 1, none⟩) hs1).trans cS.2.1, (sB.cell (p := ⟨S, 2, none⟩) hs1).trans cS.2.2.1, (sB.cell (p := ⟨S, 3, none⟩) hs1).trans cS.2.2.2.1, (sB.cell (p := ⟨S, 4, none⟩) hs1).trans cS.2.2.2.2.1, (sB.cell (p := ⟨S, 5, none⟩) hs1).trans cS.2.2.2.2.2.1, (sB.cell (p := ⟨S, 6, none⟩) hs1).trans cS.2.2.2.2.2.2⟩
  refine hK _ _ ⟨cB, ?_⟩
  have k3 := mkHid (implPutN g _ v1 C1 op n0 un uk ud w1.drew wb HMD.out (by have := H_hlen.out; have := Hl1.out; omega) hb hn hk' hf hd)
  obtain ⟨⟨on, cn, en⟩, -⟩ := hn
  obtain ⟨⟨ok, ck, ek⟩, -⟩ := hk'
  obtain ⟨od, cd, rfl⟩ := hd
  dsimp only at en ek
  subst en ek
  have Hb := mkHid hb
  clear hK K hf hb sB
  go_simp
  refine wpAnyH_take (i := 6) (v := coV op 0 (Cp.bare n0) (.slice on n0.names.length cn) (.slice ok n0.keys.length ck) (.slice od 0 cd)) rfl (by kernel_rfl) (by kernel_rfl) (by kernel_rfl) (fun _ _ _ h => h) (Or.inl ⟨by rfl, ?_⟩) cB ?_
  · intro w sS
    obtain ⟨s0, s1, s2, s3, s4, s5, s6⟩ := sS
    go_simp
    all_goals first | done | (intro h; exfalso; omega) | omega
  go_simp
  refine wpAnyH_all (rs := [7]) (by kernel_rfl) (by simp) ?_
  intro q hq
  simp only [List.mem_cons, List.not_mem_nil, or_false] at hq
  subst hq
  refine wpOp_step rfl (fun K hK => ?_)
  go_simp
  refine k3.out.mono ?_
  rintro e w2 ⟨rfl, v2, hM2, hE2, hN2⟩
  have HLb := ((HS.out ▸ HL1.out).below BD.out)
  have HL2 := HLb.keep hE2 hN2
  refine hK _ _ ⟨blk7 HL2.blk, ?_⟩
  have H2 := mkHid (Rc.ahead BD.out ⟨v2, hM2, hE2, hN2⟩)
  clear hK K hM2 hE2 hN2 HL2 HLb k3
  go_simp
  refine wpAnyH_done (by kernel_rfl) ?_ _
  go_wp2
  refine bodyPost_end (v := .tuple #[]) (results_none Try.results19 _ _ _) rfl ⟨rfl, Rc.ahead HbW.out (Rc.trans HE1.out HN1.out ?_)⟩
  refine Eq.mp (congrArg (fun L => Rc 47 g (.slice (some a) F.length cap) v1 L w1 w2) ?_) H2.out
  rw [← HC1.out, List.append_assoc]
  unfold Cp.leaf
  rw [Hop.out]
  rfl
end Go.Proofs.Ytonnmbkfjiddnaa
