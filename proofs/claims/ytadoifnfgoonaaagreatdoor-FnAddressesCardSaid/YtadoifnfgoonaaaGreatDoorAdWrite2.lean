
/- The program's writer of addresses: a group. -/
import Derived.Test.YtadoifnfgoonaaaGreatDoorAdWrite1
import Derived.Test.YtadoifnfgoonaaaGreatDoorAppG
namespace Go.Proofs.YtadoifnfgoonaaaGreatDoor
open Go.RowKit Go.Lib
set_option maxRecDepth 20000 in
theorem app_other {w w' : World} {B x : Nat} {v : Value} {p : List UInt8} {cs : Array Value} {t : TypeId} {fz : Nat × Nat} (h : Own B v p w) (hg : w.grownBy w' v.ownBlock) (hb : w.heap[x]? = some (.cells cs t fz)) (ht : t ≠ 5) : w'.heap[x]? = some (.cells cs t fz) := by
  refine (hg.block x (hp_lt hb) ?_).trans hb
  intro e
  rcases h.2 with ⟨rfl, -⟩ | ⟨g, cap, cur, rfl, -, hg', -⟩
  · simp [Value.ownBlock] at e
  · have e2 : g = x := by simpa [Value.ownBlock] using e.symm
    rw [e2, hb] at hg'
    simp only [Option.some.injEq, Obj.cells.injEq] at hg'
    exact ht hg'.2.1
set_option maxRecDepth 20000 in
theorem app_low {w w' : World} {B : Nat} {v : Value} {p : List UInt8} (h : Own B v p w) (hg : w.grownBy w' v.ownBlock) (hB : B ≤ w.heap.size) : Below B w w' :=
  ⟨hg.os, hg.tape, hg.output, hg.size, fun k hk => hg.block k (by omega) (fun e => by have := (World.ownsRow.lt h k e.symm).1; omega)⟩
set_option maxRecDepth 20000 in
theorem wp_appC {P : Program} {w : World} {ops : Array Oper} {rest : List Oper} {o : Oper} {a : Act} {Q : Exit → Act → World → Prop} (hgd : o.guard = none) (s x : Operand) (t : TypeId)
    (ho : o.op = .call { callee := .builtin .append, args := #[s, x], argTypes := #[t, t] })
    (i : TypeInfo) (ht : P.underlying t = some (.slice 5)) (hi : P.info? 5 = some i) (hz : i.zero = some (.int .u8 0)) (hsize : i.size = 1) (hby : i.bytes = 1)
    (B : Nat) (v : Value) (p : List UInt8) (hs : a.eval s = v) (hown : Own B v p w) (c : UInt8)
    (b0 cp : Nat) (hx : a.eval x = .slice (some ⟨b0, 0, none⟩) 1 cp) (hc : w.cell? ⟨b0, 0, none⟩ = some (.int .u8 (c.toNat : Int))) (hlen : p.length ≤ 100000000) (hB : B ≤ w.heap.size)
    (h : ∀ v' w', Own B v' (p ++ [c]) w' → w.grownBy w' v.ownBlock → wpList P ops Q rest (a.put o.dst v') w') : wpList P ops Q (o :: rest) a w := by
  refine wpList_append_own _ hgd s x t ho B 5 i (.int .u8 0) 1 1 ht hi hz hsize hby rfl (by decide) v p.length (byteCells p) hs hown ⟨b0, 0, none⟩ 1 cp (byteCells [c]) hx
    rfl (by
      intro j u hj
      rw [add_off]
      match j, hj with
      | 0, hj => cases hj; exact hc) (by
      intro u hu
      simp [byteCells] at hu
      subst hu
      rfl) (by unfold maxLen; omega) (by omega) hB ?_
  intro v' w' h1 h2 _
  refine h v' w' ?_ h2
  unfold Own
  rw [byteCells_append, List.length_append]
  exact h1
set_option maxRecDepth 20000 in
theorem enT_group (e : En) (hg : e.grp = true) : enT e = (phr e.nm).data.toList ++ 58 :: (mbT e.mem ++ [59]) := by
  unfold enT
  rw [hg, if_pos rfl]
set_option maxRecDepth 20000 in
theorem mbT_snoc (M : List Bx3) (b : Bx3) : mbT (M ++ [b]) = mbT M ++ (if M.length = 0 then [] else [44]) ++ [32] ++ bxT b := by
  cases M with
  | nil => simp [mbT, mtT]
  | cons a M => simp [mbT, mtT]
set_option maxRecDepth 20000 in
theorem boxT_small (n l d : ByteArray) (h1 : n.size ≤ 1000) (h2 : l.size ≤ 1000) (h3 : d.size ≤ 1000) : (boxT n l d).size ≤ 9000 := by
  have ha : (addrT l d).size ≤ 3100 := by
    unfold addrT
    rw [ByteArray.size_append, ByteArray.size_append]
    have h4 : (⟨#[64]⟩ : ByteArray).size = 1 := rfl
    have h5 := quo_size l
    split <;> omega
  unfold boxT
  split
  · split
    · omega
    · rw [ByteArray.size_append, ByteArray.size_append, ByteArray.size_append]
      have h4 : (⟨#[32, 60]⟩ : ByteArray).size = 2 := rfl
      have h5 : (⟨#[62]⟩ : ByteArray).size = 1 := rfl
      have h6 := phr_size n
      omega
  · show 0 ≤ 9000
    omega
set_option maxRecDepth 20000 in
set_option maxHeartbeats 8000000 in
theorem implAppGroup (B : Nat) (v : Value) (p : List UInt8) (e : En) (vo : Option Addr) (vc : Nat) (w : World) (hown : Own B v p w) (hB : B ≤ w.heap.size) (hs : e.sm) (hM : MemAt B vo e.mem w) (hp : p.length ≤ 1000000) (m : Int) (hm : w.cell? ⟨1, 0, none⟩ = some (.int .i64 m)) (hmB : 1 < B) (R : List UInt8) (hR : R = p ++ ((phr e.nm).data.toList ++ 58 :: (mbT e.mem ++ [59]))) :
    Calls Tryz.prog 22 #[v, .agg #[.bool e.grp, .string e.nm, .string e.n, .string e.l, .string e.d, .slice vo e.mem.length vc]] w fun r w' => ∃ v', r = .returned v' ∧ Own B v' R w' ∧ Below B w w' := by
  obtain ⟨i0, hi, hy0, hy1, hy2⟩ := info_parts Tryz.info5
  have HR := mkHid hR
  clear hR
  obtain ⟨W, hW⟩ : ∃ W, W = w.alloc (.cells #[.bool e.grp, .string e.nm, .string e.n, .string e.l, .string e.d, .slice vo e.mem.length vc] 37) := ⟨_, rfl⟩
  have hbW : Below w.heap.size w W := by rw [hW]; exact (Below.refl _ _).alloc (Nat.le_refl _) _
  have hE : W.heap[w.heap.size]? = some (.cells #[.bool e.grp, .string e.nm, .string e.n, .string e.l, .string e.d, .slice vo e.mem.length vc] 37 (0, 0)) := by rw [hW]; exact hp_alloc _ _
  have Hm : Hid (∀ V, Below B w V → V.cell? ⟨1, 0, none⟩ = some (.int .i64 m)) := mkHid (fun V hV => (hV.cell (p := ⟨1, 0, none⟩) hmB).trans hm)
  obtain ⟨s1, -, s5, s6⟩ := hs
  have hbWB := hbW.mono hB
  have cP := mkHid (implPhrase e.nm m W (by omega) (Hm.out W hbWB))
  have c1 : W.cell? ⟨w.heap.size, 1, none⟩ = some (.string e.nm) := (entry_cells hE).2.1
  have hown1 := hown.belowG hbW
  have HO := mkHid hown1
  have HE := mkHid hE
  have HbB := mkHid hbWB
  have HM2 : Hid (∀ V, Below B w V → MemAt B vo e.mem V) := mkHid (fun V hV => hM.keep hV)
  have hwW : w.heap.size < W.heap.size := hp_lt hE
  have HW := mkHid hW
  rw [hW] at c1
  have hphr : (phr e.nm) = ⟨(Pl.phrase e.nm.data.toList).toArray⟩ := rfl
  rw [← hphr] at cP
  have hpz : (phr e.nm).size ≤ 3000 := by have := phr_size e.nm; omega
  clear hown hM hm hbW hE hown1 hbWB hW hphr
  go_enter Tryz.func22, Tryz.ntmps22
  go_wp2_with fail
  rw [← HW.out]
  refine cP.out.mono ?_
  rintro r w1 ⟨rfl, hb1⟩
  have hown1 := HO.out.belowG hb1
  have HE1 : Hid (w1.heap[w.heap.size]? = some (.cells #[.bool e.grp, .string e.nm, .string e.n, .string e.l, .string e.d, .slice vo e.mem.length vc] 37 (0, 0))) := mkHid ((hb1.block _ hwW).trans HE.out)
  have HB1 := mkHid (HbB.out.trans (hb1.mono (by omega)))
  have hs1 : B ≤ w1.heap.size := by have := hb1.size; omega
  clear cP hb1 HO HE HbB c1 HW
  obtain ⟨X, hX⟩ : ∃ X, X = phr e.nm := ⟨_, rfl⟩
  rw [← hX] at hpz ⊢
  have HX := mkHid hX
  clear hX
  go_wp2_with (at_builtin; refine wp_appsG rfl _ _ 22 9 rfl i0 Tryz.underlying22 Tryz.underlying9 hi hy0 hy1 hy2 B v p rfl hown1 X rfl (by omega) hs1 ?_; intro v2 w2 hown2 hg2; refine Hid.out ?_)
  refine mkHid ?_
  have HE2 : Hid (w2.heap[w.heap.size]? = some (.cells #[.bool e.grp, .string e.nm, .string e.n, .string e.l, .string e.d, .slice vo e.mem.length vc] 37 (0, 0))) := mkHid (app_other hown1 hg2 HE1.out (by decide))
  have HB2 := mkHid (HB1.out.trans (app_low hown1 hg2 hs1))
  have hs2 : B ≤ w2.heap.size := Nat.le_trans hs1 hg2.size
  obtain ⟨p2, hp2⟩ : ∃ x, x = p ++ X.data.toList := ⟨_, rfl⟩
  rw [← hp2] at hown2
  have hXl : X.data.toList.length = X.size := by simp
  have hl2 : p2.length ≤ 1010000 := by rw [hp2, List.length_append]; omega
  have Hp2 := mkHid hp2
  have HO2 := mkHid hown2
  clear hown1 hg2 HE1 HB1 hs1 hp2 hXl hown2
  go_wp2_with (at_builtin; refine wp_appG rfl _ _ 22 rfl i0 Tryz.underlying22 hi hy0 hy1 hy2 B v2 p2 rfl HO2.out _ [58] rfl 1 1 rfl rfl (by simp; omega) hs2 ?_; intro v3 w3 hown3 hg3; refine Hid.out ?_)
  refine mkHid ?_
  obtain ⟨W3, hW3⟩ : ∃ W3, W3 = w2.alloc (.cells #[.int .u8 58] 5) := ⟨_, rfl⟩
  have hbA : Below w2.heap.size w2 W3 := by rw [hW3]; exact (Below.refl _ _).alloc (Nat.le_refl _) _
  rw [← hW3] at hg3
  have hownA := HO2.out.belowG hbA
  have hEA : W3.heap[w.heap.size]? = some (.cells #[.bool e.grp, .string e.nm, .string e.n, .string e.l, .string e.d, .slice vo e.mem.length vc] 37 (0, 0)) := (hbA.block _ (hp_lt HE2.out)).trans HE2.out
  have HE3 : Hid (w3.heap[w.heap.size]? = some (.cells #[.bool e.grp, .string e.nm, .string e.n, .string e.l, .string e.d, .slice vo e.mem.length vc] 37 (0, 0))) := mkHid (app_other hownA hg3 hEA (by decide))
  have hsA : B ≤ W3.heap.size := Nat.le_trans hs2 hbA.size
  have HB3 := mkHid ((HB2.out.trans (hbA.mono hs2)).trans (app_low hownA hg3 hsA))
  have hs3 : B ≤ w3.heap.size := Nat.le_trans hsA hg3.size
  have HO3 := mkHid hown3
  have c5 : w3.cell? ⟨w.heap.size, 5, none⟩ = some (.slice vo e.mem.length vc) := (entry_cells HE3.out).2.2.2.2.2
  clear HO2 HE2 HB2 hs2 hown3 hg3 hW3 hbA hownA hEA hsA
  go_wp2
  clear c5
  go_loopw [0, 18] (fun u v wr => ∃ j : Nat, v = .int .i64 (j : Int) ∧ j ≤ e.mem.length ∧ Hid (Own B u (p2 ++ [58] ++ mbT (e.mem.take j)) wr) ∧ Hid (Below B w wr) ∧ B ≤ wr.heap.size ∧ Hid ((mbT (e.mem.take j)).length ≤ 10000 * j)) (fun _ v _ => e.mem.length - (Lib.intOf v).toNat)
  case atStart => exact ⟨0, rfl, Nat.zero_le _, by simpa [mbT] using HO3, HB3, hs3, mkHid (by simp [mbT])⟩
  case round =>
    clear HO3 HE3 HB3 hs3
    obtain ⟨j, rfl, hj, HO, Hb, hsz, Hlen⟩ := hrel
    by_cases hlt : j < e.mem.length
    · have f1 : (j : Int) < (e.mem.length : Int) := by omega
      obtain ⟨gL, g1, g2, g3, g4, g5⟩ := (HM2.out wr Hb.out) j hlt
      subst g2
      obtain ⟨b, hb⟩ : ∃ b, b = e.mem[j] := ⟨_, rfl⟩
      rw [← hb] at g3 g4 g5
      obtain ⟨hb1, hb2, hb3⟩ : b.sm := s6 b (by rw [hb]; exact List.getElem_mem hlt)
      obtain ⟨W4, hW4⟩ : ∃ W4, W4 = wr.alloc (.cells #[.string b.n, .string b.l, .string b.d] 35) := ⟨_, rfl⟩
      have hb4 : Below wr.heap.size wr W4 := by rw [hW4]; exact (Below.refl _ _).alloc (Nat.le_refl _) _
      have HGW4 : Hid (W4.heap[wr.heap.size]? = some (.cells #[.string b.n, .string b.l, .string b.d] 35 (0, 0))) := mkHid (by rw [hW4]; exact hp_alloc _ _)
      have HOW4 := mkHid (HO.out.belowG hb4)
      have HBW4 := mkHid (Hb.out.trans (hb4.mono hsz))
      have hsW4 : B ≤ W4.heap.size := Nat.le_trans hsz hb4.size
      have Hbj := mkHid hb
      obtain ⟨pJ, hpJ⟩ : ∃ x, x = p2 ++ [58] ++ mbT (e.mem.take j) := ⟨_, rfl⟩
      have hlJ : pJ.length ≤ 2100000 := by
        have h5 := Hlen.out
        rw [hpJ]
        simp only [List.length_append, List.length_singleton]
        omega
      rw [← hpJ] at HOW4
      have HpJ := mkHid hpJ
      have hw1 : IntKind.i64.wrap ((j : Int) + 1) = ((j + 1 : Nat) : Int) := by
        unfold IntKind.wrap
        simp [IntKind.bits, IntKind.signed]
        omega
      rw [hW4] at HGW4 HOW4 HBW4 hsW4
      clear hb hb4 HO Hb hsz hW4 hpJ
      by_cases h0 : j = 0
      · have f0 : ¬ (0 : Int) < (j : Int) := by omega
        have H0 := mkHid h0
        clear h0
        obtain ⟨XwS, hXwS⟩ : ∃ X, X = (wr.alloc (.cells #[.string b.n, .string b.l, .string b.d] 35)).alloc (.cells #[.int .u8 32] 5) := ⟨_, rfl⟩
        have hbXwS : Below (wr.alloc (.cells #[.string b.n, .string b.l, .string b.d] 35)).heap.size (wr.alloc (.cells #[.string b.n, .string b.l, .string b.d] 35)) XwS := by rw [hXwS]; exact (Below.refl _ _).alloc (Nat.le_refl _) _
        have hcXwS : XwS.cell? ⟨wr.heap.size + 1, 0, none⟩ = some (.int .u8 ((32 : UInt8).toNat : Int)) := by
          have h9 : XwS.heap[wr.heap.size + 1]? = some (.cells #[.int .u8 32] 5 (0, 0)) := by
            rw [hXwS]
            have := hp_alloc ((wr.alloc (.cells #[.string b.n, .string b.l, .string b.d] 35))) (.cells #[.int .u8 32] 5)
            first | exact this | rwa [World.size_alloc] at this
          simp only [World.cell?, h9]
          rfl
        have hownXwS := HOW4.out.belowG hbXwS
        have HGXwS : Hid (XwS.heap[wr.heap.size]? = some (.cells #[.string b.n, .string b.l, .string b.d] 35 (0, 0))) := mkHid ((hbXwS.block _ (hp_lt HGW4.out)).trans HGW4.out)
        have hsXwS : B ≤ XwS.heap.size := Nat.le_trans hsW4 hbXwS.size
        have HBXwS := mkHid (HBW4.out.trans (hbXwS.mono hsW4))
        have HOXwS := mkHid hownXwS
        have HCXwS := mkHid hcXwS
        have HXewS := mkHid hXwS
        have hsX2wS := hsXwS
        have HOX2wS := HOXwS
        rw [hXwS] at HCXwS hsX2wS HOX2wS
        clear HOW4 HGW4 HBW4 hsW4 hbXwS hownXwS hcXwS hXwS
        go_wp2_with (at_builtin; refine wp_appC rfl _ _ 22 rfl i0 Tryz.underlying22 hi hy0 hy1 hy2 B u0 pJ rfl HOX2wS.out 32 (wr.heap.size + 1) _ rfl HCXwS.out (by omega) hsX2wS ?_; intro vS wS hownwS hgwS; refine Hid.out ?_)
        refine mkHid ?_
        rw [← HXewS.out] at hgwS
        have HGwS : Hid (wS.heap[wr.heap.size]? = some (.cells #[.string b.n, .string b.l, .string b.d] 35 (0, 0))) := mkHid (app_other HOXwS.out hgwS HGXwS.out (by decide))
        have HBwS := mkHid (HBXwS.out.trans (app_low HOXwS.out hgwS hsXwS))
        have hswS : B ≤ wS.heap.size := Nat.le_trans hsXwS hgwS.size
        obtain ⟨pS, hpS⟩ : ∃ x, x = pJ ++ [32] := ⟨_, rfl⟩
        rw [← hpS] at hownwS
        have hlpS : pS.length ≤ pJ.length + 1 := by rw [hpS]; simp
        have HpS := mkHid hpS
        have HOwS := mkHid hownwS
        clear hownwS hgwS hsXwS hpS HOXwS HOX2wS HCXwS HXewS hsX2wS HGXwS HBXwS
        have cB := mkHid (implBox b.n b.l b.d m wS (by omega) (by omega) (by omega) (Hm.out wS HBwS.out))
        go_wp2_with (refine wpL_load_row rfl 35 _ rfl wr.heap.size #[.string b.n, .string b.l, .string b.d] 35 (0, 0) _ rfl HGwS.out Tryz.underlying35 rfl (by kernel_rfl) ?_)
        refine cB.out.mono ?_
        rintro r wT ⟨rfl, hbT⟩
        have hownT := HOwS.out.belowG hbT
        have HBwT := mkHid (HBwS.out.trans (hbT.mono hswS))
        have hswT : B ≤ wT.heap.size := Nat.le_trans hswS hbT.size
        obtain ⟨Y, hY⟩ : ∃ Y, Y = boxT b.n b.l b.d := ⟨_, rfl⟩
        have hYz : Y.size ≤ 9000 := by rw [hY]; exact boxT_small b.n b.l b.d hb1 hb2 hb3
        rw [← hY]
        have HY := mkHid hY
        clear cB hbT HOwS HGwS HBwS hswS hY
        go_wp2_with (at_builtin; refine wp_appsG rfl _ _ 22 9 rfl i0 Tryz.underlying22 Tryz.underlying9 hi hy0 hy1 hy2 B vS pS rfl hownT Y rfl (by omega) hswT ?_; intro vU wU hownU hgU)
        have HBwU := mkHid (HBwT.out.trans (app_low hownT hgU hswT))
        have hswU : B ≤ wU.heap.size := Nat.le_trans hswT hgU.size
        have hYl : Y.data.toList.length = Y.size := by simp
        have hmb : mbT (e.mem.take (j + 1)) = mbT (e.mem.take j) ++ (if j = 0 then [] else [44]) ++ [32] ++ bxT b := by
          rw [List.take_add_one, List.getElem?_eq_getElem hlt, ← Hbj.out, Option.toList_some, mbT_snoc, List.length_take, Nat.min_eq_left (by omega)]
        have hfin : pS ++ Y.data.toList = p2 ++ [58] ++ mbT (e.mem.take (j + 1)) := by
          rw [hmb, if_pos H0.out, HpS.out, HY.out, HpJ.out]
          simp [bxT]
        rw [hfin] at hownU
        refine ⟨⟨j + 1, by congr 1, by omega, mkHid hownU, HBwU, hswU, mkHid (by
          rw [hmb]
          have h5 := Hlen.out
          have h6 : (bxT b).length = Y.size := by rw [HY.out]; simp [bxT]
          simp only [List.length_append, List.length_singleton, h6]
          split
          · simp only [List.length_nil]; omega
          · simp only [List.length_singleton]; omega)⟩, ?_⟩
        simp only [Lib.intOf]
        omega
      · have f0 : (0 : Int) < (j : Int) := by omega
        obtain ⟨XwC, hXwC⟩ : ∃ X, X = (wr.alloc (.cells #[.string b.n, .string b.l, .string b.d] 35)).alloc (.cells #[.int .u8 44] 5) := ⟨_, rfl⟩
        have hbXwC : Below (wr.alloc (.cells #[.string b.n, .string b.l, .string b.d] 35)).heap.size (wr.alloc (.cells #[.string b.n, .string b.l, .string b.d] 35)) XwC := by rw [hXwC]; exact (Below.refl _ _).alloc (Nat.le_refl _) _
        have hcXwC : XwC.cell? ⟨wr.heap.size + 1, 0, none⟩ = some (.int .u8 ((44 : UInt8).toNat : Int)) := by
          have h9 : XwC.heap[wr.heap.size + 1]? = some (.cells #[.int .u8 44] 5 (0, 0)) := by
            rw [hXwC]
            have := hp_alloc ((wr.alloc (.cells #[.string b.n, .string b.l, .string b.d] 35))) (.cells #[.int .u8 44] 5)
            first | exact this | rwa [World.size_alloc] at this
          simp only [World.cell?, h9]
          rfl
        have hownXwC := HOW4.out.belowG hbXwC
        have HGXwC : Hid (XwC.heap[wr.heap.size]? = some (.cells #[.string b.n, .string b.l, .string b.d] 35 (0, 0))) := mkHid ((hbXwC.block _ (hp_lt HGW4.out)).trans HGW4.out)
        have hsXwC : B ≤ XwC.heap.size := Nat.le_trans hsW4 hbXwC.size
        have HBXwC := mkHid (HBW4.out.trans (hbXwC.mono hsW4))
        have HOXwC := mkHid hownXwC
        have HCXwC := mkHid hcXwC
        have HXewC := mkHid hXwC
        have hsX2wC := hsXwC
        have HOX2wC := HOXwC
        rw [hXwC] at HCXwC hsX2wC HOX2wC
        clear HOW4 HGW4 HBW4 hsW4 hbXwC hownXwC hcXwC hXwC
        go_wp2_with (at_builtin; refine wp_appC rfl _ _ 22 rfl i0 Tryz.underlying22 hi hy0 hy1 hy2 B u0 pJ rfl HOX2wC.out 44 (wr.heap.size + 1) _ rfl HCXwC.out (by omega) hsX2wC ?_; intro vC wC hownwC hgwC; refine Hid.out ?_)
        refine mkHid ?_
        rw [← HXewC.out] at hgwC
        have HGwC : Hid (wC.heap[wr.heap.size]? = some (.cells #[.string b.n, .string b.l, .string b.d] 35 (0, 0))) := mkHid (app_other HOXwC.out hgwC HGXwC.out (by decide))
        have HBwC := mkHid (HBXwC.out.trans (app_low HOXwC.out hgwC hsXwC))
        have hswC : B ≤ wC.heap.size := Nat.le_trans hsXwC hgwC.size
        obtain ⟨pC, hpC⟩ : ∃ x, x = pJ ++ [44] := ⟨_, rfl⟩
        rw [← hpC] at hownwC
        have hlpC : pC.length ≤ pJ.length + 1 := by rw [hpC]; simp
        have HpC := mkHid hpC
        have HOwC := mkHid hownwC
        clear hownwC hgwC hsXwC hpC HOXwC HOX2wC HCXwC HXewC hsX2wC HGXwC HBXwC
        obtain ⟨XwS, hXwS⟩ : ∃ X, X = wC.alloc (.cells #[.int .u8 32] 5) := ⟨_, rfl⟩
        have hbXwS : Below wC.heap.size wC XwS := by rw [hXwS]; exact (Below.refl _ _).alloc (Nat.le_refl _) _
        have hcXwS : XwS.cell? ⟨wC.heap.size, 0, none⟩ = some (.int .u8 ((32 : UInt8).toNat : Int)) := by
          have h9 : XwS.heap[wC.heap.size]? = some (.cells #[.int .u8 32] 5 (0, 0)) := by
            rw [hXwS]
            have := hp_alloc (wC) (.cells #[.int .u8 32] 5)
            first | exact this | rwa [World.size_alloc] at this
          simp only [World.cell?, h9]
          rfl
        have hownXwS := HOwC.out.belowG hbXwS
        have HGXwS : Hid (XwS.heap[wr.heap.size]? = some (.cells #[.string b.n, .string b.l, .string b.d] 35 (0, 0))) := mkHid ((hbXwS.block _ (hp_lt HGwC.out)).trans HGwC.out)
        have hsXwS : B ≤ XwS.heap.size := Nat.le_trans hswC hbXwS.size
        have HBXwS := mkHid (HBwC.out.trans (hbXwS.mono hswC))
        have HOXwS := mkHid hownXwS
        have HCXwS := mkHid hcXwS
        have HXewS := mkHid hXwS
        have hsX2wS := hsXwS
        have HOX2wS := HOXwS
        rw [hXwS] at HCXwS hsX2wS HOX2wS
        clear HOwC HGwC HBwC hswC hbXwS hownXwS hcXwS hXwS
        go_wp2_with (at_builtin; refine wp_appC rfl _ _ 22 rfl i0 Tryz.underlying22 hi hy0 hy1 hy2 B vC pC rfl HOX2wS.out 32 (wC.heap.size) _ rfl HCXwS.out (by omega) hsX2wS ?_; intro vS wS hownwS hgwS; refine Hid.out ?_)
        refine mkHid ?_
        rw [← HXewS.out] at hgwS
        have HGwS : Hid (wS.heap[wr.heap.size]? = some (.cells #[.string b.n, .string b.l, .string b.d] 35 (0, 0))) := mkHid (app_other HOXwS.out hgwS HGXwS.out (by decide))
        have HBwS := mkHid (HBXwS.out.trans (app_low HOXwS.out hgwS hsXwS))
        have hswS : B ≤ wS.heap.size := Nat.le_trans hsXwS hgwS.size
        obtain ⟨pS, hpS⟩ : ∃ x, x = pC ++ [32] := ⟨_, rfl⟩
        rw [← hpS] at hownwS
        have hlpS : pS.length ≤ pC.length + 1 := by rw [hpS]; simp
        have HpS := mkHid hpS
        have HOwS := mkHid hownwS
        clear hownwS hgwS hsXwS hpS HOXwS HOX2wS HCXwS HXewS hsX2wS HGXwS HBXwS
        have cB := mkHid (implBox b.n b.l b.d m wS (by omega) (by omega) (by omega) (Hm.out wS HBwS.out))
        go_wp2_with (refine wpL_load_row rfl 35 _ rfl wr.heap.size #[.string b.n, .string b.l, .string b.d] 35 (0, 0) _ rfl HGwS.out Tryz.underlying35 rfl (by kernel_rfl) ?_)
        refine cB.out.mono ?_
        rintro r wT ⟨rfl, hbT⟩
        have hownT := HOwS.out.belowG hbT
        have HBwT := mkHid (HBwS.out.trans (hbT.mono hswS))
        have hswT : B ≤ wT.heap.size := Nat.le_trans hswS hbT.size
        obtain ⟨Y, hY⟩ : ∃ Y, Y = boxT b.n b.l b.d := ⟨_, rfl⟩
        have hYz : Y.size ≤ 9000 := by rw [hY]; exact boxT_small b.n b.l b.d hb1 hb2 hb3
        rw [← hY]
        have HY := mkHid hY
        clear cB hbT HOwS HGwS HBwS hswS hY
        go_wp2_with (at_builtin; refine wp_appsG rfl _ _ 22 9 rfl i0 Tryz.underlying22 Tryz.underlying9 hi hy0 hy1 hy2 B vS pS rfl hownT Y rfl (by omega) hswT ?_; intro vU wU hownU hgU)
        have HBwU := mkHid (HBwT.out.trans (app_low hownT hgU hswT))
        have hswU : B ≤ wU.heap.size := Nat.le_trans hswT hgU.size
        have hYl : Y.data.toList.length = Y.size := by simp
        have hmb : mbT (e.mem.take (j + 1)) = mbT (e.mem.take j) ++ (if j = 0 then [] else [44]) ++ [32] ++ bxT b := by
          rw [List.take_add_one, List.getElem?_eq_getElem hlt, ← Hbj.out, Option.toList_some, mbT_snoc, List.length_take, Nat.min_eq_left (by omega)]
        have hfin : pS ++ Y.data.toList = p2 ++ [58] ++ mbT (e.mem.take (j + 1)) := by
          rw [hmb, if_neg h0, HpS.out, HY.out, HpC.out, HpJ.out]
          simp [bxT]
        rw [hfin] at hownU
        refine ⟨⟨j + 1, by congr 1, by omega, mkHid hownU, HBwU, hswU, mkHid (by
          rw [hmb]
          have h5 := Hlen.out
          have h6 : (bxT b).length = Y.size := by rw [HY.out]; simp [bxT]
          simp only [List.length_append, List.length_singleton, h6]
          split
          · simp only [List.length_nil]; omega
          · simp only [List.length_singleton]; omega)⟩, ?_⟩
        simp only [Lib.intOf]
        omega
    · have f1 : ¬ (j : Int) < (e.mem.length : Int) := by omega
      have HO2 : Hid (Own B u0 (p2 ++ [58] ++ mbT e.mem) wr) := mkHid (by have h5 := HO.out; rwa [List.take_of_length_le (by omega)] at h5)
      have hlm : (mbT e.mem).length ≤ 1000000 := by
        have h5 := Hlen.out
        rw [List.take_of_length_le (by omega)] at h5
        omega
      obtain ⟨pJ, hpJ⟩ : ∃ x, x = p2 ++ [58] ++ mbT e.mem := ⟨_, rfl⟩
      have hlJ : pJ.length ≤ 2100000 := by
        rw [hpJ]
        simp only [List.length_append, List.length_singleton]
        omega
      rw [← hpJ] at HO2
      have HpJ := mkHid hpJ
      clear HO hpJ hlm
      go_wp2_with (at_builtin; refine wp_appG rfl _ _ 22 rfl i0 Tryz.underlying22 hi hy0 hy1 hy2 B u0 pJ rfl HO2.out _ [59] rfl 1 1 rfl rfl (by simp; omega) hsz ?_; intro vZ wZ hownZ hgZ)
      have hbA : Below wr.heap.size wr (wr.alloc (.cells #[.int .u8 59] 5)) := (Below.refl _ _).alloc (Nat.le_refl _) _
      have hownA := HO2.out.belowG hbA
      have HBZ := (Hb.out.trans (hbA.mono hsz)).trans (app_low hownA hgZ (Nat.le_trans hsz hbA.size))
      go_ret
      refine ⟨vZ, rfl, ?_, HBZ⟩
      rw [HR.out]
      have e9 : pJ ++ [59] = p ++ ((phr e.nm).data.toList ++ 58 :: (mbT e.mem ++ [59])) := by
        rw [HpJ.out, Hp2.out, HX.out]
        simp
      rw [← e9]
      exact hownZ
end Go.Proofs.YtadoifnfgoonaaaGreatDoor
