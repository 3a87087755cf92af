
/- The program's writer of addresses. -/

/- The size of drawn entries' text. -/

/- The specification's test of an empty box. -/
import Derived.Test.YtadoifnfgoonaaaGreatDoorAdWrite2
import Derived.Test.YtadoifnfgoonaaaGreatDoorAdWords
import Derived.Test.YtadoifnfgoonaaaGreatDoorPhraseImpl
import Derived.Test.YtadoifnfgoonaaaGreatDoorAdRead9
namespace Go.Proofs.YtadoifnfgoonaaaGreatDoor
open Go.RowKit Go.Lib
set_option maxRecDepth 20000 in
theorem MemAt.mono {B B' : Nat} {vo : Option Addr} {M : List Bx3} {w : World} (h : MemAt B vo M w) (hB : B ≤ B') : MemAt B' vo M w := fun j hj => by
  obtain ⟨gL, h1, h2⟩ := h j hj
  exact ⟨gL, by omega, h2⟩
/-- Entries in memory, in blocks below B. -/
def EnsAt (B : Nat) (oo : Option Addr) (E : List En) (w : World) : Prop := ∀ j (hj : j < E.length), ∃ gL vo vc, gL < B ∧ oo = some ⟨gL, 0, none⟩ ∧ (w.cell? ⟨gL, j * 6, none⟩ = some (.bool E[j].grp) ∧ w.cell? ⟨gL, j * 6 + 1, none⟩ = some (.string E[j].nm) ∧ w.cell? ⟨gL, j * 6 + 2, none⟩ = some (.string E[j].n) ∧ w.cell? ⟨gL, j * 6 + 3, none⟩ = some (.string E[j].l) ∧ w.cell? ⟨gL, j * 6 + 4, none⟩ = some (.string E[j].d) ∧ w.cell? ⟨gL, j * 6 + 5, none⟩ = some (.slice vo E[j].mem.length vc)) ∧ MemAt B vo E[j].mem w ∧ E[j].mem.length ≤ vc
set_option maxRecDepth 20000 in
theorem EnsAt.keep {B : Nat} {oo : Option Addr} {E : List En} {w w' : World} (h : EnsAt B oo E w) (hb : Below B w w') : EnsAt B oo E w' := fun j hj => by
  obtain ⟨gL, vo, vc, h1, h2, ⟨c0, c1, c2, c3, c4, c5⟩, h4, h5⟩ := h j hj
  have k : ∀ q, w'.cell? ⟨gL, q, none⟩ = w.cell? ⟨gL, q, none⟩ := fun q => hb.cell (p := ⟨gL, q, none⟩) h1
  exact ⟨gL, vo, vc, h1, h2, ⟨(k _).trans c0, (k _).trans c1, (k _).trans c2, (k _).trans c3, (k _).trans c4, (k _).trans c5⟩, h4.keep hb, h5⟩
set_option maxRecDepth 20000 in
theorem esT_snoc (L : List En) (e : En) : esT (L ++ [e]) = esT L ++ (if L.length = 0 then [] else [44, 32]) ++ enT e := by
  cases L with
  | nil => simp [esT, etT]
  | cons a L => simp [esT, etT]
set_option maxRecDepth 20000 in
theorem esT_le (A B : List En) : (esT A).length ≤ (esT (A ++ B)).length := by
  cases A with
  | nil => simp [esT]
  | cons a A => simp [esT, etT]
set_option maxRecDepth 20000 in
theorem enT_small (e : En) (h : e.sm) : (enT e).length ≤ 1000000 := by
  obtain ⟨s1, ⟨s2, s3, s4⟩, s5, s6⟩ := h
  have hm : ∀ M : List Bx3, (∀ b ∈ M, b.sm) → (mtT M).length ≤ 9002 * M.length := by
    intro M hM
    induction M with
    | nil => simp [mtT]
    | cons b M ih =>
      have h1 := ih (fun x hx => hM x (List.mem_cons_of_mem _ hx))
      obtain ⟨b1, b2, b3⟩ := hM b List.mem_cons_self
      have h2 := boxT_small b.n b.l b.d b1 b2 b3
      have h3 : (bxT b).length = (boxT b.n b.l b.d).size := by simp [bxT]
      have e : mtT (b :: M) = 44 :: 32 :: (bxT b ++ mtT M) := by simp [mtT]
      rw [e]
      simp only [List.length_cons, List.length_append, h3]
      omega
  unfold enT
  split
  · have h1 := phr_size e.nm
    have h2 : (phr e.nm).data.toList.length = (phr e.nm).size := by simp
    have h3 : (mbT e.mem).length ≤ 9002 * e.mem.length + 1 := by
      cases hM : e.mem with
      | nil => simp [mbT]
      | cons b M =>
        have h4 := hm (b :: M) (by rw [← hM]; exact s6)
        have e : mtT (b :: M) = 44 :: 32 :: (bxT b ++ mtT M) := by simp [mtT]
        rw [e] at h4
        simp only [mbT, List.length_cons, List.length_append] at h4 ⊢
        omega
    simp only [List.length_append, List.length_cons, List.length_nil, h2]
    omega
  · have h2 := boxT_small e.n e.l e.d s2 s3 s4
    have h3 : (boxT e.n e.l e.d).data.toList.length = (boxT e.n e.l e.d).size := by simp
    omega
set_option maxRecDepth 20000 in
set_option maxHeartbeats 8000000 in
theorem implWriteList (oo : Option Addr) (cc : Nat) (E : List En) (w : World) (hE : EnsAt w.heap.size oo E w) (hsm : ∀ e ∈ E, e.sm) (hlen : E.length ≤ 20) (hcnt : cntS E ≤ 500) (hlt : (esT E).length ≤ 100000) (m : Int) (hm : w.cell? ⟨1, 0, none⟩ = some (.int .i64 m)) (X : ByteArray) (hX : X = if E.all enOk = true then ⟨(esT E).toArray⟩ else ⟨#[]⟩) :
    Calls Tryz.prog 5 #[.slice oo E.length cc] w fun r w' => r = .returned (.string X) ∧ Below w.heap.size w w' := by
  obtain ⟨i0, hi, hy0, hy1, hy2⟩ := info_parts Tryz.info5
  have hml : 1 < w.heap.size := World.block_lt_of_cell? _ _ hm
  have HX := mkHid hX
  have HE := mkHid hE
  have Hcnt := mkHid hcnt
  have Hm : Hid (∀ V, Below w.heap.size w V → V.cell? ⟨1, 0, none⟩ = some (.int .i64 m)) := mkHid (fun V hV => (hV.cell (p := ⟨1, 0, none⟩) hml).trans hm)
  clear hX hE hm hcnt
  go_enter Tryz.func5, Tryz.ntmps5
  go_wp2
  go_loopw [3, 4, 9] (fun u v i wr => ∃ j : Nat, i = .int .i64 (j : Int) ∧ v = .int .i64 ((cntS (E.take j) : Nat) : Int) ∧ j ≤ E.length ∧ Hid ((E.take j).all enOk = true) ∧ Hid (Own w.heap.size u (esT (E.take j)) wr) ∧ Hid (Below w.heap.size w wr) ∧ Hid ((esT (E.take j)).length ≤ 1000002 * j)) (fun _ _ i _ => E.length - (Lib.intOf i).toNat)
  case atStart => exact ⟨0, rfl, rfl, Nat.zero_le _, rfl, by simpa [esT] using (mkHid (Own.nil _ _)), Below.refl _ _, mkHid (by simp [esT])⟩
  case round =>
    obtain ⟨j, rfl, rfl, hj, Hall, HO, Hb, Hlen⟩ := hrel
    have hsz : w.heap.size ≤ wr.heap.size := Hb.out.size
    by_cases hjl : j < E.length
    · have f1 : (j : Int) < (E.length : Int) := by omega
      obtain ⟨gL, vo, vc, g1, g2, ⟨c0, c1, c2, c3, c4, c5⟩, gM, gv⟩ := (HE.out.keep Hb.out) j hjl
      subst g2
      obtain ⟨e, he⟩ : ∃ e, e = E[j] := ⟨_, rfl⟩
      rw [← he] at c0 c1 c2 c3 c4 c5 gM gv
      have hes := hsm e (by rw [he]; exact List.getElem_mem hjl)
      have hc1 : cntS (E.take (j + 1)) = cntS (E.take j) + e.cnt := by
        rw [List.take_add_one, List.getElem?_eq_getElem hjl, ← he, Option.toList_some, cntS_app]
        rfl
      have hc2 : cntS (E.take (j + 1)) ≤ 500 := by
        have h5 := Hcnt.out
        rw [← List.take_append_drop (j + 1) E, cntS_app] at h5
        omega
      obtain ⟨k, hk⟩ : ∃ k, k = cntS (E.take j) := ⟨_, rfl⟩
      rw [← hk] at hc1 ⊢
      obtain ⟨k2, hk2⟩ : ∃ k2, k2 = cntS (E.take (j + 1)) := ⟨_, rfl⟩
      rw [← hk2] at hc1 hc2
      obtain ⟨W4, hW4⟩ : ∃ W4, W4 = (wr.alloc (.cells #[.bool e.grp, .string e.nm, .string e.n, .string e.l, .string e.d, .slice vo e.mem.length vc] 37)) := ⟨_, rfl⟩
      have hb4 : Below wr.heap.size wr W4 := by rw [hW4]; exact (Below.refl _ _).alloc (Nat.le_refl _) _
      have hG4 : W4.heap[wr.heap.size]? = some (.cells #[.bool e.grp, .string e.nm, .string e.n, .string e.l, .string e.d, .slice vo e.mem.length vc] 37 (0, 0)) := by rw [hW4]; exact hp_alloc _ _
      have cC := mkHid (implBoxCount e vo vc W4)
      have HB4 := mkHid (Hb.out.trans (hb4.mono hsz))
      have HG4 := mkHid hG4
      have HO4 := mkHid (HO.out.belowG hb4)
      have HM4 := mkHid (gM.keep (hb4.mono hsz))
      have hs4 : w.heap.size ≤ W4.heap.size := HB4.out.size
      have HG4' := HG4
      rw [hW4] at HG4'
      have HW4 := mkHid hW4
      have Hes := mkHid hes
      have Hej := mkHid he
      have Hk2 := mkHid hk2
      have hck : k + e.cnt ≤ 500 := by omega
      have hw0 : IntKind.i64.wrap ((k : Int) + (e.cnt : Int)) = ((k2 : Nat) : Int) := by
        unfold IntKind.wrap
        simp [IntKind.bits, IntKind.signed]
        omega
      have hk500 : ¬ (500 : Int) < (k2 : Int) := by omega
      have hw1 : IntKind.i64.wrap ((j : Int) + 1) = ((j + 1 : Nat) : Int) := by
        unfold IntKind.wrap
        simp [IntKind.bits, IntKind.signed]
        omega
      clear hes he hk hk2 hc1 hW4 hb4 hG4 HO Hb gM
      go_wp2_with (refine wpL_load_row rfl 37 _ rfl wr.heap.size #[.bool e.grp, .string e.nm, .string e.n, .string e.l, .string e.d, .slice vo e.mem.length vc] 37 (0, 0) _ rfl HG4'.out Tryz.underlying37 rfl (by kernel_rfl) ?_)
      rw [← HW4.out]
      refine cC.out.mono ?_
      rintro r w5 ⟨rfl, hb5⟩
      have HGw5 : Hid (w5.heap[wr.heap.size]? = some (.cells #[.bool e.grp, .string e.nm, .string e.n, .string e.l, .string e.d, .slice vo e.mem.length vc] 37 (0, 0))) := mkHid ((hb5.block _ (hp_lt HG4.out)).trans HG4.out)
      have HOw5 := mkHid (HO4.out.belowG hb5)
      have HBw5 := mkHid (HB4.out.trans (hb5.mono hs4))
      have HMw5 := mkHid (HM4.out.keep (hb5.mono hs4))
      have hsw5 : w.heap.size ≤ w5.heap.size := HBw5.out.size
      obtain ⟨b0, b1, b2, b3, b4, b5⟩ := entry_cells HGw5.out
      have cI := mkHid (implIsEntry e vo vc w5 Hes.out (HMw5.out.mono hsw5) gv m (Hm.out w5 HBw5.out))
      clear cC hb5 HG4 HG4' HO4 HB4 HM4 hs4 HW4 c0 c1 c2 c3 c4 c5
      go_wp2_with fail
      refine cI.out.mono ?_
      rintro r w6 ⟨rfl, hb6⟩
      have HGw6 : Hid (w6.heap[wr.heap.size]? = some (.cells #[.bool e.grp, .string e.nm, .string e.n, .string e.l, .string e.d, .slice vo e.mem.length vc] 37 (0, 0))) := mkHid ((hb6.block _ (hp_lt HGw5.out)).trans HGw5.out)
      have HOw6 := mkHid (HOw5.out.belowG hb6)
      have HBw6 := mkHid (HBw5.out.trans (hb6.mono hsw5))
      have HMw6 := mkHid (HMw5.out.keep (hb6.mono hsw5))
      have hsw6 : w.heap.size ≤ w6.heap.size := HBw6.out.size
      clear cI hb6 HGw5 HOw5 HBw5 HMw5 hsw5 b0 b1 b2 b3 b4 b5
      obtain ⟨pJ, hpJ⟩ : ∃ x, x = esT (E.take j) := ⟨_, rfl⟩
      have hlJ : pJ.length ≤ 30000000 := by rw [hpJ]; have := Hlen.out; omega
      rw [← hpJ] at HOw6
      have HpJ := mkHid hpJ
      have hpz : pJ.length ≤ 100000 := by
        rw [hpJ]
        have h5 := esT_le (E.take j) (E.drop j)
        rw [List.take_append_drop] at h5
        omega
      clear hpJ
      cases hok : enOk e with
      | false =>
        have hXe : X = ⟨#[]⟩ := by
          rw [HX.out, if_neg]
          intro h5
          have h6 := List.all_eq_true.1 h5 E[j] (List.getElem_mem hjl)
          rw [← Hej.out, hok] at h6
          cases h6
        subst hXe
        go_wp2
        go_ret
        exact ⟨rfl, HBw6.out⟩
      | true =>
        by_cases h0 : j = 0
        · have f0 : ¬ (0 : Int) < (j : Int) := by omega
          have H0 := mkHid h0
          clear h0
          obtain ⟨d0, d1, d2, d3, d4, d5⟩ := entry_cells HGw6.out
          cases hg : e.grp with
          | true =>
            have cG := mkHid (implAppGroup w.heap.size u3 pJ e vo vc w6 HOw6.out hsw6 Hes.out HMw6.out (by omega) m (Hm.out w6 HBw6.out) hml _ rfl)
            rw [hg] at d0
            have Hgg := mkHid hg
            clear hg
            go_wp2_with (refine wpL_load_row rfl 37 _ rfl wr.heap.size #[.bool e.grp, .string e.nm, .string e.n, .string e.l, .string e.d, .slice vo e.mem.length vc] 37 (0, 0) _ rfl HGw6.out Tryz.underlying37 rfl (by kernel_rfl) ?_)
            refine cG.out.mono ?_
            rintro r wZ ⟨vZ, rfl, hownZ, hbZ'⟩
            have hbZ := HBw6.out.trans hbZ'
            have hgr := enT_group e Hgg.out
            rw [← hgr] at hownZ
            have HownZ := mkHid hownZ
            have HbZ := mkHid hbZ
            have Hok := mkHid hok
            clear cG hbZ' hgr hok hownZ hbZ d0 d1 d2 d3 d4 d5
            go_wp2
            have hownZ := HownZ.out
            have hbZ := HbZ.out
            have hok := Hok.out
            have hes2 : esT (E.take (j + 1)) = esT (E.take j) ++ (if j = 0 then [] else [44, 32]) ++ enT e := by
              rw [List.take_add_one, List.getElem?_eq_getElem hjl, ← Hej.out, Option.toList_some, esT_snoc, List.length_take, Nat.min_eq_left (by omega)]
            have Hall2 : Hid ((E.take (j + 1)).all enOk = true) := mkHid (by
              rw [List.take_add_one, List.getElem?_eq_getElem hjl, List.all_append, Hall.out, ← Hej.out]
              simp [hok])
            have hen := enT_small e Hes.out
            have Hlen2 : Hid ((esT (E.take (j + 1))).length ≤ 1000002 * (j + 1)) := mkHid (by
              have h5 := Hlen.out
              rw [hes2]
              simp only [List.length_append]
              split
              · simp only [List.length_nil]; omega
              · simp only [List.length_cons, List.length_nil]; omega)
            have hfin : pJ ++ enT e = esT (E.take (j + 1)) := by
              rw [hes2, if_pos H0.out, HpJ.out]
              all_goals simp
            rw [hfin] at hownZ
            refine ⟨⟨j + 1, by congr 1, by rw [Hk2.out], by omega, Hall2, mkHid hownZ, mkHid hbZ, Hlen2⟩, ?_⟩
            simp only [Lib.intOf]
            omega
          | false =>
            have cB := mkHid (implBox e.n e.l e.d m w6 (by have := Hes.out.2.1.1; omega) (by have := Hes.out.2.1.2.1; omega) (by have := Hes.out.2.1.2.2; omega) (Hm.out w6 HBw6.out))
            rw [hg] at d0
            have Hgg := mkHid hg
            clear hg
            go_wp2_with fail
            refine cB.out.mono ?_
            rintro r wY ⟨rfl, hbY⟩
            have hownY := HOw6.out.belowG hbY
            have HBY := mkHid (HBw6.out.trans (hbY.mono hsw6))
            have hsY : w.heap.size ≤ wY.heap.size := HBY.out.size
            obtain ⟨Y, hY⟩ : ∃ Y, Y = boxT e.n e.l e.d := ⟨_, rfl⟩
            have hYz : Y.size ≤ 9000 := by rw [hY]; exact boxT_small e.n e.l e.d Hes.out.2.1.1 Hes.out.2.1.2.1 Hes.out.2.1.2.2
            rw [← hY]
            have HY := mkHid hY
            clear cB hbY hY
            go_wp2_with (at_builtin; refine wp_appsG rfl _ _ 22 9 rfl i0 Tryz.underlying22 Tryz.underlying9 hi hy0 hy1 hy2 w.heap.size u3 pJ rfl hownY Y rfl (by omega) hsY ?_; intro vZ wZ hownZ hgZ)
            have hbZ := HBY.out.trans (app_low hownY hgZ hsY)
            have hgr : enT e = Y.data.toList := by unfold enT; rw [Hgg.out, if_neg (by simp), HY.out]
            rw [← hgr] at hownZ
            have hes2 : esT (E.take (j + 1)) = esT (E.take j) ++ (if j = 0 then [] else [44, 32]) ++ enT e := by
              rw [List.take_add_one, List.getElem?_eq_getElem hjl, ← Hej.out, Option.toList_some, esT_snoc, List.length_take, Nat.min_eq_left (by omega)]
            have Hall2 : Hid ((E.take (j + 1)).all enOk = true) := mkHid (by
              rw [List.take_add_one, List.getElem?_eq_getElem hjl, List.all_append, Hall.out, ← Hej.out]
              simp [hok])
            have hen := enT_small e Hes.out
            have Hlen2 : Hid ((esT (E.take (j + 1))).length ≤ 1000002 * (j + 1)) := mkHid (by
              have h5 := Hlen.out
              rw [hes2]
              simp only [List.length_append]
              split
              · simp only [List.length_nil]; omega
              · simp only [List.length_cons, List.length_nil]; omega)
            have hfin : pJ ++ enT e = esT (E.take (j + 1)) := by
              rw [hes2, if_pos H0.out, HpJ.out]
              all_goals simp
            rw [hfin] at hownZ
            refine ⟨⟨j + 1, by congr 1, by rw [Hk2.out], by omega, Hall2, mkHid hownZ, mkHid hbZ, Hlen2⟩, ?_⟩
            simp only [Lib.intOf]
            omega
        · have f0 : (0 : Int) < (j : Int) := by omega
          have H0 := mkHid h0
          clear h0
          go_wp2_with (at_builtin; refine wp_appsG rfl _ _ 22 9 rfl i0 Tryz.underlying22 Tryz.underlying9 hi hy0 hy1 hy2 w.heap.size u3 pJ rfl HOw6.out ⟨#[44, 32]⟩ rfl (by show pJ.length + 2 ≤ 140737488355328; omega) hsw6 ?_; intro vC w7 hown7 hg7; refine Hid.out ?_)
          refine mkHid ?_
          have HGw7 : Hid (w7.heap[wr.heap.size]? = some (.cells #[.bool e.grp, .string e.nm, .string e.n, .string e.l, .string e.d, .slice vo e.mem.length vc] 37 (0, 0))) := mkHid (app_other HOw6.out hg7 HGw6.out (by decide))
          have hb7 := app_low HOw6.out hg7 hsw6
          have HBw7 := mkHid (HBw6.out.trans hb7)
          have HMw7 := mkHid (HMw6.out.keep hb7)
          have hsw7 : w.heap.size ≤ w7.heap.size := HBw7.out.size
          obtain ⟨pC, hpC⟩ : ∃ x, x = pJ ++ [44, 32] := ⟨_, rfl⟩
          have hown7' : Own w.heap.size vC pC w7 := by rw [hpC]; exact hown7
          have hlC : pC.length ≤ 100002 := by rw [hpC, List.length_append]; simp; omega
          have HpC := mkHid hpC
          have HOw7 := mkHid hown7'
          clear hown7 hg7 HGw6 hb7 HBw6 HMw6 hsw6 HOw6 hpC hown7'
          obtain ⟨d0, d1, d2, d3, d4, d5⟩ := entry_cells HGw7.out
          cases hg : e.grp with
          | true =>
            have cG := mkHid (implAppGroup w.heap.size vC pC e vo vc w7 HOw7.out hsw7 Hes.out HMw7.out (by omega) m (Hm.out w7 HBw7.out) hml _ rfl)
            rw [hg] at d0
            have Hgg := mkHid hg
            clear hg
            go_wp2_with (refine wpL_load_row rfl 37 _ rfl wr.heap.size #[.bool e.grp, .string e.nm, .string e.n, .string e.l, .string e.d, .slice vo e.mem.length vc] 37 (0, 0) _ rfl HGw7.out Tryz.underlying37 rfl (by kernel_rfl) ?_)
            refine cG.out.mono ?_
            rintro r wZ ⟨vZ, rfl, hownZ, hbZ'⟩
            have hbZ := HBw7.out.trans hbZ'
            have hgr := enT_group e Hgg.out
            rw [← hgr] at hownZ
            have HownZ := mkHid hownZ
            have HbZ := mkHid hbZ
            have Hok := mkHid hok
            clear cG hbZ' hgr hok hownZ hbZ d0 d1 d2 d3 d4 d5
            go_wp2
            have hownZ := HownZ.out
            have hbZ := HbZ.out
            have hok := Hok.out
            have hes2 : esT (E.take (j + 1)) = esT (E.take j) ++ (if j = 0 then [] else [44, 32]) ++ enT e := by
              rw [List.take_add_one, List.getElem?_eq_getElem hjl, ← Hej.out, Option.toList_some, esT_snoc, List.length_take, Nat.min_eq_left (by omega)]
            have Hall2 : Hid ((E.take (j + 1)).all enOk = true) := mkHid (by
              rw [List.take_add_one, List.getElem?_eq_getElem hjl, List.all_append, Hall.out, ← Hej.out]
              simp [hok])
            have hen := enT_small e Hes.out
            have Hlen2 : Hid ((esT (E.take (j + 1))).length ≤ 1000002 * (j + 1)) := mkHid (by
              have h5 := Hlen.out
              rw [hes2]
              simp only [List.length_append]
              split
              · simp only [List.length_nil]; omega
              · simp only [List.length_cons, List.length_nil]; omega)
            have hfin : pC ++ enT e = esT (E.take (j + 1)) := by
              rw [hes2, if_neg H0.out, HpC.out, HpJ.out]
              all_goals simp
            rw [hfin] at hownZ
            refine ⟨⟨j + 1, by congr 1, by rw [Hk2.out], by omega, Hall2, mkHid hownZ, mkHid hbZ, Hlen2⟩, ?_⟩
            simp only [Lib.intOf]
            omega
          | false =>
            have cB := mkHid (implBox e.n e.l e.d m w7 (by have := Hes.out.2.1.1; omega) (by have := Hes.out.2.1.2.1; omega) (by have := Hes.out.2.1.2.2; omega) (Hm.out w7 HBw7.out))
            rw [hg] at d0
            have Hgg := mkHid hg
            clear hg
            go_wp2_with fail
            refine cB.out.mono ?_
            rintro r wY ⟨rfl, hbY⟩
            have hownY := HOw7.out.belowG hbY
            have HBY := mkHid (HBw7.out.trans (hbY.mono hsw7))
            have hsY : w.heap.size ≤ wY.heap.size := HBY.out.size
            obtain ⟨Y, hY⟩ : ∃ Y, Y = boxT e.n e.l e.d := ⟨_, rfl⟩
            have hYz : Y.size ≤ 9000 := by rw [hY]; exact boxT_small e.n e.l e.d Hes.out.2.1.1 Hes.out.2.1.2.1 Hes.out.2.1.2.2
            rw [← hY]
            have HY := mkHid hY
            clear cB hbY hY
            go_wp2_with (at_builtin; refine wp_appsG rfl _ _ 22 9 rfl i0 Tryz.underlying22 Tryz.underlying9 hi hy0 hy1 hy2 w.heap.size vC pC rfl hownY Y rfl (by omega) hsY ?_; intro vZ wZ hownZ hgZ)
            have hbZ := HBY.out.trans (app_low hownY hgZ hsY)
            have hgr : enT e = Y.data.toList := by unfold enT; rw [Hgg.out, if_neg (by simp), HY.out]
            rw [← hgr] at hownZ
            have hes2 : esT (E.take (j + 1)) = esT (E.take j) ++ (if j = 0 then [] else [44, 32]) ++ enT e := by
              rw [List.take_add_one, List.getElem?_eq_getElem hjl, ← Hej.out, Option.toList_some, esT_snoc, List.length_take, Nat.min_eq_left (by omega)]
            have Hall2 : Hid ((E.take (j + 1)).all enOk = true) := mkHid (by
              rw [List.take_add_one, List.getElem?_eq_getElem hjl, List.all_append, Hall.out, ← Hej.out]
              simp [hok])
            have hen := enT_small e Hes.out
            have Hlen2 : Hid ((esT (E.take (j + 1))).length ≤ 1000002 * (j + 1)) := mkHid (by
              have h5 := Hlen.out
              rw [hes2]
              simp only [List.length_append]
              split
              · simp only [List.length_nil]; omega
              · simp only [List.length_cons, List.length_nil]; omega)
            have hfin : pC ++ enT e = esT (E.take (j + 1)) := by
              rw [hes2, if_neg H0.out, HpC.out, HpJ.out]
              all_goals simp
            rw [hfin] at hownZ
            refine ⟨⟨j + 1, by congr 1, by rw [Hk2.out], by omega, Hall2, mkHid hownZ, mkHid hbZ, Hlen2⟩, ?_⟩
            simp only [Lib.intOf]
            omega
    · have f1 : ¬ (j : Int) < (E.length : Int) := by omega
      have hall : E.all enOk = true := by
        have h5 := Hall.out
        rwa [List.take_of_length_le (by omega)] at h5
      have hown : Own w.heap.size u3 (esT E) wr := by
        have h5 := HO.out
        rwa [List.take_of_length_le (by omega)] at h5
      have hbk := hown.back (P := Tryz.prog) 22 9 Tryz.underlying22 Tryz.underlying5 Tryz.underlying9
      have hXe : X = ⟨(esT E).toArray⟩ := by rw [HX.out, if_pos hall]
      rw [← hXe] at hbk
      clear hown hall hXe HO
      go_wp2
      go_ret
      exact ⟨rfl, Hb.out⟩
end Go.Proofs.YtadoifnfgoonaaaGreatDoor
namespace Go.Proofs.YtadoifnfgoonaaaGreatDoor
open Go.RowKit Go.Lib
set_option maxRecDepth 20000 in
theorem boxT_len (n l d : ByteArray) : (boxT n l d).size ≤ 2 * n.size + 2 * l.size + d.size + 8 := by
  have ha : (addrT l d).size ≤ 2 * l.size + d.size + 3 := by
    unfold addrT
    rw [ByteArray.size_append, ByteArray.size_append]
    have h4 : (⟨#[64]⟩ : ByteArray).size = 1 := rfl
    have h5 := quo_size l
    split <;> omega
  unfold boxT
  split
  · split
    · omega
    · rw [ByteArray.size_append, ByteArray.size_append, ByteArray.size_append]
      have h4 : (⟨#[32, 60]⟩ : ByteArray).size = 2 := rfl
      have h5 : (⟨#[62]⟩ : ByteArray).size = 1 := rfl
      have h6 := phr_size n
      omega
  · exact Nat.zero_le _
set_option maxRecDepth 20000 in
theorem mtT_len (k : Nat) : ∀ M : List Bx3, (∀ b ∈ M, (boxT b.n b.l b.d).size ≤ k) → (mtT M).length ≤ (k + 2) * M.length
  | [], _ => by simp [mtT]
  | b :: M, h => by
    have h1 := mtT_len k M (fun x hx => h x (List.mem_cons_of_mem _ hx))
    have h2 := h b List.mem_cons_self
    have h3 : (bxT b).length = (boxT b.n b.l b.d).size := by simp [bxT]
    have e : mtT (b :: M) = 44 :: 32 :: (bxT b ++ mtT M) := by simp [mtT]
    rw [e]
    simp only [List.length_cons, List.length_append, h3, Nat.mul_add, Nat.mul_one]
    omega
set_option maxRecDepth 20000 in
theorem enT_len (k : Nat) (e : En) (h0 : e.nm.size ≤ 20) (h1 : (boxT e.n e.l e.d).size ≤ k) (h2 : ∀ b ∈ e.mem, (boxT b.n b.l b.d).size ≤ k) : (enT e).length ≤ 45 + k + (k + 2) * e.mem.length := by
  have hm := mtT_len k e.mem h2
  unfold enT
  split
  · have h3 := phr_size e.nm
    have h4 : (phr e.nm).data.toList.length = (phr e.nm).size := by simp
    have h5 : (mbT e.mem).length ≤ (k + 2) * e.mem.length + 1 := by
      cases hM : e.mem with
      | nil => simp [mbT]
      | cons b M =>
        rw [hM] at hm
        have e : mtT (b :: M) = 44 :: 32 :: (bxT b ++ mtT M) := by simp [mtT]
        rw [e] at hm
        simp only [mbT, List.length_cons, List.length_append] at hm ⊢
        omega
    simp only [List.length_append, List.length_cons, List.length_nil, h4]
    omega
  · have h3 : (boxT e.n e.l e.d).data.toList.length = (boxT e.n e.l e.d).size := by simp
    omega
set_option maxRecDepth 20000 in
theorem etT_len (k : Nat) : ∀ E : List En, (∀ e ∈ E, (enT e).length ≤ k) → (etT E).length ≤ (k + 2) * E.length
  | [], _ => by simp [etT]
  | a :: E, h => by
    have h1 := etT_len k E (fun x hx => h x (List.mem_cons_of_mem _ hx))
    have h2 := h a List.mem_cons_self
    have e : etT (a :: E) = 44 :: 32 :: (enT a ++ etT E) := by simp [etT]
    rw [e]
    simp only [List.length_cons, List.length_append, Nat.mul_add, Nat.mul_one]
    omega
set_option maxRecDepth 20000 in
theorem esT_etT (E : List En) : (esT E).length ≤ (etT E).length := by
  cases E with
  | nil => simp [esT]
  | cons a E => simp [esT, etT]; omega
/-- A box that may be spoiled. -/
def Bx3.any (b : Bx3) : Prop := b.n.size ≤ 21 ∧ b.l.size ≤ 66 ∧ b.d.size ≤ 29
/-- The last entry: of at most one member, which may be spoiled. -/
def En.last (e : En) : Prop := e.nm.size ≤ 20 ∧ (e.n.size ≤ 21 ∧ e.l.size ≤ 66 ∧ e.d.size ≤ 29) ∧ e.mem.length ≤ 1 ∧ ∀ b ∈ e.mem, b.any
set_option maxRecDepth 20000 in
theorem En.ok.len {e : En} (h : e.ok) : (enT e).length ≤ 483 := by
  obtain ⟨h1, ⟨h2, h3, h4⟩, h5, h6⟩ := h
  have := enT_len 108 e h1 (by have := boxT_len e.n e.l e.d; omega) (fun b hb => by
    obtain ⟨b1, b2, b3⟩ := h6 b hb
    have := boxT_len b.n b.l b.d
    omega)
  omega
set_option maxRecDepth 20000 in
theorem En.last.len {e : En} (h : e.last) : (enT e).length ≤ 469 := by
  obtain ⟨h1, ⟨h2, h3, h4⟩, h5, h6⟩ := h
  have := enT_len 211 e h1 (by have := boxT_len e.n e.l e.d; omega) (fun b hb => by
    obtain ⟨b1, b2, b3⟩ := h6 b hb
    have := boxT_len b.n b.l b.d
    omega)
  omega
set_option maxRecDepth 20000 in
theorem En.ok.sm {e : En} (h : e.ok) : e.sm := by
  obtain ⟨h1, ⟨h2, h3, h4⟩, h5, h6⟩ := h
  refine ⟨by omega, ⟨by omega, by omega, by omega⟩, by omega, fun b hb => ?_⟩
  obtain ⟨b1, b2, b3⟩ := h6 b hb
  exact ⟨by omega, by omega, by omega⟩
set_option maxRecDepth 20000 in
theorem En.last.sm {e : En} (h : e.last) : e.sm := by
  obtain ⟨h1, ⟨h2, h3, h4⟩, h5, h6⟩ := h
  refine ⟨by omega, ⟨by omega, by omega, by omega⟩, by omega, fun b hb => ?_⟩
  obtain ⟨b1, b2, b3⟩ := h6 b hb
  exact ⟨by omega, by omega, by omega⟩
set_option maxRecDepth 20000 in
theorem cntS_len (k : Nat) : ∀ E : List En, (∀ e ∈ E, e.cnt ≤ k) → cntS E ≤ k * E.length
  | [], _ => by simp [cntS]
  | a :: E, h => by
    have h1 := cntS_len k E (fun x hx => h x (List.mem_cons_of_mem _ hx))
    have h2 := h a List.mem_cons_self
    simp only [cntS, List.length_cons, Nat.mul_add, Nat.mul_one]
    omega
/-- Drawn entries: at most seven that are right, and at most one more. -/
def Drawn (E : List En) : Prop := ∃ D X, E = D ++ X ∧ D.length ≤ 7 ∧ X.length ≤ 1 ∧ (∀ e ∈ D, e.ok) ∧ ∀ e ∈ X, e.last
set_option maxRecDepth 20000 in
theorem Drawn.sm {E : List En} (h : Drawn E) : ∀ e ∈ E, e.sm := by
  obtain ⟨D, X, rfl, -, -, h1, h2⟩ := h
  intro e he
  rcases List.mem_append.1 he with h | h
  · exact (h1 e h).sm
  · exact (h2 e h).sm
set_option maxRecDepth 20000 in
theorem Drawn.length {E : List En} (h : Drawn E) : E.length ≤ 8 := by
  obtain ⟨D, X, rfl, h1, h2, -, -⟩ := h
  rw [List.length_append]
  omega
set_option maxRecDepth 20000 in
theorem Drawn.size {E : List En} (h : Drawn E) : (esT E).length ≤ 4000 := by
  obtain ⟨D, X, rfl, h1, h2, h3, h4⟩ := h
  have a := esT_etT (D ++ X)
  have b : (etT (D ++ X)).length = (etT D).length + (etT X).length := by simp [etT]
  have c := etT_len 483 D (fun e he => (h3 e he).len)
  have d := etT_len 469 X (fun e he => (h4 e he).len)
  omega
set_option maxRecDepth 20000 in
theorem Drawn.cnt {E : List En} (h : Drawn E) : cntS E ≤ 499 := by
  have hk : ∀ e ∈ E, e.cnt ≤ 3 := by
    obtain ⟨D, X, rfl, -, -, h1, h2⟩ := h
    intro e he
    have hm : e.mem.length ≤ 3 := by
      rcases List.mem_append.1 he with h | h
      · exact (h1 e h).2.2.1
      · have := (h2 e h).2.2.1
        omega
    unfold En.cnt
    split <;> omega
  have a := cntS_len 3 E hk
  have b := h.length
  omega
end Go.Proofs.YtadoifnfgoonaaaGreatDoor
namespace Go.Proofs.YtadoifnfgoonaaaGreatDoor
open Go.RowKit Go.Lib
set_option maxRecDepth 20000 in
set_option maxHeartbeats 1000000 in
theorem specPlainX (n l d : ByteArray) (w : World) : Calls Tryz.prog 25 #[.agg #[.string n, .string l, .string d]] w fun e w' => e = .returned (.bool (decide (n.size = 0 ∧ l.size = 0 ∧ d.size = 0))) ∧ Below w.heap.size w w' := by
  go_enter Tryz.func25, Tryz.ntmps25
  by_cases h1 : n.size = 0
  · have e1 := toList_nil n h1
    by_cases h2 : l.size = 0
    · have e2 := toList_nil l h2
      by_cases h3 : d.size = 0
      · have e3 := toList_nil d h3
        go_wp2
        go_ret
        exact ⟨by simp [h1, h2, h3], (Below.refl _ _).alloc (Nat.le_refl _) _⟩
      · have e3 : d.toList.isEmpty = false := isEmpty_ne d h3
        go_wp2
        go_ret
        exact ⟨by simp [h1, h2, h3], (Below.refl _ _).alloc (Nat.le_refl _) _⟩
    · have e2 : l.toList.isEmpty = false := isEmpty_ne l h2
      go_wp2
      go_ret
      exact ⟨by simp [h1, h2], (Below.refl _ _).alloc (Nat.le_refl _) _⟩
  · have e1 : n.toList.isEmpty = false := isEmpty_ne n h1
    go_wp2
    go_ret
    exact ⟨by simp [h1], (Below.refl _ _).alloc (Nat.le_refl _) _⟩
end Go.Proofs.YtadoifnfgoonaaaGreatDoor
