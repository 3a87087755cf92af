
/- The walk of the program's scanner: all fields. -/
import Derived.Test.YtgabjiamabbheaaGreatDoorScan4
import Derived.Test.YtgabjiamabbheaaGreatDoorReadSpec
namespace Go.Proofs.YtgabjiamabbheaaGreatDoor
open Go.RowKit Go.Lib
def FPost (s : ByteArray) (R : HR) (w : World) (g : Nat) (e : Ending) (w' : World) : Prop :=
  w.grownBy w' (some g) ∧ ((R.code = 0 ∧ R.at_ = 0 ∧ ∃ v b', e = .returned v ∧ OwnF w.heap.size v R.fields w' ∧ Sc w' g s R.body b') ∨ (R.fields = [] ∧ R.body = 0 ∧ e = .panicked (flt R.code R.at_)))
set_option maxRecDepth 20000 in
theorem grown_over {w wr w' : World} {r : Option Nat} (h : w.grownBy wr r) (hb : Below w.heap.size wr w') : w.grownBy w' r :=
  ⟨hb.os.trans h.os, hb.tape.trans h.tape, hb.output.trans h.output, Nat.le_trans h.size hb.size, fun k hk hr => (hb.block k hk).trans (h.block k hk hr)⟩
set_option maxRecDepth 20000 in
theorem OwnF.grown {B : Nat} {v : Value} {F : List Fl} {w w' : World} {g : Nat} (h : OwnF B v F w) (hg : w.grownBy w' (some g)) (hB : g < B) : OwnF B v F w' := by
  obtain ⟨h1, h2⟩ := h
  refine ⟨h1, ?_⟩
  rcases h2 with h2 | ⟨k, cap, cur, e, hk, hc, r⟩
  · exact .inl h2
  · refine .inr ⟨k, cap, cur, e, hk, ?_, r⟩
    have hlt : k < w.heap.size := by
      by_cases h : k < w.heap.size
      · exact h
      · rw [Array.getElem?_eq_none (by omega)] at hc; cases hc
    rw [hg.block k hlt (by intro e; have := Option.some.inj e; omega)]
    exact hc
set_option maxRecDepth 20000 in
theorem implF_no (l : List UInt8) (k : Nat) (h : Pl.nameGood l k = false) : Pl.implF l k = .inl k := by rw [Pl.implF, if_neg (by rw [h]; simp)]
set_option maxRecDepth 20000 in
theorem implF_end (l : List UInt8) (k : Nat) (h : Pl.nameGood l k = true) (hv : l.length ≤ (Pl.vend l (l.length + 1) (Pl.stop Pl.blank l (Pl.stop Pl.nb l k) + 1) k).1) :
    Pl.implF l k = .inr (Pl.sl l k (Pl.stop Pl.nb l k), Pl.sl l (Pl.stop Pl.blank l (Pl.stop Pl.nb l k) + 1) l.length, l.length) := by
  rw [Pl.implF, if_pos h]; simp only [hv, if_true]
set_option maxRecDepth 20000 in
theorem implF_line (l : List UInt8) (k : Nat) (h : Pl.nameGood l k = true) (hv : ¬ l.length ≤ (Pl.vend l (l.length + 1) (Pl.stop Pl.blank l (Pl.stop Pl.nb l k) + 1) k).1) (hc : Pl.crlf l (Pl.vend l (l.length + 1) (Pl.stop Pl.blank l (Pl.stop Pl.nb l k) + 1) k).1 = true) :
    Pl.implF l k = .inr (Pl.sl l k (Pl.stop Pl.nb l k), Pl.sl l (Pl.stop Pl.blank l (Pl.stop Pl.nb l k) + 1) (Pl.vend l (l.length + 1) (Pl.stop Pl.blank l (Pl.stop Pl.nb l k) + 1) k).1, (Pl.vend l (l.length + 1) (Pl.stop Pl.blank l (Pl.stop Pl.nb l k) + 1) k).1 + 2) := by
  rw [Pl.implF, if_pos h]; simp only [hv, if_false, hc, if_true]
set_option maxRecDepth 20000 in
theorem implF_ill (l : List UInt8) (k : Nat) (h : Pl.nameGood l k = true) (hv : ¬ l.length ≤ (Pl.vend l (l.length + 1) (Pl.stop Pl.blank l (Pl.stop Pl.nb l k) + 1) k).1) (hc : Pl.crlf l (Pl.vend l (l.length + 1) (Pl.stop Pl.blank l (Pl.stop Pl.nb l k) + 1) k).1 = false) :
    Pl.implF l k = .inl (Pl.vend l (l.length + 1) (Pl.stop Pl.blank l (Pl.stop Pl.nb l k) + 1) k).2 := by
  rw [Pl.implF, if_pos h]; simp only [hv, if_false, hc, Bool.false_eq_true]
set_option maxRecDepth 20000 in
set_option maxHeartbeats 4000000 in
theorem scFields (g : Nat) (s : ByteArray) (b : Nat) (w : World) (hs : s.size ≤ 100000) (h : Sc w g s 0 b) :
    Calls Tryz.prog 50 #[scp g] w fun e w' => FPost s (Pl.readHead s.data.toList) w g e w' := by
  obtain ⟨i0, hi, hy0, hy1, hy2⟩ := info_parts Tryz.info43
  have hll : s.data.toList.length = s.size := by simp
  obtain ⟨R, hR⟩ : ∃ R, Pl.readHead s.data.toList = R := ⟨_, rfl⟩
  rw [hR]
  have HR0 : Hid (∃ f, s.data.toList.length + 1 ≤ f + 0 ∧ Pl.rd s.data.toList f 0 [] = R) := show ∃ _, _ from ⟨_, Nat.le_refl _, hR⟩
  have Hsc := (show Hid _ from h)
  have hgw := h.lt
  clear hR h
  go_enter Tryz.func50, Tryz.ntmps50
  go_wp2
  go_loopw [3] (fun v wr => ∃ (k b' : Nat) (F : List Fl), k ≤ s.size ∧ F.length ≤ 200 ∧ Hid (Sc wr g s k b') ∧ Hid (OwnF w.heap.size v F wr) ∧ Hid (∃ f, s.data.toList.length + 1 ≤ f + k ∧ Pl.rd s.data.toList f k F = R) ∧ Hid (w.grownBy wr (some g))) (fun _ wr => s.size - atOf wr g)
  case atStart => exact ⟨0, b, [], Nat.zero_le _, Nat.zero_le _, Hsc, OwnF.nil _ _, HR0, grown_refl _ _⟩
  case round =>
    clear HR0 Hsc
    obtain ⟨k, b', F, hk, hF, Hsc, Hown, HR, Hg⟩ := hrel
    have hEn := scEnded g s k b' wr Hsc.out
    by_cases hkn : k < s.size
    · rw [show ((k : Int) == (s.size : Int)) = false from by simp; omega] at hEn
      cases hcr : Pl.crlf s.data.toList k
      · have HL := (show Hid _ from fun (w : World) h => scLineEndNo g s k b' w hs hk h hcr)
        go_wp2_with fail
        refine hEn.mono ?_
        rintro e w1 ⟨rfl, hb1⟩
        go_wp2_with fail
        refine (HL.out _ (Hsc.out.below hb1)).mono ?_
        rintro e w2 ⟨rfl, hb2⟩
        have S2 := (show Hid _ from (Hsc.out.below hb1).below hb2)
        have G2 := (show Hid _ from grown_trans Hg.out (grown_trans (grown_below hb1) (grown_below hb2)))
        have O2 := (show Hid (OwnF w.heap.size u3 F w2) from (Hown.out.grown (grown_below (r := some g) hb1) hgw).grown (grown_below (r := some g) hb2) hgw)
        clear hb1 hb2 HL hEn
        have c1 := S2.out.c1
        have c2 := S2.out.c2
        have f2 := S2.out.f2
        have S3 := (show Hid _ from S2.out.set2 (k : Int) k rfl)
        have G3 := (show Hid _ from grown_trans G2.out (grown_set w2 g 2 (.int .i64 (k : Int))))
        have O3 := (show Hid (OwnF w.heap.size u3 F (w2.setCell ⟨g, 2, none⟩ (.int .i64 (k : Int)))) from O2.out.grown (grown_set w2 g 2 _) hgw)
        cases hng : Pl.nameGood s.data.toList k
        · have HN := (show Hid _ from fun (w : World) h => scNameNo g s k k w hs hk h hng)
          have hRe : Hid (R = ⟨3, k, 0, []⟩) := show _ = _ from Pl.rd_fault _ k k F R (by omega) hcr (implF_no _ _ hng) HR.out
          clear hcr hng HR
          go_wp2_with fail
          refine (HN.out _ S3.out).mono ?_
          rintro e w4 ⟨rfl, g4⟩
          refine ⟨rfl, ?_⟩
          rw [hRe.out]
          exact ⟨grown_trans G3.out g4, .inr ⟨rfl, rfl, rfl⟩⟩
        · have hq : Pl.stop Pl.blank s.data.toList (Pl.stop Pl.nb s.data.toList k) < s.size := by
            have := hng
            rw [Pl.nameGood, Bool.and_eq_true, Bool.and_eq_true, decide_eq_true_eq] at this
            have := this.2.1
            omega
          have hp0 := Pl.stop_ge Pl.nb s.data.toList k (by omega)
          have hp1 := Pl.stop_le Pl.nb s.data.toList k (by omega)
          have hq0 := Pl.stop_ge Pl.blank s.data.toList (Pl.stop Pl.nb s.data.toList k) (by omega)
          have HN := (show Hid _ from fun (w : World) h => scNameYes g s k k w hs hk h hng)
          have HV := (show Hid _ from fun (w : World) h => scValue g s (Pl.stop Pl.blank s.data.toList (Pl.stop Pl.nb s.data.toList k) + 1) k w hs (by omega) h)
          have i1 := implF_end s.data.toList k hng
          have i2 := implF_line s.data.toList k hng
          have i3 := implF_ill s.data.toList k hng
          clear hng
          generalize Pl.stop Pl.nb s.data.toList k = p at *
          generalize Pl.stop Pl.blank s.data.toList p = q at *
          generalize Pl.vend s.data.toList (s.data.toList.length + 1) (q + 1) k = V at *
          have I1 := (show Hid _ from i1)
          have I2 := (show Hid _ from i2)
          have I3 := (show Hid _ from i3)
          have Hcr := (show Hid _ from hcr)
          obtain ⟨o, cap, hu⟩ := Hown.out.shape
          subst hu
          clear hcr i1 i2 i3
          go_wp2_with fail
          refine (HN.out _ S3.out).mono ?_
          rintro e w4 ⟨rfl, s4, g4⟩
          have S4 := (show Hid _ from s4)
          have G4 := (show Hid _ from grown_trans G3.out g4)
          have O4 := (show Hid (OwnF w.heap.size (.slice o F.length cap) F w4) from OwnF.grown O3.out g4 hgw)
          clear s4 g4 c1 c2 f2 S2 G2 O2 S3 G3 O3
          go_wp2_with fail
          refine (HV.out _ S4.out).mono ?_
          rintro e w5 ⟨g5, hpost⟩
          have G5 := (show Hid _ from grown_trans G4.out g5)
          have O5 := (show Hid (OwnF w.heap.size (.slice o F.length cap) F w5) from OwnF.grown O4.out g5 hgw)
          clear g5
          have hpost' : (∃ x, e = .returned (.string (s.extract (q + 1) V.1)) ∧ Sc w5 g s x V.2 ∧ Pl.implF s.data.toList k = .inr (Pl.sl s.data.toList k p, Pl.sl s.data.toList (q + 1) V.1, x) ∧ k < x ∧ x ≤ s.size) ∨ (e = .panicked (flt 3 V.2) ∧ Pl.implF s.data.toList k = .inl V.2) := by
            rcases hpost with ⟨h1, h2, h3⟩ | ⟨h1, h0, h2, h3, h4⟩ | ⟨h1, h2, h3⟩
            · refine .inl ⟨V.1, h2, h3, ?_, by omega, by omega⟩
              rw [I1.out (by omega), h1, hll]
            · have := (Pl.crlf_b _ _ h2).2.2
              exact .inl ⟨V.1 + 2, h3, h4, I2.out (by omega) h2, by omega, by omega⟩
            · exact .inr ⟨h3, I3.out (by omega) h2⟩
          clear hpost I1 I2 I3
          rcases hpost' with ⟨x, rfl, s5, hf, hx0, hx1⟩ | ⟨rfl, hf⟩
          · have S5 := (show Hid _ from s5)
            clear s5
            have e1 := ext_sl s k p
            have e2 := ext_sl s (q + 1) V.1
            rw [← e1, ← e2] at hf
            clear e1 e2
            generalize s.extract k p = nm at *
            generalize s.extract (q + 1) V.1 = vl at *
            by_cases h200 : F.length = 200
            · have hRe : Hid (R = ⟨4, k, 0, []⟩) := show _ = _ from Pl.rd_many _ k x _ _ F R (by omega) Hcr.out hf h200 HR.out
              have hb2 : ((F.length : Int) == 200) = true := by rw [h200]; rfl
              clear hf HR
              go_wp2
              refine ⟨rfl, ?_⟩
              rw [hRe.out]
              exact ⟨grown_trans G5.out (grown_below ((Below.refl _ _).alloc (Nat.le_refl _) _)), .inr ⟨rfl, rfl, rfl⟩⟩
            · have hRe : Hid (∃ f, s.data.toList.length + 1 ≤ f + x ∧ Pl.rd s.data.toList f x (F ++ [(nm.data.toList, vl.data.toList)]) = R) := Pl.rd_step _ k x _ _ F R (by omega) Hcr.out hf hx0 h200 HR.out
              have hb2 : ((F.length : Int) == 200) = false := by rw [Bool.eq_false_iff]; intro e; have := beq_iff_eq.1 e; omega
              clear hf HR
              have hal : Below w5.heap.size w5 (w5.alloc (.cells #[.string nm, .string vl] 51)) := (Below.refl _ _).alloc (Nat.le_refl _) _
              have OA := (show Hid (OwnF w.heap.size (.slice o F.length cap) F (w5.alloc (.cells #[.string nm, .string vl] 51))) from OwnF.grown O5.out (grown_below (r := some g) hal) hgw)
              have hres := (S5.out.below hal).blk
              have hsz : w.heap.size ≤ (w5.alloc (.cells #[.string nm, .string vl] 51)).heap.size := Nat.le_trans G5.out.size hal.size
              have hcs : #[Value.string nm, Value.string vl] = #[txt nm.data.toList, txt vl.data.toList] := by rw [txt_eta, txt_eta]
              have GA := (show Hid _ from grown_trans G5.out (grown_below (r := some g) hal))
              clear hal
              have Hres := (show Hid _ from hres)
              have Hsz := (show Hid _ from hsz)
              have Hcs := (show Hid _ from hcs)
              clear hres hsz hcs
              go_wp2_with (at_builtin; go_must (refine wp_appF (W := w5.alloc (.cells #[.string nm, .string vl] 51)) rfl _ _ 37 rfl i0 Tryz.underlying37 hi hy0 hy1 hy2 w.heap.size (.slice o F.length cap) F rfl OA.out (nm.data.toList, vl.data.toList) _ Hcs.out 1 (by rw [show (w5.alloc (.cells #[.string nm, .string vl] 51)).heap.size = w5.heap.size + 1 from by simp]; rfl) (by omega) Hsz.out (Below.refl _ _) g _ 79 (0, 0) (by decide) Hres.out ?_; intro v' w' hown' hb' hres'))
              have S6 : Hid (Sc w' g s x V.2) := ⟨hres'⟩
              have G6 := (show Hid _ from grown_over GA.out hb')
              have O6 := (show Hid (OwnF w.heap.size v' (F ++ [(nm.data.toList, vl.data.toList)]) w') from hown')
              have hat : Hid (atOf wr g = k) := Hsc.out.at
              go_roundw
              case rel => exact ⟨x, V.2, _, hx1, by simp; omega, S6, O6, hRe, G6⟩
              case measure =>
                have := S6.out.at
                rw [hat.out, this]
                omega
          · have hRe : Hid (R = ⟨3, V.2, 0, []⟩) := show _ = _ from Pl.rd_fault _ k V.2 F R (by omega) Hcr.out hf HR.out
            refine ⟨rfl, ?_⟩
            rw [hRe.out]
            exact ⟨G5.out, .inr ⟨rfl, rfl, rfl⟩⟩
      · have HL := (show Hid _ from fun (w : World) h => scLineEndYes g s k b' w hs hk h hcr)
        have hRe : Hid (R = ⟨0, 0, k + 2, F⟩) := show _ = _ from Pl.rd_crlf _ k F R (by omega) hcr HR.out
        clear hcr HR
        go_wp2_with fail
        refine hEn.mono ?_
        rintro e w1 ⟨rfl, hb1⟩
        go_wp2_with fail
        refine (HL.out _ (Hsc.out.below hb1)).mono ?_
        rintro e w2 ⟨rfl, s2, g2⟩
        have S2 := (show Hid _ from s2)
        have G2 := (show Hid _ from grown_trans Hg.out (grown_trans (grown_below hb1) g2))
        have O2 := (show Hid (OwnF w.heap.size u3 F w2) from (Hown.out.grown (grown_below (r := some g) hb1) hgw).grown g2 hgw)
        clear hb1 s2 g2 HL hEn
        go_wp2
        go_ret
        rw [hRe.out]
        exact ⟨G2.out, .inl ⟨rfl, rfl, _, _, rfl, O2.out, S2.out⟩⟩
    · have hkk : k = s.size := by omega
      rw [show ((k : Int) == (s.size : Int)) = true from by simp; omega] at hEn
      have hRe : Hid (R = ⟨0, 0, s.data.toList.length, F⟩) := show _ = _ from Pl.rd_end _ k F R (by omega) HR.out (by omega)
      clear HR
      have Hkk := (show Hid _ from hkk)
      clear hkk hkn
      go_wp2_with fail
      refine hEn.mono ?_
      rintro e w1 ⟨rfl, hb1⟩
      have S2 := (show Hid _ from Hsc.out.below hb1)
      have G2 := (show Hid _ from grown_trans Hg.out (grown_below hb1))
      have O2 := (show Hid (OwnF w.heap.size u3 F w1) from Hown.out.grown (grown_below (r := some g) hb1) hgw)
      clear hb1 hEn
      go_wp2
      go_ret
      rw [hRe.out]
      refine ⟨G2.out, .inl ⟨rfl, rfl, _, b', rfl, O2.out, ?_⟩⟩
      show Sc _ g s s.data.toList.length _
      rw [hll, ← Hkk.out]
      exact S2.out
end Go.Proofs.YtgabjiamabbheaaGreatDoor
