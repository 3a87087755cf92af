
/- The walk of the program's scanner: all fields. -/

/- The walk of the program's ReadHead: its deferred closure, its two ways. -/

/- Heads read, of any text, on both sides, with the fields as they lie in memory. -/
import Derived.Test.YtajkahpkbeobaaaGreatDoorOwnF
import Derived.Test.YtajkahpkbeobaaaGreatDoorReadSpec
import Derived.Defers
import Derived.Recover
import Derived.Laws.Pointers
namespace Go.Proofs.YtajkahpkbeobaaaGreatDoor
open Go.RowKit Go.Lib
def FPost (s : ByteArray) (R : HR) (w : World) (g : Nat) (e : Ending) (w' : World) : Prop :=
  w.grownBy w' (some g) ∧ ((R.code = 0 ∧ R.at_ = 0 ∧ ∃ v b', e = .returned v ∧ OwnF w.heap.size v R.fields w' ∧ Sc w' g s R.body b') ∨ (R.fields = [] ∧ R.body = 0 ∧ e = .panicked (flt R.code R.at_)))
set_option maxRecDepth 20000 in
theorem grown_over {w wr w' : World} {r : Option Nat} (h : w.grownBy wr r) (hb : Below w.heap.size wr w') : w.grownBy w' r :=
  ⟨hb.os.trans h.os, hb.tape.trans h.tape, hb.output.trans h.output, Nat.le_trans h.size hb.size, fun k hk hr => (hb.block k hk).trans (h.block k hk hr)⟩
set_option maxRecDepth 20000 in
theorem OwnF.grown {B : Nat} {v : Value} {F : List Fl} {w w' : World} {g : Nat} (h : OwnF B v F w) (hg : w.grownBy w' (some g)) (hB : g < B) : OwnF B v F w' := by
  obtain ⟨h1, h2⟩ := h
  refine ⟨h1, ?_⟩
  rcases h2 with h2 | ⟨k, cap, cur, e, hk, hc, r⟩
  · exact .inl h2
  · refine .inr ⟨k, cap, cur, e, hk, ?_, r⟩
    have hlt : k < w.heap.size := by
      by_cases h : k < w.heap.size
      · exact h
      · rw [Array.getElem?_eq_none (by omega)] at hc; cases hc
    rw [hg.block k hlt (by intro e; have := Option.some.inj e; omega)]
    exact hc
set_option maxRecDepth 20000 in
theorem implF_no (l : List UInt8) (k : Nat) (h : Pl.nameGood l k = false) : Pl.implF l k = .inl k := by rw [Pl.implF, if_neg (by rw [h]; simp)]
set_option maxRecDepth 20000 in
theorem implF_end (l : List UInt8) (k : Nat) (h : Pl.nameGood l k = true) (hv : l.length ≤ (Pl.vend l (l.length + 1) (Pl.stop Pl.blank l (Pl.stop Pl.nb l k) + 1) k).1) :
    Pl.implF l k = .inr (Pl.sl l k (Pl.stop Pl.nb l k), Pl.sl l (Pl.stop Pl.blank l (Pl.stop Pl.nb l k) + 1) l.length, l.length) := by
  rw [Pl.implF, if_pos h]; simp only [hv, if_true]
set_option maxRecDepth 20000 in
theorem implF_line (l : List UInt8) (k : Nat) (h : Pl.nameGood l k = true) (hv : ¬ l.length ≤ (Pl.vend l (l.length + 1) (Pl.stop Pl.blank l (Pl.stop Pl.nb l k) + 1) k).1) (hc : Pl.crlf l (Pl.vend l (l.length + 1) (Pl.stop Pl.blank l (Pl.stop Pl.nb l k) + 1) k).1 = true) :
    Pl.implF l k = .inr (Pl.sl l k (Pl.stop Pl.nb l k), Pl.sl l (Pl.stop Pl.blank l (Pl.stop Pl.nb l k) + 1) (Pl.vend l (l.length + 1) (Pl.stop Pl.blank l (Pl.stop Pl.nb l k) + 1) k).1, (Pl.vend l (l.length + 1) (Pl.stop Pl.blank l (Pl.stop Pl.nb l k) + 1) k).1 + 2) := by
  rw [Pl.implF, if_pos h]; simp only [hv, if_false, hc, if_true]
set_option maxRecDepth 20000 in
theorem implF_ill (l : List UInt8) (k : Nat) (h : Pl.nameGood l k = true) (hv : ¬ l.length ≤ (Pl.vend l (l.length + 1) (Pl.stop Pl.blank l (Pl.stop Pl.nb l k) + 1) k).1) (hc : Pl.crlf l (Pl.vend l (l.length + 1) (Pl.stop Pl.blank l (Pl.stop Pl.nb l k) + 1) k).1 = false) :
    Pl.implF l k = .inl (Pl.vend l (l.length + 1) (Pl.stop Pl.blank l (Pl.stop Pl.nb l k) + 1) k).2 := by
  rw [Pl.implF, if_pos h]; simp only [hv, if_false, hc, Bool.false_eq_true]
set_option maxRecDepth 20000 in
set_option maxHeartbeats 4000000 in
theorem scFields (g : Nat) (s : ByteArray) (b : Nat) (w : World) (hs : s.size ≤ 100000) (h : Sc w g s 0 b) :
    Calls Tryz.prog 39 #[scp g] w fun e w' => FPost s (Pl.readHead s.data.toList) w g e w' := by
  obtain ⟨i0, hi, hy0, hy1, hy2⟩ := info_parts Tryz.info43
  have hll : s.data.toList.length = s.size := by simp
  obtain ⟨R, hR⟩ : ∃ R, Pl.readHead s.data.toList = R := ⟨_, rfl⟩
  rw [hR]
  have HR0 : Hid (∃ f, s.data.toList.length + 1 ≤ f + 0 ∧ Pl.rd s.data.toList f 0 [] = R) := show ∃ _, _ from ⟨_, Nat.le_refl _, hR⟩
  have Hsc := (show Hid _ from h)
  have hgw := h.lt
  clear hR h
  go_enter Tryz.func39, Tryz.ntmps39
  go_wp2
  go_loopw [3] (fun v wr => ∃ (k b' : Nat) (F : List Fl), k ≤ s.size ∧ F.length ≤ 200 ∧ Hid (Sc wr g s k b') ∧ Hid (OwnF w.heap.size v F wr) ∧ Hid (∃ f, s.data.toList.length + 1 ≤ f + k ∧ Pl.rd s.data.toList f k F = R) ∧ Hid (w.grownBy wr (some g))) (fun _ wr => s.size - atOf wr g)
  case atStart => exact ⟨0, b, [], Nat.zero_le _, Nat.zero_le _, Hsc, OwnF.nil _ _, HR0, grown_refl _ _⟩
  case round =>
    clear HR0 Hsc
    obtain ⟨k, b', F, hk, hF, Hsc, Hown, HR, Hg⟩ := hrel
    have hEn := scEnded g s k b' wr Hsc.out
    by_cases hkn : k < s.size
    · rw [show ((k : Int) == (s.size : Int)) = false from by simp; omega] at hEn
      cases hcr : Pl.crlf s.data.toList k
      · have HL := (show Hid _ from fun (w : World) h => scLineEndNo g s k b' w hs hk h hcr)
        go_wp2_with fail
        refine hEn.mono ?_
        rintro e w1 ⟨rfl, hb1⟩
        go_wp2_with fail
        refine (HL.out _ (Hsc.out.below hb1)).mono ?_
        rintro e w2 ⟨rfl, hb2⟩
        have S2 := (show Hid _ from (Hsc.out.below hb1).below hb2)
        have G2 := (show Hid _ from grown_trans Hg.out (grown_trans (grown_below hb1) (grown_below hb2)))
        have O2 := (show Hid (OwnF w.heap.size u3 F w2) from (Hown.out.grown (grown_below (r := some g) hb1) hgw).grown (grown_below (r := some g) hb2) hgw)
        clear hb1 hb2 HL hEn
        have c1 := S2.out.c1
        have c2 := S2.out.c2
        have f2 := S2.out.f2
        have S3 := (show Hid _ from S2.out.set2 (k : Int) k rfl)
        have G3 := (show Hid _ from grown_trans G2.out (grown_set w2 g 2 (.int .i64 (k : Int))))
        have O3 := (show Hid (OwnF w.heap.size u3 F (w2.setCell ⟨g, 2, none⟩ (.int .i64 (k : Int)))) from O2.out.grown (grown_set w2 g 2 _) hgw)
        cases hng : Pl.nameGood s.data.toList k
        · have HN := (show Hid _ from fun (w : World) h => scNameNo g s k k w hs hk h hng)
          have hRe : Hid (R = ⟨3, k, 0, []⟩) := show _ = _ from Pl.rd_fault _ k k F R (by omega) hcr (implF_no _ _ hng) HR.out
          clear hcr hng HR
          go_wp2_with fail
          refine (HN.out _ S3.out).mono ?_
          rintro e w4 ⟨rfl, g4⟩
          refine ⟨rfl, ?_⟩
          rw [hRe.out]
          exact ⟨grown_trans G3.out g4, .inr ⟨rfl, rfl, rfl⟩⟩
        · have hq : Pl.stop Pl.blank s.data.toList (Pl.stop Pl.nb s.data.toList k) < s.size := by
            have := hng
            rw [Pl.nameGood, Bool.and_eq_true, Bool.and_eq_true, decide_eq_true_eq] at this
            have := this.2.1
            omega
          have hp0 := Pl.stop_ge Pl.nb s.data.toList k (by omega)
          have hp1 := Pl.stop_le Pl.nb s.data.toList k (by omega)
          have hq0 := Pl.stop_ge Pl.blank s.data.toList (Pl.stop Pl.nb s.data.toList k) (by omega)
          have HN := (show Hid _ from fun (w : World) h => scNameYes g s k k w hs hk h hng)
          have HV := (show Hid _ from fun (w : World) h => scValue g s (Pl.stop Pl.blank s.data.toList (Pl.stop Pl.nb s.data.toList k) + 1) k w hs (by omega) h)
          have i1 := implF_end s.data.toList k hng
          have i2 := implF_line s.data.toList k hng
          have i3 := implF_ill s.data.toList k hng
          clear hng
          generalize Pl.stop Pl.nb s.data.toList k = p at *
          generalize Pl.stop Pl.blank s.data.toList p = q at *
          generalize Pl.vend s.data.toList (s.data.toList.length + 1) (q + 1) k = V at *
          have I1 := (show Hid _ from i1)
          have I2 := (show Hid _ from i2)
          have I3 := (show Hid _ from i3)
          have Hcr := (show Hid _ from hcr)
          obtain ⟨o, cap, hu⟩ := Hown.out.shape
          subst hu
          clear hcr i1 i2 i3
          go_wp2_with fail
          refine (HN.out _ S3.out).mono ?_
          rintro e w4 ⟨rfl, s4, g4⟩
          have S4 := (show Hid _ from s4)
          have G4 := (show Hid _ from grown_trans G3.out g4)
          have O4 := (show Hid (OwnF w.heap.size (.slice o F.length cap) F w4) from OwnF.grown O3.out g4 hgw)
          clear s4 g4 c1 c2 f2 S2 G2 O2 S3 G3 O3
          go_wp2_with fail
          refine (HV.out _ S4.out).mono ?_
          rintro e w5 ⟨g5, hpost⟩
          have G5 := (show Hid _ from grown_trans G4.out g5)
          have O5 := (show Hid (OwnF w.heap.size (.slice o F.length cap) F w5) from OwnF.grown O4.out g5 hgw)
          clear g5
          have hpost' : (∃ x, e = .returned (.string (s.extract (q + 1) V.1)) ∧ Sc w5 g s x V.2 ∧ Pl.implF s.data.toList k = .inr (Pl.sl s.data.toList k p, Pl.sl s.data.toList (q + 1) V.1, x) ∧ k < x ∧ x ≤ s.size) ∨ (e = .panicked (flt 3 V.2) ∧ Pl.implF s.data.toList k = .inl V.2) := by
            rcases hpost with ⟨h1, h2, h3⟩ | ⟨h1, h0, h2, h3, h4⟩ | ⟨h1, h2, h3⟩
            · refine .inl ⟨V.1, h2, h3, ?_, by omega, by omega⟩
              rw [I1.out (by omega), h1, hll]
            · have := (Pl.crlf_b _ _ h2).2.2
              exact .inl ⟨V.1 + 2, h3, h4, I2.out (by omega) h2, by omega, by omega⟩
            · exact .inr ⟨h3, I3.out (by omega) h2⟩
          clear hpost I1 I2 I3
          rcases hpost' with ⟨x, rfl, s5, hf, hx0, hx1⟩ | ⟨rfl, hf⟩
          · have S5 := (show Hid _ from s5)
            clear s5
            have e1 := ext_sl s k p
            have e2 := ext_sl s (q + 1) V.1
            rw [← e1, ← e2] at hf
            clear e1 e2
            generalize s.extract k p = nm at *
            generalize s.extract (q + 1) V.1 = vl at *
            by_cases h200 : F.length = 200
            · have hRe : Hid (R = ⟨4, k, 0, []⟩) := show _ = _ from Pl.rd_many _ k x _ _ F R (by omega) Hcr.out hf h200 HR.out
              have hb2 : ((F.length : Int) == 200) = true := by rw [h200]; rfl
              clear hf HR
              go_wp2
              refine ⟨rfl, ?_⟩
              rw [hRe.out]
              exact ⟨grown_trans G5.out (grown_below ((Below.refl _ _).alloc (Nat.le_refl _) _)), .inr ⟨rfl, rfl, rfl⟩⟩
            · have hRe : Hid (∃ f, s.data.toList.length + 1 ≤ f + x ∧ Pl.rd s.data.toList f x (F ++ [(nm.data.toList, vl.data.toList)]) = R) := Pl.rd_step _ k x _ _ F R (by omega) Hcr.out hf hx0 h200 HR.out
              have hb2 : ((F.length : Int) == 200) = false := by rw [Bool.eq_false_iff]; intro e; have := beq_iff_eq.1 e; omega
              clear hf HR
              have hal : Below w5.heap.size w5 (w5.alloc (.cells #[.string nm, .string vl] 48)) := (Below.refl _ _).alloc (Nat.le_refl _) _
              have OA := (show Hid (OwnF w.heap.size (.slice o F.length cap) F (w5.alloc (.cells #[.string nm, .string vl] 48))) from OwnF.grown O5.out (grown_below (r := some g) hal) hgw)
              have hres := (S5.out.below hal).blk
              have hsz : w.heap.size ≤ (w5.alloc (.cells #[.string nm, .string vl] 48)).heap.size := Nat.le_trans G5.out.size hal.size
              have hcs : #[Value.string nm, Value.string vl] = #[txt nm.data.toList, txt vl.data.toList] := by rw [txt_eta, txt_eta]
              have GA := (show Hid _ from grown_trans G5.out (grown_below (r := some g) hal))
              clear hal
              have Hres := (show Hid _ from hres)
              have Hsz := (show Hid _ from hsz)
              have Hcs := (show Hid _ from hcs)
              clear hres hsz hcs
              go_wp2_with (at_builtin; go_must (refine wp_appF (W := w5.alloc (.cells #[.string nm, .string vl] 48)) rfl _ _ 24 rfl i0 Tryz.underlying24 hi hy0 hy1 hy2 w.heap.size (.slice o F.length cap) F rfl OA.out (nm.data.toList, vl.data.toList) _ Hcs.out 1 (by rw [show (w5.alloc (.cells #[.string nm, .string vl] 48)).heap.size = w5.heap.size + 1 from by simp]; rfl) (by omega) Hsz.out (Below.refl _ _) g _ 60 (0, 0) (by decide) Hres.out ?_; intro v' w' hown' hb' hres'))
              have S6 : Hid (Sc w' g s x V.2) := ⟨hres'⟩
              have G6 := (show Hid _ from grown_over GA.out hb')
              have O6 := (show Hid (OwnF w.heap.size v' (F ++ [(nm.data.toList, vl.data.toList)]) w') from hown')
              have hat : Hid (atOf wr g = k) := Hsc.out.at
              go_roundw
              case rel => exact ⟨x, V.2, _, hx1, by simp; omega, S6, O6, hRe, G6⟩
              case measure =>
                have := S6.out.at
                rw [hat.out, this]
                omega
          · have hRe : Hid (R = ⟨3, V.2, 0, []⟩) := show _ = _ from Pl.rd_fault _ k V.2 F R (by omega) Hcr.out hf HR.out
            refine ⟨rfl, ?_⟩
            rw [hRe.out]
            exact ⟨G5.out, .inr ⟨rfl, rfl, rfl⟩⟩
      · have HL := (show Hid _ from fun (w : World) h => scLineEndYes g s k b' w hs hk h hcr)
        have hRe : Hid (R = ⟨0, 0, k + 2, F⟩) := show _ = _ from Pl.rd_crlf _ k F R (by omega) hcr HR.out
        clear hcr HR
        go_wp2_with fail
        refine hEn.mono ?_
        rintro e w1 ⟨rfl, hb1⟩
        go_wp2_with fail
        refine (HL.out _ (Hsc.out.below hb1)).mono ?_
        rintro e w2 ⟨rfl, s2, g2⟩
        have S2 := (show Hid _ from s2)
        have G2 := (show Hid _ from grown_trans Hg.out (grown_trans (grown_below hb1) g2))
        have O2 := (show Hid (OwnF w.heap.size u3 F w2) from (Hown.out.grown (grown_below (r := some g) hb1) hgw).grown g2 hgw)
        clear hb1 s2 g2 HL hEn
        go_wp2
        go_ret
        rw [hRe.out]
        exact ⟨G2.out, .inl ⟨rfl, rfl, _, _, rfl, O2.out, S2.out⟩⟩
    · have hkk : k = s.size := by omega
      rw [show ((k : Int) == (s.size : Int)) = true from by simp; omega] at hEn
      have hRe : Hid (R = ⟨0, 0, s.data.toList.length, F⟩) := show _ = _ from Pl.rd_end _ k F R (by omega) HR.out (by omega)
      clear HR
      have Hkk := (show Hid _ from hkk)
      clear hkk hkn
      go_wp2_with fail
      refine hEn.mono ?_
      rintro e w1 ⟨rfl, hb1⟩
      have S2 := (show Hid _ from Hsc.out.below hb1)
      have G2 := (show Hid _ from grown_trans Hg.out (grown_below hb1))
      have O2 := (show Hid (OwnF w.heap.size u3 F w1) from Hown.out.grown (grown_below (r := some g) hb1) hgw)
      clear hb1 hEn
      go_wp2
      go_ret
      rw [hRe.out]
      refine ⟨G2.out, .inl ⟨rfl, rfl, _, b', rfl, O2.out, ?_⟩⟩
      show Sc _ g s s.data.toList.length _
      rw [hll, ← Hkk.out]
      exact S2.out
end Go.Proofs.YtajkahpkbeobaaaGreatDoor
namespace Go.Proofs.YtajkahpkbeobaaaGreatDoor
open Go.RowKit Go.Lib
set_option maxRecDepth 20000 in
set_option maxHeartbeats 1000000 in
theorem faultYes (c b : Int) (w : World) :
    Calls Tryz.prog 38 #[.iface 56 (.agg #[.int .i64 c, .int .i64 b])] w fun e w' => e = .returned (.tuple #[.agg #[.int .i64 c, .int .i64 b], .bool true]) ∧ Below w.heap.size w w' := by
  have hta : ∀ w : World, (Instr.typeAssert (.iface 56 (.agg #[.int .i64 c, .int .i64 b])) 20 56 true).run Tryz.prog w = .ok (.tuple #[.agg #[.int .i64 c, .int .i64 b], .bool true]) w := fun w => by kernel_rfl
  go_enter Tryz.func38, Tryz.ntmps38
  go_wp2
  refine bodyPost_ret (v := .tuple #[.agg #[.int .i64 c, .int .i64 b], .bool true]) (by simp [results, Tryz.results38, go_sem]) rfl ⟨rfl, ?_⟩
  exact ((Below.refl _ _).alloc (Nat.le_refl _) _).alloc (by simp) _
set_option maxRecDepth 20000 in
set_option maxHeartbeats 1000000 in
theorem faultNo (w : World) :
    Calls Tryz.prog 38 #[.nilIface] w fun e w' => e = .returned (.tuple #[.agg #[.int .i64 0, .int .i64 0], .bool false]) ∧ Below w.heap.size w w' := by
  have hta : ∀ w : World, (Instr.typeAssert .nilIface 20 56 true).run Tryz.prog w = .ok (.tuple #[.agg #[.int .i64 0, .int .i64 0], .bool false]) w := fun w => by kernel_rfl
  go_enter Tryz.func38, Tryz.ntmps38
  go_wp2
  refine bodyPost_ret (v := .tuple #[.agg #[.int .i64 0, .int .i64 0], .bool false]) (by simp [results, Tryz.results38, go_sem]) rfl ⟨rfl, ?_⟩
  exact ((Below.refl _ _).alloc (Nat.le_refl _) _).alloc (by simp) _
abbrev hd0 : Obj := .cells #[.int .i64 0, .int .i64 0, .slice none 0 0, .int .i64 0] 26
set_option maxRecDepth 20000 in
set_option maxHeartbeats 1000000 in
theorem catchNo (p : Nat) (w : World) :
    CallsD Tryz.prog 37 #[.pointer (some ⟨p, 0, none⟩)] .returning w fun e u' w' => e = .returned (.tuple #[]) ∧ u' = .returning ∧ Below w.heap.size w w' := by
  refine callsD_of_wpS Tryz.func37 rfl fun c₀ cs hu => ?_
  apply wpS_seq
  apply wpS_region
  simp [wpOpsS, go_sem, recoverD, hu, Tryz.ntmps37, Exit.thenS]
  refine (faultNo w).mono ?_
  rintro e w1 ⟨rfl, hb1⟩
  simp [go_sem, Array.replicate]
  refine wpS_of_wp ?_
  go_wp2
  refine ⟨rfl, .returning, ?_, .tuple #[], by simp [results, Tryz.results37, go_sem], rfl, rfl, hb1.alloc hb1.size _⟩
  cases c₀
  simp_all
set_option maxRecDepth 20000 in
set_option maxHeartbeats 1000000 in
theorem catchYes (p : Nat) (c b : Int) (w : World) (h : w.heap[p]? = some hd0) :
    CallsD Tryz.prog 37 #[.pointer (some ⟨p, 0, none⟩)] (.panicking [{ v := .iface 56 (.agg #[.int .i64 c, .int .i64 b]), recovered := false }]) w fun e u' w' => e = .returned (.tuple #[]) ∧ u' = .panicking [{ v := .iface 56 (.agg #[.int .i64 c, .int .i64 b]), recovered := true }] ∧
      w'.heap[p]? = some (.cells #[.int .i64 c, .int .i64 b, .slice none 0 0, .int .i64 0] 26) ∧ w.grownBy w' (some p) := by
  refine callsD_of_wpS Tryz.func37 rfl fun c₀ cs hu => ?_
  apply wpS_seq
  apply wpS_region
  simp [wpOpsS, go_sem, recoverD, hu, Tryz.ntmps37, Exit.thenS]
  refine (faultYes c b w).mono ?_
  rintro e w1 ⟨rfl, hb1⟩
  simp [go_sem, Array.replicate]
  have hp : p < w.heap.size := by
    by_cases hg : p < w.heap.size
    · exact hg
    · rw [Array.getElem?_eq_none (by omega)] at h; cases h
  have hbA : Below w.heap.size w (w1.alloc (.cells #[.int .i64 c, .int .i64 b] 56)) := hb1.alloc hb1.size _
  have hr : (w1.alloc (.cells #[.int .i64 c, .int .i64 b] 56)).heap[p]? = some hd0 := (hbA.block p hp).trans h
  obtain ⟨⟨q0, q1, q2, q3⟩, z0, z1, z2, z3⟩ := res_cells hr
  have Hr := (show Hid _ from hr)
  clear h hr hp
  refine wpS_of_wp ?_
  go_wp2
  refine ⟨rfl, _, ?_, .tuple #[], by simp [results, Tryz.results37, go_sem], rfl, rfl, ?_, ?_⟩
  · rfl
  · have := Hr.out
    simp [World.setCell, Array.getElem?_modify, this]
  · exact grown_trans (grown_trans (grown_trans (grown_trans (grown_below hbA) (grown_set _ _ _ _)) (grown_set _ _ _ _)) (grown_set _ _ _ _)) (grown_set _ _ _ _)
set_option maxRecDepth 20000 in
theorem alloc_last (w : World) (o : Obj) : (w.alloc o).heap[w.heap.size]? = some o := by simp only [World.alloc, Array.getElem?_push_size]
set_option maxRecDepth 20000 in
theorem grown_to {w w' : World} {g B : Nat} (h : w.grownBy w' (some g)) (hB : B ≤ g) (hw : B ≤ w.heap.size) : Below B w w' :=
  ⟨h.os, h.tape, h.output, h.size, fun k hk => h.block k (by omega) (by intro e; have := Option.some.inj e; omega)⟩
set_option maxRecDepth 20000 in
theorem OwnF.base {B B' : Nat} {v : Value} {F : List Fl} {w : World} (h : OwnF B v F w) (hB : B' ≤ B) : OwnF B' v F w := by
  obtain ⟨h1, h2⟩ := h
  refine ⟨h1, ?_⟩
  rcases h2 with h2 | ⟨k, cap, cur, e, hk, r⟩
  · exact .inl h2
  · exact .inr ⟨k, cap, cur, e, by omega, r⟩
set_option maxRecDepth 20000 in
set_option maxHeartbeats 4000000 in
theorem implReadHead (s : ByteArray) (w : World) (hs : s.size ≤ 100000) :
    Calls Tryz.prog 17 #[.string s] w fun e w' => ∃ v, e = .returned (.agg #[.int .i64 (Pl.readHead s.data.toList).code, .int .i64 (Pl.readHead s.data.toList).at_, v, .int .i64 (Pl.readHead s.data.toList).body]) ∧
      OwnF w.heap.size v (Pl.readHead s.data.toList).fields w' ∧ Below w.heap.size w w' := by
  have hmf : ∀ (fn : Fn) (first cap : Array Value) (w : World), (Instr.makeFunc fn first cap).run Tryz.prog w = .ok (.func fn first cap) w := fun _ _ _ _ => rfl
  have hT := fun w => implTooLong s w (by omega)
  simp only [decide_eq_false (show ¬ (100000 : Int) < (s.size : Int) by omega)] at hT
  have hsc : Sc ((w.alloc hd0).alloc (.cells #[.string s, .int .i64 0, .int .i64 0] 60)) (w.heap.size + 1) s 0 0 := ⟨by
    have h1 := alloc_last (w.alloc hd0) (.cells #[.string s, .int .i64 0, .int .i64 0] 60)
    rw [show (w.alloc hd0).heap.size = w.heap.size + 1 from by simp] at h1
    exact h1⟩
  have hF := scFields (w.heap.size + 1) s 0 _ hs hsc
  obtain ⟨R, hR⟩ : ∃ R, Pl.readHead s.data.toList = R := ⟨_, rfl⟩
  rw [hR] at hF ⊢
  have HF := (show Hid (Calls Tryz.prog 39 #[scp (w.heap.size + 1)] ((w.alloc hd0).alloc (.cells #[.string s, .int .i64 0, .int .i64 0] 60)) fun e w' => FPost s R ((w.alloc hd0).alloc (.cells #[.string s, .int .i64 0, .int .i64 0] 60)) (w.heap.size + 1) e w') from hF)
  clear hsc hF hR
  go_enter_defers Tryz.func17, Tryz.ntmps17
  go_wp2_with fail
  refine (hT _).mono ?_
  rintro e w1 ⟨rfl, rfl⟩
  go_wp2_with fail
  refine Calls.mono HF.out ?_
  rintro e w3 ⟨g3, h3⟩
  have hz : ((w.alloc hd0).alloc (.cells #[.string s, .int .i64 0, .int .i64 0] 60)).heap.size = w.heap.size + 2 := by simp
  have hp0 : ((w.alloc hd0).alloc (.cells #[.string s, .int .i64 0, .int .i64 0] 60)).heap[w.heap.size]? = some hd0 := (Below.heap_alloc (w.alloc hd0) _ w.heap.size (by simp)).trans (alloc_last w hd0)
  have hr : w3.heap[w.heap.size]? = some hd0 := (g3.block w.heap.size (by omega) (by intro e; have := Option.some.inj e; omega)).trans hp0
  have hbw : Below w.heap.size w w3 := (((Below.refl w.heap.size w).alloc (Nat.le_refl _) hd0).alloc (by simp) (.cells #[.string s, .int .i64 0, .int .i64 0] 60)).trans (grown_to g3 (by omega) (by omega))
  have hsz3 : w.heap.size + 2 ≤ w3.heap.size := by have := g3.size; omega
  clear hp0 g3
  rcases h3 with ⟨hc, ha, v, b', rfl, hown, hsc3⟩ | ⟨hf, hbd, rfl⟩
  · rw [hz] at hown
    obtain ⟨o, cap, rfl⟩ := hown.shape
    obtain ⟨⟨q0, q1, q2, q3⟩, z0, z1, z2, z3⟩ := res_cells hr
    have c1 := hsc3.c1
    have Hr := (show Hid _ from hr)
    have Ho := (show Hid (OwnF (w.heap.size + 2) (.slice o R.fields.length cap) R.fields w3) from hown)
    have Hb := (show Hid _ from hbw)
    clear hr hown hbw hsc3
    go_wp2
    refine leaves_cons (f := 37) (args := #[.pointer (some ⟨w.heap.size, 0, none⟩)]) (by simp) (by simp [go_sem]) ?_
    refine (catchNo w.heap.size _).mono ?_
    rintro e u' w'' ⟨rfl, rfl, hb⟩
    have hb : Below ((((w3.setCell ⟨w.heap.size, 0, none⟩ (.int .i64 0)).setCell ⟨w.heap.size, 1, none⟩ (.int .i64 0)).setCell ⟨w.heap.size, 2, none⟩ (.slice o R.fields.length cap)).setCell ⟨w.heap.size, 3, none⟩ (.int .i64 R.body)).heap.size ((((w3.setCell ⟨w.heap.size, 0, none⟩ (.int .i64 0)).setCell ⟨w.heap.size, 1, none⟩ (.int .i64 0)).setCell ⟨w.heap.size, 2, none⟩ (.slice o R.fields.length cap)).setCell ⟨w.heap.size, 3, none⟩ (.int .i64 R.body)) w'' := hb
    have h4 : ((((w3.setCell ⟨w.heap.size, 0, none⟩ (.int .i64 0)).setCell ⟨w.heap.size, 1, none⟩ (.int .i64 0)).setCell ⟨w.heap.size, 2, none⟩ (.slice o R.fields.length cap)).setCell ⟨w.heap.size, 3, none⟩ (.int .i64 R.body)).heap[w.heap.size]? = some (.cells #[.int .i64 0, .int .i64 0, .slice o R.fields.length cap, .int .i64 R.body] 26) := by
      have := Hr.out
      simp [World.setCell, Array.getElem?_modify, this]
    have g4 : w3.grownBy ((((w3.setCell ⟨w.heap.size, 0, none⟩ (.int .i64 0)).setCell ⟨w.heap.size, 1, none⟩ (.int .i64 0)).setCell ⟨w.heap.size, 2, none⟩ (.slice o R.fields.length cap)).setCell ⟨w.heap.size, 3, none⟩ (.int .i64 R.body)) (some w.heap.size) := grown_trans (grown_trans (grown_trans (grown_set _ _ _ _) (grown_set _ _ _ _)) (grown_set _ _ _ _)) (grown_set _ _ _ _)
    generalize ((((w3.setCell ⟨w.heap.size, 0, none⟩ (.int .i64 0)).setCell ⟨w.heap.size, 1, none⟩ (.int .i64 0)).setCell ⟨w.heap.size, 2, none⟩ (.slice o R.fields.length cap)).setCell ⟨w.heap.size, 3, none⟩ (.int .i64 R.body)) = w4 at *
    have hlt4 : w.heap.size < w4.heap.size := by have := g4.size; omega
    have h5 := (hb.block w.heap.size hlt4).trans h4
    clear q0 q1 q2 q3 z0 z1 z2 z3 c1 h4
    obtain ⟨⟨q0, q1, q2, q3⟩, z0, z1, z2, z3⟩ := res_cells h5
    have O5 : OwnF w.heap.size (.slice o R.fields.length cap) R.fields w'' := OwnF.grown (g := w.heap.size) (OwnF.grown (OwnF.base Ho.out (Nat.le_succ _)) g4 (Nat.lt_succ_self _)) (grown_below hb) (Nat.lt_succ_self _) |>.base (Nat.le_succ _)
    have B5 : Below w.heap.size w w'' := (Hb.out.trans (grown_to g4 (Nat.le_refl _) (by omega))).trans (hb.mono (by omega))
    have H5 := (show Hid (OwnF w.heap.size (.slice o R.fields.length cap) R.fields w'') from O5)
    have K5 := (show Hid _ from B5)
    clear O5 B5 hb g4 h5 Ho Hb Hr
    simp [Leaves, settle, results, Tryz.results17, go_sem, q0, q1, q2, q3]
    refine ⟨_, ⟨by rw [hc]; rfl, by rw [ha]; rfl, rfl⟩, H5.out, K5.out⟩
  · have Hb := (show Hid _ from hbw)
    have hy := catchYes w.heap.size R.code R.at_ w3 hr
    refine leaves_cons (f := 37) (args := #[.pointer (some ⟨w.heap.size, 0, none⟩)]) (by simp) (by simp [go_sem]) ?_
    refine hy.mono ?_
    rintro e u' w'' ⟨rfl, rfl, h4, g4⟩
    obtain ⟨⟨q0, q1, q2, q3⟩, z0, z1, z2, z3⟩ := res_cells h4
    have hbz := (show Hid _ from Hb.out.trans (grown_to g4 (Nat.le_refl _) (by omega)))
    clear g4 h4 hy hr hbw
    simp [Leaves, settle, results, Tryz.results17, go_sem, q0, q1, q2, q3]
    exact ⟨_, ⟨rfl, by rw [hbd]; rfl⟩, by rw [hf]; exact OwnF.nil _ _, hbz.out⟩
end Go.Proofs.YtajkahpkbeobaaaGreatDoor
namespace Go.Proofs.YtajkahpkbeobaaaGreatDoor
open Go.RowKit Go.Lib Go.Maps
def flsum (F : List Fl) : Nat := (F.map fun f => f.1.length + f.2.length + 3).sum
set_option maxRecDepth 20000 in
theorem flsum_app (F : List Fl) (f : Fl) : flsum (F ++ [f]) = flsum F + (f.1.length + f.2.length + 3) := by simp [flsum]
namespace Pl
set_option maxRecDepth 20000 in
theorem trimR_len (l : List UInt8) : (trimR l).length ≤ l.length := by
  obtain ⟨q, h, -⟩ := trimR_split l
  have := congrArg List.length h
  rw [List.length_append] at this
  omega
set_option maxRecDepth 20000 in
theorem field_size (l : List UInt8) (k x : Nat) (n v : List UInt8) (hk : k < l.length) (h : implF l k = .inr (n, v, x)) :
    k < x ∧ x ≤ l.length ∧ n.length + v.length + 3 ≤ (if x < l.length then x - k else l.length - k + 2) := by
  rw [← field_same l k hk] at h
  unfold specF at h
  have a0 := nx_lt l k hk
  have a1 := first_ge (fun j => b l j == 58) (fe l k) k (by have := first_ge (fun j => crlf l j && !fold l j) l.length k (by omega); exact this)
  have a2 := first_le (fun j => b l j == 58) (fe l k) k (by have := first_ge (fun j => crlf l j && !fold l j) l.length k (by omega); exact this)
  have a3 : fe l k ≤ l.length := first_le (fun j => crlf l j && !fold l j) l.length k (by omega)
  have a4 := le_fe l k (by omega)
  change k ≤ colon l (fe l k) k at a1
  change colon l (fe l k) k ≤ fe l k at a2
  simp only at h
  split at h
  · cases h
  · rename_i hc
    split at h
    · simp only [Sum.inr.injEq, Prod.mk.injEq] at h
      obtain ⟨rfl, rfl, rfl⟩ := h
      have hlt : colon l (fe l k) k < le l k := by
        simp only [Bool.or_eq_true, decide_eq_true_eq, not_or] at hc
        omega
      refine ⟨a0.1, a0.2, ?_⟩
      have b1 := trimR_len (sl l k (colon l (fe l k) k))
      rw [sl_len l k _ (by omega)] at b1
      rw [sl_len l _ _ a3]
      unfold nx
      split <;> split <;> omega
    · cases h
set_option maxRecDepth 20000 in
theorem rd_sum (l : List UInt8) : ∀ (f k : Nat) (fs : List Fl), k ≤ l.length → flsum (rd l f k fs).fields ≤ flsum fs + (if k < l.length then l.length - k + 2 else 0)
  | 0, k, fs, _ => Nat.zero_le _
  | f + 1, k, fs, hk => by
    rw [rd]
    split
    · simp only; omega
    · rename_i h1
      split
      · simp only; omega
      · split
        · exact Nat.zero_le _
        · rename_i n v x hf
          split
          · exact Nat.zero_le _
          · obtain ⟨c1, c2, c3⟩ := field_size l k x n v (by omega) hf
            have ih := rd_sum l f x (fs ++ [(n, v)]) c2
            rw [flsum_app] at ih
            simp only at ih
            rw [if_pos (show k < l.length by omega)]
            split at c3 <;> split at ih <;> omega
set_option maxRecDepth 20000 in
theorem read_sum (l : List UInt8) : flsum (readHead l).fields ≤ l.length + 2 := by
  have := rd_sum l (l.length + 1) 0 [] (Nat.zero_le _)
  unfold readHead
  have e : flsum [] = 0 := rfl
  rw [e] at this
  split at this <;> omega
set_option maxRecDepth 20000 in
/-- How many fields are read. -/
theorem rd_count (l : List UInt8) : ∀ (f k : Nat) (fs : List Fl), fs.length ≤ 200 → (rd l f k fs).fields.length ≤ 200
  | 0, k, fs, _ => Nat.zero_le _
  | f + 1, k, fs, hf => by
    rw [rd]
    split
    · exact hf
    · split
      · exact hf
      · split
        · exact Nat.zero_le _
        · split
          · exact Nat.zero_le _
          · exact rd_count l f _ _ (by rw [List.length_append, List.length_singleton]; omega)
set_option maxRecDepth 20000 in
theorem read_count (l : List UInt8) : (readHead l).fields.length ≤ 200 := rd_count l _ _ _ (Nat.zero_le _)
set_option maxRecDepth 20000 in
theorem rd_body (l : List UInt8) : ∀ (f k : Nat) (fs : List Fl), k ≤ l.length → (rd l f k fs).body ≤ l.length
  | 0, k, fs, _ => Nat.zero_le _
  | f + 1, k, fs, hk => by
    rw [rd]
    split
    · exact Nat.le_refl _
    · split
      · rename_i h2
        have := (crlf_b l k h2).2.2
        show k + 2 ≤ l.length
        omega
      · split
        · exact Nat.zero_le _
        · rename_i n v x hf
          split
          · exact Nat.zero_le _
          · obtain ⟨c1, c2, c3⟩ := field_size l k x n v (by omega) hf
            exact rd_body l f _ _ c2
set_option maxRecDepth 20000 in
theorem read_body (l : List UInt8) : (readHead l).body ≤ l.length := rd_body l _ _ _ (Nat.zero_le _)
end Pl
def RH (s : ByteArray) : HR := if s.size ≤ 100000 then Pl.readHead s.data.toList else ⟨2, 0, 0, []⟩
set_option maxRecDepth 20000 in
theorem RH_len (s : ByteArray) : (RH s).fields.length ≤ 200 := by
  unfold RH
  split
  · exact Pl.read_count _
  · exact Nat.zero_le _
set_option maxRecDepth 20000 in
theorem RH_body (s : ByteArray) : (RH s).body ≤ s.size := by
  unfold RH
  have e : s.data.toList.length = s.size := by simp
  split
  · rw [← e]; exact Pl.read_body _
  · exact Nat.zero_le _
set_option maxRecDepth 20000 in
theorem RH_good (s : ByteArray) (h : (RH s).code = 0) : s.size ≤ 100000 ∧ flsum (RH s).fields ≤ 100002 := by
  unfold RH at h ⊢
  have e : s.data.toList.length = s.size := by simp
  split
  · rename_i hs
    refine ⟨hs, ?_⟩
    have := Pl.read_sum s.data.toList
    omega
  · rename_i hs
    rw [if_neg hs] at h
    cases h
abbrev hdV (H : HR) (o : Option Addr) (c : Nat) : Value := .agg #[.int .i64 H.code, .int .i64 H.at_, .slice o H.fields.length c, .int .i64 H.body]
set_option maxRecDepth 20000 in
theorem specRH (s : ByteArray) (w : World) (hs : s.size ≤ 1048576) :
    Calls Tryz.prog 6 #[.string s] w fun e w' => ∃ o c, e = .returned (hdV (RH s) o c) ∧ OwnF w.heap.size (.slice o (RH s).fields.length c) (RH s).fields w' ∧ Below w.heap.size w w' := by
  unfold RH
  split
  · rename_i h
    refine (specReadHead s w h).mono ?_
    rintro e w' ⟨v, rfl, ho, hb⟩
    rcases ho.form with ⟨rfl, h0⟩ | ⟨g, cap, rfl⟩
    · rw [h0] at ho ⊢
      exact ⟨none, 0, by rw [hdV, h0]; rfl, ho, hb⟩
    · exact ⟨_, _, rfl, ho, hb⟩
  · have hl : decide ((100000 : Int) < (s.size : Int)) = true := by simp; omega
    go_enter Tryz.func6, Tryz.ntmps6
    go_wp2
    refine bodyPost_ret (v := .agg #[.int .i64 2, .int .i64 0, .slice none 0 0, .int .i64 0]) (by simp [results, Tryz.results6, go_sem]) rfl ⟨none, 0, rfl, OwnF.nil _ _, ?_⟩
    exact (Below.refl _ _).alloc (Nat.le_refl _) _
set_option maxRecDepth 20000 in
theorem implRH (s : ByteArray) (w : World) (hs : s.size ≤ 1048576) :
    Calls Tryz.prog 17 #[.string s] w fun e w' => ∃ o c, e = .returned (hdV (RH s) o c) ∧ OwnF w.heap.size (.slice o (RH s).fields.length c) (RH s).fields w' ∧ Below w.heap.size w w' := by
  unfold RH
  split
  · rename_i h
    refine (implReadHead s w h).mono ?_
    rintro e w' ⟨v, rfl, ho, hb⟩
    rcases ho.form with ⟨rfl, h0⟩ | ⟨g, cap, rfl⟩
    · rw [h0] at ho ⊢
      exact ⟨none, 0, by rw [hdV, h0]; rfl, ho, hb⟩
    · exact ⟨_, _, rfl, ho, hb⟩
  · have hT := fun w => implTooLong s w (by omega)
    simp only [decide_eq_true (show (100000 : Int) < (s.size : Int) by omega)] at hT
    go_enter_defers Tryz.func17, Tryz.ntmps17
    go_wp2_with fail
    refine (hT _).mono ?_
    rintro e w1 ⟨rfl, rfl⟩
    go_wp2
    simp [bodyPostD, Leaves, results, Tryz.results17, go_sem]
    exact ⟨none, 0, ⟨rfl, rfl⟩, OwnF.nil _ _, (Below.refl _ _).alloc (Nat.le_refl _) _⟩
def toBA (F : List Fl) : List Fd := F.map fun f => (⟨f.1.toArray⟩, ⟨f.2.toArray⟩)
set_option maxRecDepth 20000 in
theorem toBA_len (F : List Fl) : (toBA F).length = F.length := by simp [toBA]
set_option maxRecDepth 20000 in
theorem OwnF.fld {B : Nat} {v : Value} {F : List Fl} {w : World} (h : OwnF B v F w) : ∃ o cap, v = .slice o F.length cap ∧ Fld w.heap.size w o (toBA F) := by
  rcases h.2 with ⟨rfl, h0⟩ | ⟨g, cap, cur, rfl, hB, hg, hc⟩
  · obtain rfl : F = [] := List.length_eq_zero_iff.1 h0
    exact ⟨none, 0, rfl, fun i hi => absurd hi (by simp [toBA])⟩
  · refine ⟨_, cap, rfl, ?_⟩
    intro i hi
    have hi' : i < F.length := by simpa [toBA] using hi
    obtain ⟨d0, d1⟩ := cellsF_get F i hi'
    have c0 := World.ownsRow.cells h (g := g) rfl (i * 2) _ d0
    have c1 := World.ownsRow.cells h (g := g) rfl (i * 2 + 1) _ d1
    rw [add_off] at c0 c1
    refine ⟨_, rfl, (Array.getElem?_eq_some_iff.1 hg).1, ?_, ?_⟩
    · rw [add_off, c0]; simp [toBA, txt]
    · rw [add_off]
      show w.cell? ⟨g, i * 2 + 1, none⟩ = _
      rw [c1]; simp [toBA, txt]
set_option maxRecDepth 20000 in
theorem fl_size (F : List Fl) (n : Nat) (h : flsum F ≤ n) : ∀ f ∈ F, f.1.length + 3 ≤ n ∧ f.2.length + 3 ≤ n := by
  intro f hf
  have : f.1.length + f.2.length + 3 ≤ flsum F := by
    unfold flsum
    clear h
    induction F with
    | nil => cases hf
    | cons a r ih =>
      rw [List.map_cons, List.sum_cons]
      rcases List.mem_cons.1 hf with rfl | hf
      · omega
      · have := ih hf
        omega
  omega
end Go.Proofs.YtajkahpkbeobaaaGreatDoor
