
/- The walks of the program's scanner: a field's name, a field's value. -/

/- The walk of the program's scanner: a field's value. -/

/- The model's lines of a head. -/

/- The model's place of an ill line. -/

/- Small laws that many texts use. -/

/- Lists of fields in memory: read, made anew, held against one another. -/

/- The walks of the two WriteHead. -/

/- A list of fields that the call itself makes; the result's variable. -/
import Derived.Test.YtajkahpkbeobaaaGreatDoorScan2
import Derived.ScopeJumps
import Derived.WalkMore
import Derived.Test.YtajkahpkbeobaaaGreatDoorReadPlain
import Derived.Test.YtajkahpkbeobaaaGreatDoorBytes
import Derived.WalkKit
import Derived.Laws.MakeOwn
import Derived.Laws.OwnMore
import Derived.Deep.QuietTactic
import Derived.BigQuiet
import Derived.Deep.RegionWith
namespace Go.Proofs.YtajkahpkbeobaaaGreatDoor
open Go.RowKit Go.Lib
abbrev flt (c : Int) (b : Nat) : List PanicEntry := [{ v := .iface 56 (.agg #[.int .i64 c, .int .i64 b]), recovered := false }]
set_option maxRecDepth 20000 in
theorem ext_sl (s : ByteArray) (i j : Nat) : (s.extract i j).data.toList = Pl.sl s.data.toList i j := Pl.ext_data s i j
set_option maxRecDepth 20000 in
theorem grown_of_grown {w w' : World} {r : Option Nat} (h : w.grownBy w' r) : w.grownBy w' r := h
set_option maxRecDepth 20000 in
set_option maxHeartbeats 2000000 in
theorem scNameYes (g : Nat) (s : ByteArray) (a b : Nat) (w : World) (hs : s.size ≤ 100000) (ha : a ≤ s.size) (h : Sc w g s a b) (hg : Pl.nameGood s.data.toList a = true) :
    Calls Tryz.prog 65 #[scp g] w fun e w' => e = .returned (.string (s.extract a (Pl.stop Pl.nb s.data.toList a))) ∧ Sc w' g s (Pl.stop Pl.blank s.data.toList (Pl.stop Pl.nb s.data.toList a) + 1) b ∧ w.grownBy w' (some g) := by
  have hll : s.data.toList.length = s.size := by simp
  have hp1 := Pl.stop_le Pl.nb s.data.toList a (by omega)
  have hq1 := Pl.stop_le Pl.blank s.data.toList (Pl.stop Pl.nb s.data.toList a) (by omega)
  have hP := scPass kindName g s a b w hs ha h
  have HQ := (show Hid _ from fun (w : World) h => scPass kindBlank g s (Pl.stop Pl.nb s.data.toList a) b w hs (by omega) h)
  rw [Pl.nameGood, Bool.and_eq_true, Bool.and_eq_true] at hg
  obtain ⟨g1, g2, g3⟩ := hg
  rw [decide_eq_true_eq] at g2
  rw [← ext_sl] at g1
  have hN := fun w => implFieldName (s.extract a (Pl.stop Pl.nb s.data.toList a)) w (by rw [ByteArray.size_extract]; omega)
  simp only [g1] at hN
  generalize Pl.stop Pl.nb s.data.toList a = p at *
  generalize Pl.stop Pl.blank s.data.toList p = q at *
  have hq : q < s.size := by omega
  have g4 : s[q] = 58 := by
    have e := Pl.b_lt s.data.toList q (by omega)
    rw [e] at g3
    exact beq_iff_eq.1 g3
  have HB := (show Hid _ from fun (w : World) h => scByteYes g s q b w hs h hq (by rw [g4]; rfl))
  simp only [g4] at HB
  generalize s.extract a p = nm at *
  clear g1 g2 g3 g4 hll h hp1 hq1
  go_enter Tryz.func65, Tryz.ntmps65
  go_wp2_with fail
  refine hP.mono ?_
  rintro e w1 ⟨rfl, s1, g1⟩
  have S1 := (show Hid _ from s1)
  have G1 := (show Hid _ from g1)
  clear s1 g1 hP
  go_wp2_with fail
  refine (HQ.out _ S1.out).mono ?_
  rintro e w2 ⟨rfl, s2, g2⟩
  have S2 := (show Hid _ from s2)
  have G2 := (show Hid _ from grown_trans G1.out g2)
  clear s2 g2
  go_wp2_with fail
  refine (hN _).mono ?_
  rintro e w3 ⟨rfl, rfl⟩
  go_wp2_with fail
  refine (HB.out _ S2.out).mono ?_
  rintro e w4 ⟨rfl, s3, g3⟩
  have S3 := (show Hid _ from s3)
  have G3 := (show Hid _ from grown_trans G2.out g3)
  clear s3 g3
  go_wp2_with fail
  refine (scNeedYes g _).mono ?_
  rintro e w5 ⟨rfl, rfl⟩
  go_wp2
  go_ret
  exact ⟨rfl, S3.out, G3.out⟩
set_option maxRecDepth 20000 in
set_option maxHeartbeats 2000000 in
theorem scNameNo (g : Nat) (s : ByteArray) (a b : Nat) (w : World) (hs : s.size ≤ 100000) (ha : a ≤ s.size) (h : Sc w g s a b) (hg : Pl.nameGood s.data.toList a = false) :
    Calls Tryz.prog 65 #[scp g] w fun e w' => e = .panicked (flt 3 b) ∧ w.grownBy w' (some g) := by
  have hll : s.data.toList.length = s.size := by simp
  have hp1 := Pl.stop_le Pl.nb s.data.toList a (by omega)
  have hq1 := Pl.stop_le Pl.blank s.data.toList (Pl.stop Pl.nb s.data.toList a) (by omega)
  have hP := scPass kindName g s a b w hs ha h
  have HQ := (show Hid _ from fun (w : World) h => scPass kindBlank g s (Pl.stop Pl.nb s.data.toList a) b w hs (by omega) h)
  rw [Pl.nameGood, ← ext_sl] at hg
  have hN := fun w => implFieldName (s.extract a (Pl.stop Pl.nb s.data.toList a)) w (by rw [ByteArray.size_extract]; omega)
  generalize Pl.stop Pl.nb s.data.toList a = p at *
  generalize Pl.stop Pl.blank s.data.toList p = q at *
  generalize s.extract a p = nm at *
  have HF := (show Hid _ from fun (w : World) (c : Nat) h => scNeedNo g s c b w h)
  clear h hp1
  cases hno : Pl.nameOk nm.data.toList <;> simp only [hno] at hN
  · clear hg hno
    go_enter Tryz.func65, Tryz.ntmps65
    go_wp2_with fail
    refine hP.mono ?_
    rintro e w1 ⟨rfl, s1, g1⟩
    have S1 := (show Hid _ from s1)
    have G1 := (show Hid _ from g1)
    clear s1 g1 hP
    go_wp2_with fail
    refine (HQ.out _ S1.out).mono ?_
    rintro e w2 ⟨rfl, s2, g2⟩
    have S2 := (show Hid _ from s2)
    have G2 := (show Hid _ from grown_trans G1.out g2)
    clear s2 g2
    go_wp2_with fail
    refine (hN _).mono ?_
    rintro e w3 ⟨rfl, rfl⟩
    go_wp2_with fail
    refine (HF.out _ _ S2.out).mono ?_
    rintro e w4 ⟨rfl, rfl⟩
    exact ⟨rfl, rfl, G2.out⟩
  · rw [hno, Bool.true_and] at hg
    have hbad : Calls Tryz.prog 93 #[scp g] w (fun e w' => True) → True := fun _ => trivial
    by_cases hq : q < s.size
    · have g3 : s[q] ≠ 58 := by
        rw [decide_eq_true (by omega), Bool.true_and, Pl.b_lt s.data.toList q (by omega)] at hg
        exact beq_eq_false_iff_ne.1 hg
      cases hlb : Pl.lb s[q]
      · have HB := (show Hid _ from fun (w : World) h => scByteNo g s q b w hs h hq hlb)
        clear hg hno hbad g3 hll hq1
        go_enter Tryz.func65, Tryz.ntmps65
        go_wp2_with fail
        refine hP.mono ?_
        rintro e w1 ⟨rfl, s1, g1⟩
        have S1 := (show Hid _ from s1)
        have G1 := (show Hid _ from g1)
        clear s1 g1 hP
        go_wp2_with fail
        refine (HQ.out _ S1.out).mono ?_
        rintro e w2 ⟨rfl, s2, g2⟩
        have S2 := (show Hid _ from s2)
        have G2 := (show Hid _ from grown_trans G1.out g2)
        clear s2 g2
        go_wp2_with fail
        refine (hN _).mono ?_
        rintro e w3 ⟨rfl, rfl⟩
        go_wp2_with fail
        refine (HB.out _ S2.out).mono ?_
        rintro e w4 ⟨rfl, hb4⟩
        exact ⟨rfl, rfl, grown_trans G2.out hb4⟩
      · have HB := (show Hid _ from fun (w : World) h => scByteYes g s q b w hs h hq hlb)
        have h58 : ((s[q].toNat : Int) == 58) = false := by
          have : s[q].toNat ≠ 58 := fun e => g3 (UInt8.toNat_inj.1 e)
          simp; omega
        clear hg hno hbad g3 hll hq1
        go_enter Tryz.func65, Tryz.ntmps65
        go_wp2_with fail
        refine hP.mono ?_
        rintro e w1 ⟨rfl, s1, g1⟩
        have S1 := (show Hid _ from s1)
        have G1 := (show Hid _ from g1)
        clear s1 g1 hP
        go_wp2_with fail
        refine (HQ.out _ S1.out).mono ?_
        rintro e w2 ⟨rfl, s2, g2⟩
        have S2 := (show Hid _ from s2)
        have G2 := (show Hid _ from grown_trans G1.out g2)
        clear s2 g2
        go_wp2_with fail
        refine (hN _).mono ?_
        rintro e w3 ⟨rfl, rfl⟩
        go_wp2_with fail
        refine (HB.out _ S2.out).mono ?_
        rintro e w4 ⟨rfl, s3, g3⟩
        have S3 := (show Hid _ from s3)
        have G3 := (show Hid _ from grown_trans G2.out g3)
        clear s3 g3
        go_wp2_with fail
        refine (HF.out _ _ S3.out).mono ?_
        rintro e w5 ⟨rfl, rfl⟩
        exact ⟨rfl, rfl, G3.out⟩
    · have HB := (show Hid _ from fun (w : World) h => scByteEnd g s q b w h (by omega))
      clear hg hno hbad hll hq1
      go_enter Tryz.func65, Tryz.ntmps65
      go_wp2_with fail
      refine hP.mono ?_
      rintro e w1 ⟨rfl, s1, g1⟩
      have S1 := (show Hid _ from s1)
      have G1 := (show Hid _ from g1)
      clear s1 g1 hP
      go_wp2_with fail
      refine (HQ.out _ S1.out).mono ?_
      rintro e w2 ⟨rfl, s2, g2⟩
      have S2 := (show Hid _ from s2)
      have G2 := (show Hid _ from grown_trans G1.out g2)
      clear s2 g2
      go_wp2_with fail
      refine (hN _).mono ?_
      rintro e w3 ⟨rfl, rfl⟩
      go_wp2_with fail
      refine (HB.out _ S2.out).mono ?_
      rintro e w4 ⟨rfl, hb4⟩
      exact ⟨rfl, rfl, grown_trans G2.out (grown_below hb4)⟩
end Go.Proofs.YtajkahpkbeobaaaGreatDoor
namespace Go.Proofs.YtajkahpkbeobaaaGreatDoor
open Go.RowKit Go.Lib
set_option maxRecDepth 20000 in
theorem jump_mono {l : Nat} {J : Act → World → Prop} {Q : Exit → Act → World → Prop} {m : Act → World → Prop} (e : Exit) (a : Act) (w : World) (h : Exit.jump l (fun a w => J a w ∧ m a w) Q e a w) : Exit.jump l J Q e a w := by
  cases e with
  | goto l' => exact ⟨h.1, h.2.1⟩
  | _ => exact h
set_option maxRecDepth 20000 in
theorem scope_jumps' {P : Program} {a : Act} {w : World} {Q : Exit → Act → World → Prop} {c X : Code} (l : Nat) (J : Act → World → Prop) (μ : Act → World → Nat) (hf : findLabel c l = some (Code.skip.seq X))
    (pass : ∀ a w, J a w → X.wp P (Exit.jump l (fun a' w' => J a' w' ∧ μ a' w' < μ a w) Q) a w)
    (first : (∀ a w, J a w → X.wp P (Exit.jump l J Q) a w) → c.wp P (Exit.jump l J Q) a w) : (Code.scope c).wp P Q a w :=
  wp_scope_jumps l J μ hf (first fun a w h => wp_mono (pass a w h) jump_mono) (fun a w h => wp_seq (wp_skip (pass a w h)))
/-- Where a value's scan stands. -/
structure VAt (s : ByteArray) (a : Nat) (V : Nat × Nat) (w : World) (g : Nat) (wr : World) : Prop where
  ex : ∃ cur beg f : Nat, Sc wr g s cur beg ∧ a ≤ cur ∧ cur ≤ s.size ∧ Pl.vend s.data.toList f cur beg = V ∧ s.size + 1 ≤ f + cur
  grown : w.grownBy wr (some g)
def VPost (s : ByteArray) (a : Nat) (V : Nat × Nat) (w : World) (g : Nat) (e : Ending) (w' : World) : Prop :=
  w.grownBy w' (some g) ∧ ((V.1 = s.size ∧ e = .returned (.string (s.extract a V.1)) ∧ Sc w' g s V.1 V.2) ∨ (V.1 < s.size ∧ a ≤ V.1 ∧ Pl.crlf s.data.toList V.1 = true ∧ e = .returned (.string (s.extract a V.1)) ∧ Sc w' g s (V.1 + 2) V.2) ∨ (V.1 < s.size ∧ Pl.crlf s.data.toList V.1 = false ∧ e = .panicked (flt 3 V.2)))
set_option maxRecDepth 20000 in
set_option maxHeartbeats 4000000 in
theorem scValue (g : Nat) (s : ByteArray) (a b : Nat) (w : World) (hs : s.size ≤ 100000) (ha : a ≤ s.size) (h : Sc w g s a b) :
    Calls Tryz.prog 66 #[scp g] w fun e w' => VPost s a (Pl.vend s.data.toList (s.data.toList.length + 1) a b) w g e w' := by
  have hll : s.data.toList.length = s.size := by simp
  obtain ⟨V, hV⟩ : ∃ V, Pl.vend s.data.toList (s.data.toList.length + 1) a b = V := ⟨_, rfl⟩
  rw [hV]
  have HV0 : Hid (VAt s a V w g w) := ⟨⟨a, b, s.data.toList.length + 1, h, Nat.le_refl _, ha, hV, by omega⟩, grown_refl _ _⟩
  clear hV
  have c1 := h.c1
  clear h
  go_enter Tryz.func66, Tryz.ntmps66
  go_wp2
  refine scope_jumps' 0 (fun a' w' => Hid (VAt s a V w g w') ∧ ∃ (u9 u10 u11 u12 u13 u14 u15 u16 u17 u18 u19 : Value), a' = { tmps := #[scp g, undef, .string ⟨#[]⟩, .int .i64 a, undef, scp g, .pointer (some ⟨g, 0, none⟩), .pointer (some ⟨g, 1, none⟩), .int .i64 a, u9, u10, u11, u12, u13, u14, u15, u16, u17, u18, u19, undef, undef, undef, undef, undef, undef, undef, undef, undef, undef, undef, undef, undef, undef, undef, undef, undef, undef, undef, undef], defers := [] }) (fun _ w' => s.size + 1 - atOf w' g) rfl ?_ ?_
  · clear HV0 c1
    rintro a' wr ⟨HV, u9, u10, u11, u12, u13, u14, u15, u16, u17, u18, u19, rfl⟩
    obtain ⟨⟨cur, beg, f, hsc, hac, hcn, hve, hfu⟩, hgr⟩ := HV.out
    clear HV
    obtain ⟨f, rfl⟩ : ∃ k, f = k + 1 := ⟨f - 1, by omega⟩
    rw [Pl.vend] at hve
    have hz1 := Pl.stop_ge Pl.lb s.data.toList cur (by omega)
    have hz2 := Pl.stop_le Pl.lb s.data.toList cur (by omega)
    have hP := scPass kindLine g s cur beg wr hs hcn hsc
    have hat : Hid (atOf wr g = cur) := hsc.at
    have Hgr := (show Hid _ from hgr)
    clear hgr hsc
    generalize Pl.stop Pl.lb s.data.toList cur = z at *
    have Hve := (show Hid _ from hve)
    clear hve
    cases hfold : Pl.fold s.data.toList z
    · have HE : Hid (V = (z, beg)) := show _ = _ from by rw [← Hve.out, if_neg (by rw [hfold]; simp)]
      have HF := (show Hid _ from fun (w : World) h => scFoldNo g s z beg w hs (by omega) h hfold)
      clear Hve hfold
      go_wp2_with fail
      refine hP.mono ?_
      rintro e w1 ⟨rfl, s1, g1⟩
      have S1 := (show Hid _ from s1)
      have G1 := (show Hid _ from grown_trans Hgr.out g1)
      clear s1 g1 hP
      go_wp2_with fail
      refine (HF.out _ S1.out).mono ?_
      rintro e w2 ⟨rfl, hb2⟩
      have S2 := (show Hid _ from S1.out.below hb2)
      have G2 := (show Hid _ from grown_trans G1.out (grown_below hb2))
      clear hb2
      have c0 := S2.out.c0
      have c1 := S2.out.c1
      have k0 := cell_regrown c0
      have k1 := cell_regrown c1
      have f1 : (z : Int) ≤ (s.size : Int) := by omega
      have f2 : (a : Int) ≤ (z : Int) := by omega
      have cL : ∀ d os, Calls Tryz.prog 36 #[.string (s.extract a z)] (Go.Sort.grow (redrawn w2 d) os) fun e w'' => e = .returned (.string (s.extract a z)) ∧ ∃ p : Regrown, w'' = Go.Sort.grow (redrawn w2 p.d) p.os := fun d os => Calls.regrown_of (libClone _ _ (by rw [ByteArray.size_extract]; omega))
      go_wp2
      refine wp_region_quiet_below (by kernel_rfl) (by kernel_rfl) ?_
      iterate 10 (quiet_step (fail))
      quiet_step (exact cL _ _)
      repeat (quiet_step (fail))
      refine wpQuiet_nil ?_
      intro _ hw'
      obtain ⟨⟨dr, osr⟩, hw''⟩ := hw'
      subst hw''
      have hbr := below_regrown w2 dr osr
      have S3 := (show Hid _ from S2.out.below hbr)
      have G3 := (show Hid _ from grown_trans G2.out (grown_below hbr))
      generalize Go.Sort.grow (redrawn w2 dr) osr = w3 at *
      clear c0 c1 k0 k1 cL hbr
      obtain ⟨val, hval⟩ : ∃ val, s.extract a z = val := ⟨_, rfl⟩
      rw [hval]
      have Hval := (show Hid _ from hval)
      clear hval
      have hEn := scEnded g s z beg w3 S3.out
      by_cases hzn : z = s.size
      · rw [show ((z : Int) == (s.size : Int)) = true from by simp; omega] at hEn
        go_wp2_with fail
        refine hEn.mono ?_
        rintro e w4 ⟨rfl, hb4⟩
        go_wp2_with fail
        refine (scNeedYes g _).mono ?_
        rintro e w5 ⟨rfl, rfl⟩
        go_wp2
        simp only [Exit.jump]
        go_ret
        rw [HE.out]
        exact ⟨grown_trans G3.out (grown_below hb4), .inl ⟨hzn, by rw [Hval.out]; rfl, S3.out.below hb4⟩⟩
      · rw [show ((z : Int) == (s.size : Int)) = false from by simp; omega] at hEn
        cases hcr : Pl.crlf s.data.toList z
        · have HL := (show Hid _ from fun (w : World) h => scLineEndNo g s z beg w hs (by omega) h hcr)
          have Hcr := (show Hid _ from hcr)
          clear hcr
          go_wp2_with fail
          refine hEn.mono ?_
          rintro e w4 ⟨rfl, hb4⟩
          have S4 := (show Hid _ from S3.out.below hb4)
          have G4 := (show Hid _ from grown_trans G3.out (grown_below hb4))
          clear hb4
          go_wp2_with fail
          refine (HL.out _ S4.out).mono ?_
          rintro e w5 ⟨rfl, hb5⟩
          have S5 := (show Hid _ from S4.out.below hb5)
          have G5 := (show Hid _ from grown_trans G4.out (grown_below hb5))
          clear hb5
          go_wp2_with fail
          refine (scNeedNo g s z beg w5 S5.out).mono ?_
          rintro e w6 ⟨rfl, rfl⟩
          refine ⟨rfl, ?_⟩
          rw [HE.out]
          exact ⟨G5.out, .inr (.inr ⟨by omega, Hcr.out, rfl⟩)⟩
        · have HL := (show Hid _ from fun (w : World) h => scLineEndYes g s z beg w hs (by omega) h hcr)
          have Hcr := (show Hid _ from hcr)
          clear hcr
          go_wp2_with fail
          refine hEn.mono ?_
          rintro e w4 ⟨rfl, hb4⟩
          have S4 := (show Hid _ from S3.out.below hb4)
          have G4 := (show Hid _ from grown_trans G3.out (grown_below hb4))
          clear hb4
          go_wp2_with fail
          refine (HL.out _ S4.out).mono ?_
          rintro e w5 ⟨rfl, s5, g5⟩
          have S5 := (show Hid _ from s5)
          have G5 := (show Hid _ from grown_trans G4.out g5)
          clear s5 g5
          go_wp2_with fail
          refine (scNeedYes g _).mono ?_
          rintro e w6 ⟨rfl, rfl⟩
          go_wp2
          simp only [Exit.jump]
          go_ret
          rw [HE.out]
          exact ⟨G5.out, .inr (.inl ⟨by omega, by show a ≤ z; omega, Hcr.out, by rw [Hval.out]; rfl, S5.out⟩)⟩
    · have HF := (show Hid _ from fun (w : World) h => scFoldYes g s z beg w hs (by omega) h hfold)
      have hz3 : z + 2 < s.size := by have := (Pl.fold_b _ _ hfold).2; omega
      have HE : Hid (Pl.vend s.data.toList f (z + 2) (z + 2) = V) := show _ = _ from by rw [← Hve.out, if_pos hfold]
      clear Hve hfold
      go_wp2_with fail
      refine hP.mono ?_
      rintro e w1 ⟨rfl, s1, g1⟩
      have S1 := (show Hid _ from s1)
      have G1 := (show Hid _ from grown_trans Hgr.out g1)
      clear s1 g1 hP
      go_wp2_with fail
      refine (HF.out _ S1.out).mono ?_
      rintro e w2 ⟨rfl, s2, g2⟩
      have S2 := (show Hid _ from s2)
      have G2 := (show Hid _ from grown_trans G1.out g2)
      clear s2 g2
      have c1 := S2.out.c1
      have c2 := S2.out.c2
      have f2 := S2.out.f2
      have S3 := (show Hid _ from S2.out.set2 ((z : Int) + 2) (z + 2) (by omega))
      have G3 := (show Hid _ from grown_trans G2.out (grown_set w2 g 2 (.int .i64 ((z : Int) + 2))))
      go_wp2
      go_step3
      refine ⟨rfl, ⟨?_, _, _, _, _, _, _, _, _, _, _, _, rfl⟩, ?_⟩
      · exact ⟨⟨z + 2, z + 2, f, S3.out, by omega, by omega, HE.out, by omega⟩, G3.out⟩
      · rw [hat.out]
        have := S3.out.at
        first | omega | (rw [this]; omega)
  · intro pass
    go_wp2
    go_step3
    rename_i hK
    exact hK _ _ (pass _ _ ⟨HV0, _, _, _, _, _, _, _, _, _, _, _, rfl⟩)
end Go.Proofs.YtajkahpkbeobaaaGreatDoor
namespace Go.Proofs.YtajkahpkbeobaaaGreatDoor
open Go.RowKit Go.Lib
set_option maxRecDepth 20000 in
theorem b_at (s : ByteArray) (k : Nat) (h : k < s.size) : Pl.b s.data.toList k = s[k] := Pl.b_lt _ k (by simpa using h)
set_option maxRecDepth 20000 in
set_option maxHeartbeats 1000000 in
theorem specLine (s : ByteArray) (k : Nat) (w : World) (_hs : s.size ≤ 1100000) (hk : k ≤ s.size) :
    Calls Tryz.prog 26 #[.string s, .int .i64 k] w fun e w' => e = .returned (.tuple #[.int .i64 (Pl.le s.data.toList k : Nat), .int .i64 (Pl.nx s.data.toList (Pl.le s.data.toList k) : Nat)]) ∧ w = w' := by
  obtain ⟨E, hE⟩ : ∃ E, Pl.le s.data.toList k = E := ⟨_, rfl⟩
  rw [hE]
  have HE : Hid (Pl.le s.data.toList k = E) := hE
  clear hE
  go_enter Tryz.func26, Tryz.ntmps26
  go_wp2
  go_loopw [6] (fun i wr => ∃ j : Nat, j ≤ s.size ∧ i = .int .i64 j ∧ Hid (Pl.le s.data.toList j = E) ∧ wr = w) (fun i _ => s.size - (Lib.intOf i).toNat)
  case atStart => exact ⟨k, hk, rfl, HE, rfl⟩
  case round =>
    clear HE hk
    obtain ⟨k, hk, rfl, hp, rfl⟩ := hrel
    by_cases hlt : k + 1 < s.size
    · have h8 : s[k].toNat < 256 := UInt8.toNat_lt _
      have h9 : s[k + 1].toNat < 256 := UInt8.toNat_lt _
      have hll : k < s.data.toList.length := by simp; omega
      have miss : Pl.crlf s.data.toList k = false → Hid (Pl.le s.data.toList (k + 1) = E) := fun h => show _ = _ from (Pl.first_miss _ _ _ hll h).trans hp.out
      by_cases h13 : ((s[k].toNat : Int) == 13) = true
      · by_cases h10 : ((s[k + 1].toNat : Int) == 10) = true
        · have hcr : Pl.crlf s.data.toList k = true := (Pl.crlf_iff _ _).2 ⟨by simp; omega, Pl.byte_eq _ 13 _ rfl h13, Pl.byte_eq _ 10 _ rfl h10⟩
          have hE : Hid (E = k) := show _ = _ from hp.out.symm.trans (Pl.first_hit _ _ _ hcr)
          have hN : Hid (Pl.nx s.data.toList k = k + 2) := show _ = _ from by rw [Pl.nx, if_pos hll]
          clear hp miss hcr
          go_wp2
          refine bodyPost_ret (v := .tuple #[.int .i64 k, .int .i64 (k + 2)]) (by simp [results, Tryz.results26, go_sem]) rfl ⟨?_, rfl⟩
          rw [hE.out, hN.out]
          simp
        · rw [Bool.not_eq_true] at h10
          have hg := miss (by rw [Bool.eq_false_iff]; intro e; obtain ⟨_, -, e1⟩ := (Pl.crlf_iff _ _).1 e; exact Pl.byte_ne _ 10 _ rfl h10 e1)
          clear hp miss
          go_wp2
          go_roundw
          case rel => exact ⟨k + 1, by omega, by go_num, hg, trivial⟩
          case measure => simp [Lib.intOf]; omega
      · rw [Bool.not_eq_true] at h13
        have hg := miss (by rw [Bool.eq_false_iff]; intro e; obtain ⟨_, e1, -⟩ := (Pl.crlf_iff _ _).1 e; exact Pl.byte_ne _ 13 _ rfl h13 e1)
        clear hp miss
        go_wp2
        go_roundw
        case rel => exact ⟨k + 1, by omega, by go_num, hg, trivial⟩
        case measure => simp [Lib.intOf]; omega
    · have hE : Hid (E = s.size) := show _ = _ from by
        rw [← hp.out]
        exact (Pl.first_eq _ _ _ _ hk (by simp) (fun j h1 h2 => Pl.crlf_short _ _ (by simp; omega)) (fun h => by simp at h))
      have hN : Hid (Pl.nx s.data.toList s.size = s.size) := show _ = _ from by rw [Pl.nx, if_neg (by simp)]; simp
      clear hp
      go_wp2
      refine bodyPost_ret (v := .tuple #[.int .i64 s.size, .int .i64 s.size]) (by simp [results, Tryz.results26, go_sem]) rfl ⟨?_, rfl⟩
      rw [hE.out, hN.out]
end Go.Proofs.YtajkahpkbeobaaaGreatDoor
namespace Go.Proofs.YtajkahpkbeobaaaGreatDoor
open Go.RowKit Go.Lib
set_option maxRecDepth 20000 in
set_option maxHeartbeats 1000000 in
theorem whereName (s n : ByteArray) (B e c f : Nat) (w : World) (hn : n.size ≤ 1100000) (_hB : B ≤ 1100000) (_hc : c ≤ 1100000) (_hf : f ≤ 1100000) (h : f ≤ c ∨ Pl.nameOk n.data.toList = false) :
    Calls Tryz.prog 29 #[.string s, .int .i64 B, .int .i64 e, .int .i64 c, .int .i64 f, .string n] w fun x w' => x = .returned (.int .i64 B) ∧ w = w' := by
  by_cases hfc : f ≤ c
  · clear h
    go_enter Tryz.func29, Tryz.ntmps29
    go_wp2
    go_ret
    exact ⟨rfl, rfl⟩
  · have hN := h.resolve_left hfc
    have hcn := fun w => specName n w hn
    simp only [hN] at hcn
    clear h hN
    go_enter Tryz.func29, Tryz.ntmps29
    go_wp2_with (go_at_call 27; go_must (refine (hcn _).mono ?_; rintro x w2 ⟨rfl, rfl⟩))
    go_ret
    exact ⟨rfl, rfl⟩
set_option maxHeartbeats 2000000 in
set_option maxRecDepth 8000 in
theorem whereLine (s n : ByteArray) (B e c f : Nat) (w : World) (hs : s.size ≤ 1100000) (hn : n.size ≤ 1100000) (hBc : B ≤ c) (hce : c + 1 ≤ e) (hes : e ≤ s.size) (hf : f ≤ 1100000) (hcf : c < f) (hN : Pl.nameOk n.data.toList = true) :
    Calls Tryz.prog 29 #[.string s, .int .i64 B, .int .i64 e, .int .i64 c, .int .i64 f, .string n] w fun x w' => x = .returned (.int .i64 (Pl.whr s.data.toList e B (s.data.toList.length + 1) B (c + 1) : Nat)) ∧ w = w' := by
  have hcn := fun w => specName n w hn
  simp only [hN] at hcn
  obtain ⟨R, hR⟩ : ∃ R, Pl.whr s.data.toList e B (s.data.toList.length + 1) B (c + 1) = R := ⟨_, rfl⟩
  rw [hR]
  have HR : Hid (∃ g, s.size + 1 ≤ g + B ∧ Pl.whr s.data.toList e B g B (c + 1) = R) := show ∃ g, _ ∧ _ from ⟨_, by rw [Pl.len_list]; omega, hR⟩
  clear hR hN
  have hd : decide (f ≤ c) = false := by simp; omega
  have hd' : decide ((f : Int) ≤ (c : Int)) = false := by simp; omega
  go_enter Tryz.func29, Tryz.ntmps29
  go_wp2_with (go_at_call 27; go_must (refine (hcn _).mono ?_; rintro x w2 ⟨rfl, rfl⟩))
  go_loopw [13, 14, 15, 16, 17] (fun a fr _ _ _ wr => ∃ (k r : Nat), k ≤ s.size ∧ r ≤ s.size ∧ a = .int .i64 k ∧ fr = .int .i64 r ∧ Hid (∃ g, s.size + 1 ≤ g + k ∧ Pl.whr s.data.toList e B g k r = R) ∧ wr = w) (fun a _ _ _ _ _ => s.size - (Lib.intOf a).toNat)
  case atStart => exact ⟨B, c + 1, by omega, by omega, rfl, by go_num, HR, rfl⟩
  case round =>
    clear HR hcn
    obtain ⟨k, r, hk, hr, rfl, rfl, hg, rfl⟩ := hrel
    by_cases hke : k < e
    · have hln := fun w => specLine s k w hs hk
      have hle0 := Pl.first_ge (Pl.crlf s.data.toList) s.data.toList.length k (by simpa using hk)
      have hle1 := Pl.first_le (Pl.crlf s.data.toList) s.data.toList.length k (by simpa using hk)
      have Hnx : Hid (Pl.nx s.data.toList (Pl.le s.data.toList k) = if Pl.le s.data.toList k < s.size then Pl.le s.data.toList k + 2 else s.size) := show _ = _ from by rw [Pl.nx, Pl.len_list]
      have Hst : Hid (∃ g, s.size + 1 ≤ g + 1 + k ∧ (if Pl.first (fun j => !Pl.lb (Pl.b s.data.toList j)) (min (Pl.le s.data.toList k) e) r < min (Pl.le s.data.toList k) e then k else Pl.whr s.data.toList e B g (Pl.nx s.data.toList (Pl.le s.data.toList k)) (Pl.nx s.data.toList (Pl.le s.data.toList k))) = R) := show ∃ g, _ ∧ _ from by
        obtain ⟨g, h1, h2⟩ := hg.out
        obtain ⟨g', rfl⟩ : ∃ g', g = g' + 1 := ⟨g - 1, by omega⟩
        rw [Pl.whr, if_pos hke] at h2
        exact ⟨g', h1, h2⟩
      have Hcr : Hid (Pl.le s.data.toList k < s.size → Pl.le s.data.toList k + 2 ≤ s.size) := show _ → _ from fun h => by
        have := (Pl.crlf_b _ _ (Pl.first_is (Pl.crlf s.data.toList) s.data.toList.length k (by simpa using hk) (by show Pl.le s.data.toList k < _; rw [Pl.len_list]; exact h))).2.2
        simp at this
        exact this
      change k ≤ Pl.le s.data.toList k at hle0
      change Pl.le s.data.toList k ≤ _ at hle1
      rw [Pl.len_list] at hle1
      clear hg
      generalize Pl.nx s.data.toList (Pl.le s.data.toList k) = N at hln Hnx Hst
      generalize Pl.le s.data.toList k = E at hln Hnx Hst Hcr hle0 hle1
      have hN0 : k < N := by have := Hnx.out; split at this <;> omega
      have hN1 : N ≤ s.size := by have a := Hnx.out; have c := Hcr.out; split at a <;> omega
      obtain ⟨M, hM⟩ : ∃ M, M = min E e := ⟨_, rfl⟩
      have hMe : M ≤ e := by omega
      have HM : Hid (M = min E e) := hM
      rw [← hM] at Hst
      clear Hnx Hcr
      by_cases hEe : e < E
      · have hMv : e = M := by omega
        clear hM
        subst hMv
        go_wp2_with (go_at_call 26; go_must (refine (hln _).mono ?_; rintro x w2 ⟨rfl, rfl⟩))
        go_loopw [17] (fun i wx => ∃ j : Nat, j ≤ s.size ∧ r ≤ j ∧ i = .int .i64 j ∧ Hid (Pl.first (fun j => !Pl.lb (Pl.b s.data.toList j)) e r = Pl.first (fun j => !Pl.lb (Pl.b s.data.toList j)) e j) ∧ wx = wr) (fun i _ => s.size - (Lib.intOf i).toNat)
        case atStart => exact ⟨r, hr, Nat.le_refl _, rfl, rfl, rfl⟩
        case round =>
          obtain ⟨j, hj, hrj, rfl, hp, rfl⟩ := hrel
          by_cases hlt : j < e
          · have h8 : s[j].toNat < 256 := UInt8.toNat_lt _
            have hbj := b_at s j (by omega)
            cases h13 : ((s[j].toNat : Int) == 13)
            · cases h10 : ((s[j].toNat : Int) == 10)
              · have hlb : Pl.lb s[j] = true := by simp [Pl.lb, Pl.byte_ne _ 13 _ rfl h13, Pl.byte_ne _ 10 _ rfl h10]
                have hg : Hid (Pl.first (fun j => !Pl.lb (Pl.b s.data.toList j)) e r = Pl.first (fun j => !Pl.lb (Pl.b s.data.toList j)) e (j + 1)) := show _ = _ from hp.out.trans (Pl.first_miss _ _ _ hlt (by rw [hbj, hlb]; rfl)).symm
                clear hp hlb hbj
                go_wp2
                go_roundw
                case rel => exact ⟨j + 1, by omega, by omega, by go_num, hg, trivial⟩
                case measure => simp [Lib.intOf]; omega
              · have hE : Hid (R = k) := show _ = _ from by
                  obtain ⟨g, -, h2⟩ := Hst.out
                  rw [hp.out, Pl.first_hit _ _ _ (by rw [hbj, Pl.byte_eq _ 10 _ rfl h10]; rfl), if_pos hlt] at h2
                  exact h2.symm
                clear hp hbj
                go_wp2
                go_ret
                rw [hE.out]
                exact ⟨rfl, rfl⟩
            · have hE : Hid (R = k) := show _ = _ from by
                obtain ⟨g, -, h2⟩ := Hst.out
                rw [hp.out, Pl.first_hit _ _ _ (by rw [hbj, Pl.byte_eq _ 13 _ rfl h13]; rfl), if_pos hlt] at h2
                exact h2.symm
              clear hp hbj
              go_wp2
              go_ret
              rw [hE.out]
              exact ⟨rfl, rfl⟩
          · have hE : Hid (∃ g, s.size + 1 ≤ g + N ∧ Pl.whr s.data.toList e B g N N = R) := show ∃ g, _ ∧ _ from by
              obtain ⟨g, h1, h2⟩ := Hst.out
              rw [hp.out, Pl.first_end _ _ _ (by omega), if_neg hlt] at h2
              exact ⟨g, by omega, h2⟩
            clear hp
            go_wp2
            go_roundw
            case rel => exact ⟨N, N, by omega, by omega, rfl, rfl, hE, trivial⟩
            case measure => simp [Lib.intOf]; omega
      · have hMv : E = M := by omega
        clear hM
        subst hMv
        go_wp2_with (go_at_call 26; go_must (refine (hln _).mono ?_; rintro x w2 ⟨rfl, rfl⟩))
        go_loopw [17] (fun i wx => ∃ j : Nat, j ≤ s.size ∧ r ≤ j ∧ i = .int .i64 j ∧ Hid (Pl.first (fun j => !Pl.lb (Pl.b s.data.toList j)) E r = Pl.first (fun j => !Pl.lb (Pl.b s.data.toList j)) E j) ∧ wx = wr) (fun i _ => s.size - (Lib.intOf i).toNat)
        case atStart => exact ⟨r, hr, Nat.le_refl _, rfl, rfl, rfl⟩
        case round =>
          obtain ⟨j, hj, hrj, rfl, hp, rfl⟩ := hrel
          by_cases hlt : j < E
          · have h8 : s[j].toNat < 256 := UInt8.toNat_lt _
            have hbj := b_at s j (by omega)
            cases h13 : ((s[j].toNat : Int) == 13)
            · cases h10 : ((s[j].toNat : Int) == 10)
              · have hlb : Pl.lb s[j] = true := by simp [Pl.lb, Pl.byte_ne _ 13 _ rfl h13, Pl.byte_ne _ 10 _ rfl h10]
                have hg : Hid (Pl.first (fun j => !Pl.lb (Pl.b s.data.toList j)) E r = Pl.first (fun j => !Pl.lb (Pl.b s.data.toList j)) E (j + 1)) := show _ = _ from hp.out.trans (Pl.first_miss _ _ _ hlt (by rw [hbj, hlb]; rfl)).symm
                clear hp hlb hbj
                go_wp2
                go_roundw
                case rel => exact ⟨j + 1, by omega, by omega, by go_num, hg, trivial⟩
                case measure => simp [Lib.intOf]; omega
              · have hE : Hid (R = k) := show _ = _ from by
                  obtain ⟨g, -, h2⟩ := Hst.out
                  rw [hp.out, Pl.first_hit _ _ _ (by rw [hbj, Pl.byte_eq _ 10 _ rfl h10]; rfl), if_pos hlt] at h2
                  exact h2.symm
                clear hp hbj
                go_wp2
                go_ret
                rw [hE.out]
                exact ⟨rfl, rfl⟩
            · have hE : Hid (R = k) := show _ = _ from by
                obtain ⟨g, -, h2⟩ := Hst.out
                rw [hp.out, Pl.first_hit _ _ _ (by rw [hbj, Pl.byte_eq _ 13 _ rfl h13]; rfl), if_pos hlt] at h2
                exact h2.symm
              clear hp hbj
              go_wp2
              go_ret
              rw [hE.out]
              exact ⟨rfl, rfl⟩
          · have hE : Hid (∃ g, s.size + 1 ≤ g + N ∧ Pl.whr s.data.toList e B g N N = R) := show ∃ g, _ ∧ _ from by
              obtain ⟨g, h1, h2⟩ := Hst.out
              rw [hp.out, Pl.first_end _ _ _ (by omega), if_neg hlt] at h2
              exact ⟨g, by omega, h2⟩
            clear hp
            go_wp2
            go_roundw
            case rel => exact ⟨N, N, by omega, by omega, rfl, rfl, hE, trivial⟩
            case measure => simp [Lib.intOf]; omega
    · have hE : Hid (R = B) := show _ = _ from by
        obtain ⟨g, h1, h2⟩ := hg.out
        obtain ⟨g', rfl⟩ : ∃ g', g = g' + 1 := ⟨g - 1, by omega⟩
        rw [Pl.whr, if_neg hke] at h2
        exact h2.symm
      clear hg
      go_wp2
      go_ret
      rw [hE.out]
      exact ⟨rfl, rfl⟩
end Go.Proofs.YtajkahpkbeobaaaGreatDoor
namespace Go.Proofs.YtajkahpkbeobaaaGreatDoor
open Go.RowKit Go.Lib
set_option maxRecDepth 20000 in
theorem mkHid {p : Prop} (h : p) : Hid p := h
set_option maxRecDepth 20000 in
theorem heap_alloc_at (w : World) (o : Obj) : (w.alloc o).heap[w.heap.size]? = some o := by
  show (w.heap.push o)[w.heap.size]? = some o
  simp
end Go.Proofs.YtajkahpkbeobaaaGreatDoor
namespace Go.Proofs.YtajkahpkbeobaaaGreatDoor
open Go.RowKit Go.Lib
abbrev Fd := ByteArray × ByteArray
/-- The slice's elements, below a block, are these fields. -/
def Fld (B : Nat) (w : World) (o : Option Addr) (F : List Fd) : Prop :=
  ∀ i (h : i < F.length), ∃ a, o = some a ∧ a.block < B ∧ w.cell? (a.add (i * 2)) = some (.string F[i].1) ∧ w.cell? ⟨(a.add (i * 2)).block, (a.add (i * 2)).off + 1, none⟩ = some (.string F[i].2)
set_option maxRecDepth 20000 in
theorem add_block (a : Addr) (n : Nat) : (a.add n).block = a.block := by unfold Addr.add; split <;> rfl
set_option maxRecDepth 20000 in
theorem Fld.below {B : Nat} {w w' : World} {o : Option Addr} {F : List Fd} (h : Fld B w o F) (hb : Below B w w') : Fld B w' o F := by
  intro i hi
  obtain ⟨a, ho, ha, h0, h1⟩ := h i hi
  exact ⟨a, ho, ha, (hb.cell (by rw [add_block]; exact ha)).trans h0, (hb.cell (p := ⟨(a.add (i * 2)).block, (a.add (i * 2)).off + 1, none⟩) (show (a.add (i * 2)).block < B from by rw [add_block]; exact ha)).trans h1⟩
set_option maxRecDepth 20000 in
theorem Fld.mono {B B' : Nat} {w : World} {o : Option Addr} {F : List Fd} (h : Fld B w o F) (hB : B ≤ B') : Fld B' w o F := by
  intro i hi
  obtain ⟨a, ho, ha, h0, h1⟩ := h i hi
  exact ⟨a, ho, by omega, h0, h1⟩
set_option maxRecDepth 20000 in
theorem Tryz.info43 : (Tryz.prog.info? 48).map (fun i => (i.zero, i.size, i.bytes)) = some (some (.agg #[.string ⟨#[]⟩, .string ⟨#[]⟩]), 2, 32) := by kernel_rfl
end Go.Proofs.YtajkahpkbeobaaaGreatDoor
namespace Go.Proofs.YtajkahpkbeobaaaGreatDoor
open Go.RowKit Go.Lib
set_option maxRecDepth 20000 in
/-- A field's variable: its two cells. -/
theorem var_cells {w : World} {g : Nat} {n v : ByteArray} {t : TypeId} {z : Nat × Nat} (h : w.heap[g]? = some (.cells #[.string n, .string v] t z)) :
    w.cell? ⟨g, 0, none⟩ = some (.string n) ∧ w.cell? ⟨g, 1, none⟩ = some (.string v) := by
  constructor <;> simp [World.cell?, h]
set_option maxRecDepth 20000 in
theorem Own.some_len {B : Nat} {v : Value} {p : List UInt8} {w : World} (h : Own B v p w) (hp : 0 < p.length) : ∃ g cap L, v = .slice (some ⟨g, 0, none⟩) L cap ∧ L = p.length := by
  rcases h.form with ⟨rfl, rfl⟩ | ⟨g, cap, rfl⟩
  · simp at hp
  · exact ⟨g, cap, _, rfl, rfl⟩
end Go.Proofs.YtajkahpkbeobaaaGreatDoor
namespace Go.Proofs.YtajkahpkbeobaaaGreatDoor
open Go.RowKit Go.Lib
abbrev Fl := List UInt8 × List UInt8
def txt (l : List UInt8) : Value := .string ⟨l.toArray⟩
def cellsF (F : List Fl) : List Value := F.flatMap fun f => [txt f.1, txt f.2]
set_option maxRecDepth 20000 in
theorem cellsF_len (F : List Fl) : (cellsF F).length = F.length * 2 := by
  induction F with
  | nil => rfl
  | cons f r ih => simp [cellsF, List.flatMap_cons] at ih ⊢; omega
set_option maxRecDepth 20000 in
theorem cellsF_app (F G : List Fl) : cellsF (F ++ G) = cellsF F ++ cellsF G := by simp [cellsF]
set_option maxRecDepth 20000 in
theorem cellsF_get (F : List Fl) (j : Nat) (h : j < F.length) : (cellsF F)[j * 2]? = some (txt F[j].1) ∧ (cellsF F)[j * 2 + 1]? = some (txt F[j].2) := by
  induction F generalizing j with
  | nil => simp at h
  | cons f r ih =>
    cases j with
    | zero => simp [cellsF]
    | succ j =>
      have := ih j (by simpa using h)
      rw [show (j + 1) * 2 = j * 2 + 1 + 1 by omega]
      simpa [cellsF] using this
/-- The slice v, whose array is among the blocks from B on, holds just the fields F. -/
def OwnF (B : Nat) (v : Value) (F : List Fl) (w : World) : Prop := w.ownsRow B 48 2 v F.length (cellsF F)
set_option maxRecDepth 20000 in
theorem OwnF.nil (B : Nat) (w : World) : OwnF B (.slice none 0 0) [] w := World.ownsRow_nil _ _ _ _
set_option maxRecDepth 20000 in
theorem OwnF.made (B : Nat) (w : World) (h : B ≤ w.heap.size) : OwnF B (.slice (some ⟨w.heap.size, 0, none⟩) 0 0) [] (w.alloc (.cells #[] 48)) :=
  World.ownsRow_made w #[] 0 h (by unfold maxLen; omega) rfl
set_option maxRecDepth 20000 in
theorem OwnF.form {B : Nat} {v : Value} {F : List Fl} {w : World} (h : OwnF B v F w) : (v = .slice none 0 0 ∧ F = []) ∨ ∃ g cap, v = .slice (some ⟨g, 0, none⟩) F.length cap := by
  rcases h.2 with ⟨rfl, h0⟩ | ⟨g, cap, cur, rfl, -⟩
  · exact .inl ⟨rfl, List.length_eq_zero_iff.1 h0⟩
  · exact .inr ⟨g, cap, rfl⟩
set_option maxRecDepth 20000 in
theorem OwnF.beside {B : Nat} {v : Value} {F : List Fl} {w : World} (h : OwnF B v F w) {fv : Nat} {cs : Array Value} {t : TypeId} {z : Nat × Nat} (ht : t ≠ 48) (hf : w.heap[fv]? = some (.cells cs t z)) : v.ownBlock ≠ some fv := by
  intro e
  rcases h.2 with ⟨rfl, -⟩ | ⟨g, cap, cur, rfl, -, hg, -⟩
  · cases e
  · cases e
    rw [hf] at hg
    simp only [Option.some.injEq, Obj.cells.injEq] at hg
    exact ht hg.2.1
set_option maxRecDepth 20000 in
/-- An append of one field, beside a variable. -/
theorem wp_appF {P : Program} {W w : World} {ops : Array Oper} {rest : List Oper} {o : Oper} {a : Act} {Q : Exit → Act → World → Prop} (hgd : o.guard = none) (s x : Operand) (t : TypeId)
    (ho : o.op = .call { callee := .builtin .append, args := #[s, x], argTypes := #[t, t] })
    (i : TypeInfo) (ht : P.underlying t = some (.slice 48)) (hi : P.info? 48 = some i) (hz : i.zero = some (.agg #[.string ⟨#[]⟩, .string ⟨#[]⟩])) (hsize : i.size = 2) (hby : i.bytes = 32)
    (B : Nat) (v : Value) (F : List Fl) (hs : a.eval s = v) (hown : OwnF B v F w) (f : Fl) (cs : Array Value) (hcs : cs = #[txt f.1, txt f.2])
    (c : Nat) (hx : a.eval x = .slice (some ⟨w.heap.size, 0, none⟩) 1 c) (hlen : F.length ≤ 1000000) (hB : B ≤ W.heap.size) (hb : Below B W w)
    (fv : Nat) (ob : Array Value) (tv : TypeId) (z : Nat × Nat) (htv : tv ≠ 48) (hfv : w.heap[fv]? = some (.cells ob tv z))
    (h : ∀ v' w', OwnF B v' (F ++ [f]) w' → Below B W w' → w'.heap[fv]? = some (.cells ob tv z) → wpList P ops Q rest (a.put o.dst v') w') : wpList P ops Q (o :: rest) a (w.alloc (.cells cs 48)) := by
  subst hcs
  have hsz := hb.size
  have hlt : fv < w.heap.size := by
    by_cases h : fv < w.heap.size
    · exact h
    · rw [Array.getElem?_eq_none (by omega)] at hfv; cases hfv
  refine wpList_append_own _ hgd s x t ho B 48 i _ 2 32 ht hi hz hsize hby rfl (by decide) v F.length (cellsF F) hs (hown.alloc _) ⟨w.heap.size, 0, none⟩ 1 c [txt f.1, txt f.2] hx
    rfl ?_ ?_ (by unfold maxLen; omega) (by omega) (by simp; omega) ?_
  · intro j u hj
    rw [add_off]
    match j, hj with
    | 0, hj => simp at hj; subst hj; simp
    | 1, hj => simp at hj; subst hj; simp
  · intro u hu
    simp at hu
    rcases hu with rfl | rfl <;> rfl
  · intro v' w' h1 h2 _
    refine h v' w' ?_ ?_ ?_
    · unfold OwnF
      rw [cellsF_app, List.length_append]
      exact h1
    · exact (hb.alloc (by omega) _).grown h2 (by simp; omega) (fun k hk => (World.ownsRow.lt hown k hk).1)
    · exact grown_beside h2 ((Below.heap_alloc w _ fv hlt).trans hfv) (hown.beside htv hfv)
end Go.Proofs.YtajkahpkbeobaaaGreatDoor
