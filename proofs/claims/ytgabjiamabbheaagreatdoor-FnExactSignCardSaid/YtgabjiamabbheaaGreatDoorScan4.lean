
/- The walk of the program's scanner: a field's value. -/
import Derived.Test.YtgabjiamabbheaaGreatDoorScan3
namespace Go.Proofs.YtgabjiamabbheaaGreatDoor
open Go.RowKit Go.Lib
set_option maxRecDepth 20000 in
theorem jump_mono {l : Nat} {J : Act → World → Prop} {Q : Exit → Act → World → Prop} {m : Act → World → Prop} (e : Exit) (a : Act) (w : World) (h : Exit.jump l (fun a w => J a w ∧ m a w) Q e a w) : Exit.jump l J Q e a w := by
  cases e with
  | goto l' => exact ⟨h.1, h.2.1⟩
  | _ => exact h
set_option maxRecDepth 20000 in
theorem scope_jumps' {P : Program} {a : Act} {w : World} {Q : Exit → Act → World → Prop} {c X : Code} (l : Nat) (J : Act → World → Prop) (μ : Act → World → Nat) (hf : findLabel c l = some (Code.skip.seq X))
    (pass : ∀ a w, J a w → X.wp P (Exit.jump l (fun a' w' => J a' w' ∧ μ a' w' < μ a w) Q) a w)
    (first : (∀ a w, J a w → X.wp P (Exit.jump l J Q) a w) → c.wp P (Exit.jump l J Q) a w) : (Code.scope c).wp P Q a w :=
  wp_scope_jumps l J μ hf (first fun a w h => wp_mono (pass a w h) jump_mono) (fun a w h => wp_seq (wp_skip (pass a w h)))
/-- Where a value's scan stands. -/
structure VAt (s : ByteArray) (a : Nat) (V : Nat × Nat) (w : World) (g : Nat) (wr : World) : Prop where
  ex : ∃ cur beg f : Nat, Sc wr g s cur beg ∧ a ≤ cur ∧ cur ≤ s.size ∧ Pl.vend s.data.toList f cur beg = V ∧ s.size + 1 ≤ f + cur
  grown : w.grownBy wr (some g)
def VPost (s : ByteArray) (a : Nat) (V : Nat × Nat) (w : World) (g : Nat) (e : Ending) (w' : World) : Prop :=
  w.grownBy w' (some g) ∧ ((V.1 = s.size ∧ e = .returned (.string (s.extract a V.1)) ∧ Sc w' g s V.1 V.2) ∨ (V.1 < s.size ∧ a ≤ V.1 ∧ Pl.crlf s.data.toList V.1 = true ∧ e = .returned (.string (s.extract a V.1)) ∧ Sc w' g s (V.1 + 2) V.2) ∨ (V.1 < s.size ∧ Pl.crlf s.data.toList V.1 = false ∧ e = .panicked (flt 3 V.2)))
set_option maxRecDepth 20000 in
set_option maxHeartbeats 4000000 in
theorem scValue (g : Nat) (s : ByteArray) (a b : Nat) (w : World) (hs : s.size ≤ 100000) (ha : a ≤ s.size) (h : Sc w g s a b) :
    Calls Tryz.prog 78 #[scp g] w fun e w' => VPost s a (Pl.vend s.data.toList (s.data.toList.length + 1) a b) w g e w' := by
  have hll : s.data.toList.length = s.size := by simp
  obtain ⟨V, hV⟩ : ∃ V, Pl.vend s.data.toList (s.data.toList.length + 1) a b = V := ⟨_, rfl⟩
  rw [hV]
  have HV0 : Hid (VAt s a V w g w) := ⟨⟨a, b, s.data.toList.length + 1, h, Nat.le_refl _, ha, hV, by omega⟩, grown_refl _ _⟩
  clear hV
  have c1 := h.c1
  clear h
  go_enter Tryz.func78, Tryz.ntmps78
  go_wp2
  refine scope_jumps' 0 (fun a' w' => Hid (VAt s a V w g w') ∧ ∃ (u9 u10 u11 u12 u13 u14 u15 u16 u17 u18 u19 : Value), a' = { tmps := #[scp g, undef, .string ⟨#[]⟩, .int .i64 a, undef, scp g, .pointer (some ⟨g, 0, none⟩), .pointer (some ⟨g, 1, none⟩), .int .i64 a, u9, u10, u11, u12, u13, u14, u15, u16, u17, u18, u19, undef, undef, undef, undef, undef, undef, undef, undef, undef, undef, undef, undef, undef, undef, undef, undef, undef, undef, undef, undef], defers := [] }) (fun _ w' => s.size + 1 - atOf w' g) rfl ?_ ?_
  · clear HV0 c1
    rintro a' wr ⟨HV, u9, u10, u11, u12, u13, u14, u15, u16, u17, u18, u19, rfl⟩
    obtain ⟨⟨cur, beg, f, hsc, hac, hcn, hve, hfu⟩, hgr⟩ := HV.out
    clear HV
    obtain ⟨f, rfl⟩ : ∃ k, f = k + 1 := ⟨f - 1, by omega⟩
    rw [Pl.vend] at hve
    have hz1 := Pl.stop_ge Pl.lb s.data.toList cur (by omega)
    have hz2 := Pl.stop_le Pl.lb s.data.toList cur (by omega)
    have hP := scPass kindLine g s cur beg wr hs hcn hsc
    have hat : Hid (atOf wr g = cur) := hsc.at
    have Hgr := (show Hid _ from hgr)
    clear hgr hsc
    generalize Pl.stop Pl.lb s.data.toList cur = z at *
    have Hve := (show Hid _ from hve)
    clear hve
    cases hfold : Pl.fold s.data.toList z
    · have HE : Hid (V = (z, beg)) := show _ = _ from by rw [← Hve.out, if_neg (by rw [hfold]; simp)]
      have HF := (show Hid _ from fun (w : World) h => scFoldNo g s z beg w hs (by omega) h hfold)
      clear Hve hfold
      go_wp2_with fail
      refine hP.mono ?_
      rintro e w1 ⟨rfl, s1, g1⟩
      have S1 := (show Hid _ from s1)
      have G1 := (show Hid _ from grown_trans Hgr.out g1)
      clear s1 g1 hP
      go_wp2_with fail
      refine (HF.out _ S1.out).mono ?_
      rintro e w2 ⟨rfl, hb2⟩
      have S2 := (show Hid _ from S1.out.below hb2)
      have G2 := (show Hid _ from grown_trans G1.out (grown_below hb2))
      clear hb2
      have c0 := S2.out.c0
      have c1 := S2.out.c1
      have k0 := cell_regrown c0
      have k1 := cell_regrown c1
      have f1 : (z : Int) ≤ (s.size : Int) := by omega
      have f2 : (a : Int) ≤ (z : Int) := by omega
      have cL : ∀ d os, Calls Tryz.prog 84 #[.string (s.extract a z)] (Go.Sort.grow (redrawn w2 d) os) fun e w'' => e = .returned (.string (s.extract a z)) ∧ ∃ p : Regrown, w'' = Go.Sort.grow (redrawn w2 p.d) p.os := fun d os => Calls.regrown_of (libClone _ _ (by rw [ByteArray.size_extract]; omega))
      go_wp2
      refine wp_region_quiet_below (by kernel_rfl) (by kernel_rfl) ?_
      iterate 10 (quiet_step (fail))
      quiet_step (exact cL _ _)
      repeat (quiet_step (fail))
      refine wpQuiet_nil ?_
      intro _ hw'
      obtain ⟨⟨dr, osr⟩, hw''⟩ := hw'
      subst hw''
      have hbr := below_regrown w2 dr osr
      have S3 := (show Hid _ from S2.out.below hbr)
      have G3 := (show Hid _ from grown_trans G2.out (grown_below hbr))
      generalize Go.Sort.grow (redrawn w2 dr) osr = w3 at *
      clear c0 c1 k0 k1 cL hbr
      obtain ⟨val, hval⟩ : ∃ val, s.extract a z = val := ⟨_, rfl⟩
      rw [hval]
      have Hval := (show Hid _ from hval)
      clear hval
      have hEn := scEnded g s z beg w3 S3.out
      by_cases hzn : z = s.size
      · rw [show ((z : Int) == (s.size : Int)) = true from by simp; omega] at hEn
        go_wp2_with fail
        refine hEn.mono ?_
        rintro e w4 ⟨rfl, hb4⟩
        go_wp2_with fail
        refine (scNeedYes g _).mono ?_
        rintro e w5 ⟨rfl, rfl⟩
        go_wp2
        simp only [Exit.jump]
        go_ret
        rw [HE.out]
        exact ⟨grown_trans G3.out (grown_below hb4), .inl ⟨hzn, by rw [Hval.out]; rfl, S3.out.below hb4⟩⟩
      · rw [show ((z : Int) == (s.size : Int)) = false from by simp; omega] at hEn
        cases hcr : Pl.crlf s.data.toList z
        · have HL := (show Hid _ from fun (w : World) h => scLineEndNo g s z beg w hs (by omega) h hcr)
          have Hcr := (show Hid _ from hcr)
          clear hcr
          go_wp2_with fail
          refine hEn.mono ?_
          rintro e w4 ⟨rfl, hb4⟩
          have S4 := (show Hid _ from S3.out.below hb4)
          have G4 := (show Hid _ from grown_trans G3.out (grown_below hb4))
          clear hb4
          go_wp2_with fail
          refine (HL.out _ S4.out).mono ?_
          rintro e w5 ⟨rfl, hb5⟩
          have S5 := (show Hid _ from S4.out.below hb5)
          have G5 := (show Hid _ from grown_trans G4.out (grown_below hb5))
          clear hb5
          go_wp2_with fail
          refine (scNeedNo g s z beg w5 S5.out).mono ?_
          rintro e w6 ⟨rfl, rfl⟩
          refine ⟨rfl, ?_⟩
          rw [HE.out]
          exact ⟨G5.out, .inr (.inr ⟨by omega, Hcr.out, rfl⟩)⟩
        · have HL := (show Hid _ from fun (w : World) h => scLineEndYes g s z beg w hs (by omega) h hcr)
          have Hcr := (show Hid _ from hcr)
          clear hcr
          go_wp2_with fail
          refine hEn.mono ?_
          rintro e w4 ⟨rfl, hb4⟩
          have S4 := (show Hid _ from S3.out.below hb4)
          have G4 := (show Hid _ from grown_trans G3.out (grown_below hb4))
          clear hb4
          go_wp2_with fail
          refine (HL.out _ S4.out).mono ?_
          rintro e w5 ⟨rfl, s5, g5⟩
          have S5 := (show Hid _ from s5)
          have G5 := (show Hid _ from grown_trans G4.out g5)
          clear s5 g5
          go_wp2_with fail
          refine (scNeedYes g _).mono ?_
          rintro e w6 ⟨rfl, rfl⟩
          go_wp2
          simp only [Exit.jump]
          go_ret
          rw [HE.out]
          exact ⟨G5.out, .inr (.inl ⟨by omega, by show a ≤ z; omega, Hcr.out, by rw [Hval.out]; rfl, S5.out⟩)⟩
    · have HF := (show Hid _ from fun (w : World) h => scFoldYes g s z beg w hs (by omega) h hfold)
      have hz3 : z + 2 < s.size := by have := (Pl.fold_b _ _ hfold).2; omega
      have HE : Hid (Pl.vend s.data.toList f (z + 2) (z + 2) = V) := show _ = _ from by rw [← Hve.out, if_pos hfold]
      clear Hve hfold
      go_wp2_with fail
      refine hP.mono ?_
      rintro e w1 ⟨rfl, s1, g1⟩
      have S1 := (show Hid _ from s1)
      have G1 := (show Hid _ from grown_trans Hgr.out g1)
      clear s1 g1 hP
      go_wp2_with fail
      refine (HF.out _ S1.out).mono ?_
      rintro e w2 ⟨rfl, s2, g2⟩
      have S2 := (show Hid _ from s2)
      have G2 := (show Hid _ from grown_trans G1.out g2)
      clear s2 g2
      have c1 := S2.out.c1
      have c2 := S2.out.c2
      have f2 := S2.out.f2
      have S3 := (show Hid _ from S2.out.set2 ((z : Int) + 2) (z + 2) (by omega))
      have G3 := (show Hid _ from grown_trans G2.out (grown_set w2 g 2 (.int .i64 ((z : Int) + 2))))
      go_wp2
      go_step3
      refine ⟨rfl, ⟨?_, _, _, _, _, _, _, _, _, _, _, _, rfl⟩, ?_⟩
      · exact ⟨⟨z + 2, z + 2, f, S3.out, by omega, by omega, HE.out, by omega⟩, G3.out⟩
      · rw [hat.out]
        have := S3.out.at
        first | omega | (rw [this]; omega)
  · intro pass
    go_wp2
    go_step3
    rename_i hK
    exact hK _ _ (pass _ _ ⟨HV0, _, _, _, _, _, _, _, _, _, _, _, rfl⟩)
end Go.Proofs.YtgabjiamabbheaaGreatDoor
