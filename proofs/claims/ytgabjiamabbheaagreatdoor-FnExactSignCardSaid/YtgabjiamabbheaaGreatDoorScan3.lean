
/- The walks of the program's scanner: a field's name, a field's value. -/
import Derived.Test.YtgabjiamabbheaaGreatDoorScan2
import Derived.ScopeJumps
import Derived.WalkMore
namespace Go.Proofs.YtgabjiamabbheaaGreatDoor
open Go.RowKit Go.Lib
abbrev flt (c : Int) (b : Nat) : List PanicEntry := [{ v := .iface 75 (.agg #[.int .i64 c, .int .i64 b]), recovered := false }]
set_option maxRecDepth 20000 in
theorem ext_sl (s : ByteArray) (i j : Nat) : (s.extract i j).data.toList = Pl.sl s.data.toList i j := Pl.ext_data s i j
set_option maxRecDepth 20000 in
theorem grown_of_grown {w w' : World} {r : Option Nat} (h : w.grownBy w' r) : w.grownBy w' r := h
set_option maxRecDepth 20000 in
set_option maxHeartbeats 2000000 in
theorem scNameYes (g : Nat) (s : ByteArray) (a b : Nat) (w : World) (hs : s.size ≤ 100000) (ha : a ≤ s.size) (h : Sc w g s a b) (hg : Pl.nameGood s.data.toList a = true) :
    Calls Tryz.prog 77 #[scp g] w fun e w' => e = .returned (.string (s.extract a (Pl.stop Pl.nb s.data.toList a))) ∧ Sc w' g s (Pl.stop Pl.blank s.data.toList (Pl.stop Pl.nb s.data.toList a) + 1) b ∧ w.grownBy w' (some g) := by
  have hll : s.data.toList.length = s.size := by simp
  have hp1 := Pl.stop_le Pl.nb s.data.toList a (by omega)
  have hq1 := Pl.stop_le Pl.blank s.data.toList (Pl.stop Pl.nb s.data.toList a) (by omega)
  have hP := scPass kindName g s a b w hs ha h
  have HQ := (show Hid _ from fun (w : World) h => scPass kindBlank g s (Pl.stop Pl.nb s.data.toList a) b w hs (by omega) h)
  rw [Pl.nameGood, Bool.and_eq_true, Bool.and_eq_true] at hg
  obtain ⟨g1, g2, g3⟩ := hg
  rw [decide_eq_true_eq] at g2
  rw [← ext_sl] at g1
  have hN := fun w => implFieldName (s.extract a (Pl.stop Pl.nb s.data.toList a)) w (by rw [ByteArray.size_extract]; omega)
  simp only [g1] at hN
  generalize Pl.stop Pl.nb s.data.toList a = p at *
  generalize Pl.stop Pl.blank s.data.toList p = q at *
  have hq : q < s.size := by omega
  have g4 : s[q] = 58 := by
    have e := Pl.b_lt s.data.toList q (by omega)
    rw [e] at g3
    exact beq_iff_eq.1 g3
  have HB := (show Hid _ from fun (w : World) h => scByteYes g s q b w hs h hq (by rw [g4]; rfl))
  simp only [g4] at HB
  generalize s.extract a p = nm at *
  clear g1 g2 g3 g4 hll h hp1 hq1
  go_enter Tryz.func77, Tryz.ntmps77
  go_wp2_with fail
  refine hP.mono ?_
  rintro e w1 ⟨rfl, s1, g1⟩
  have S1 := (show Hid _ from s1)
  have G1 := (show Hid _ from g1)
  clear s1 g1 hP
  go_wp2_with fail
  refine (HQ.out _ S1.out).mono ?_
  rintro e w2 ⟨rfl, s2, g2⟩
  have S2 := (show Hid _ from s2)
  have G2 := (show Hid _ from grown_trans G1.out g2)
  clear s2 g2
  go_wp2_with fail
  refine (hN _).mono ?_
  rintro e w3 ⟨rfl, rfl⟩
  go_wp2_with fail
  refine (HB.out _ S2.out).mono ?_
  rintro e w4 ⟨rfl, s3, g3⟩
  have S3 := (show Hid _ from s3)
  have G3 := (show Hid _ from grown_trans G2.out g3)
  clear s3 g3
  go_wp2_with fail
  refine (scNeedYes g _).mono ?_
  rintro e w5 ⟨rfl, rfl⟩
  go_wp2
  go_ret
  exact ⟨rfl, S3.out, G3.out⟩
set_option maxRecDepth 20000 in
set_option maxHeartbeats 2000000 in
theorem scNameNo (g : Nat) (s : ByteArray) (a b : Nat) (w : World) (hs : s.size ≤ 100000) (ha : a ≤ s.size) (h : Sc w g s a b) (hg : Pl.nameGood s.data.toList a = false) :
    Calls Tryz.prog 77 #[scp g] w fun e w' => e = .panicked (flt 3 b) ∧ w.grownBy w' (some g) := by
  have hll : s.data.toList.length = s.size := by simp
  have hp1 := Pl.stop_le Pl.nb s.data.toList a (by omega)
  have hq1 := Pl.stop_le Pl.blank s.data.toList (Pl.stop Pl.nb s.data.toList a) (by omega)
  have hP := scPass kindName g s a b w hs ha h
  have HQ := (show Hid _ from fun (w : World) h => scPass kindBlank g s (Pl.stop Pl.nb s.data.toList a) b w hs (by omega) h)
  rw [Pl.nameGood, ← ext_sl] at hg
  have hN := fun w => implFieldName (s.extract a (Pl.stop Pl.nb s.data.toList a)) w (by rw [ByteArray.size_extract]; omega)
  generalize Pl.stop Pl.nb s.data.toList a = p at *
  generalize Pl.stop Pl.blank s.data.toList p = q at *
  generalize s.extract a p = nm at *
  have HF := (show Hid _ from fun (w : World) (c : Nat) h => scNeedNo g s c b w h)
  clear h hp1
  cases hno : Pl.nameOk nm.data.toList <;> simp only [hno] at hN
  · clear hg hno
    go_enter Tryz.func77, Tryz.ntmps77
    go_wp2_with fail
    refine hP.mono ?_
    rintro e w1 ⟨rfl, s1, g1⟩
    have S1 := (show Hid _ from s1)
    have G1 := (show Hid _ from g1)
    clear s1 g1 hP
    go_wp2_with fail
    refine (HQ.out _ S1.out).mono ?_
    rintro e w2 ⟨rfl, s2, g2⟩
    have S2 := (show Hid _ from s2)
    have G2 := (show Hid _ from grown_trans G1.out g2)
    clear s2 g2
    go_wp2_with fail
    refine (hN _).mono ?_
    rintro e w3 ⟨rfl, rfl⟩
    go_wp2_with fail
    refine (HF.out _ _ S2.out).mono ?_
    rintro e w4 ⟨rfl, rfl⟩
    exact ⟨rfl, rfl, G2.out⟩
  · rw [hno, Bool.true_and] at hg
    have hbad : Calls Tryz.prog 105 #[scp g] w (fun e w' => True) → True := fun _ => trivial
    by_cases hq : q < s.size
    · have g3 : s[q] ≠ 58 := by
        rw [decide_eq_true (by omega), Bool.true_and, Pl.b_lt s.data.toList q (by omega)] at hg
        exact beq_eq_false_iff_ne.1 hg
      cases hlb : Pl.lb s[q]
      · have HB := (show Hid _ from fun (w : World) h => scByteNo g s q b w hs h hq hlb)
        clear hg hno hbad g3 hll hq1
        go_enter Tryz.func77, Tryz.ntmps77
        go_wp2_with fail
        refine hP.mono ?_
        rintro e w1 ⟨rfl, s1, g1⟩
        have S1 := (show Hid _ from s1)
        have G1 := (show Hid _ from g1)
        clear s1 g1 hP
        go_wp2_with fail
        refine (HQ.out _ S1.out).mono ?_
        rintro e w2 ⟨rfl, s2, g2⟩
        have S2 := (show Hid _ from s2)
        have G2 := (show Hid _ from grown_trans G1.out g2)
        clear s2 g2
        go_wp2_with fail
        refine (hN _).mono ?_
        rintro e w3 ⟨rfl, rfl⟩
        go_wp2_with fail
        refine (HB.out _ S2.out).mono ?_
        rintro e w4 ⟨rfl, hb4⟩
        exact ⟨rfl, rfl, grown_trans G2.out hb4⟩
      · have HB := (show Hid _ from fun (w : World) h => scByteYes g s q b w hs h hq hlb)
        have h58 : ((s[q].toNat : Int) == 58) = false := by
          have : s[q].toNat ≠ 58 := fun e => g3 (UInt8.toNat_inj.1 e)
          simp; omega
        clear hg hno hbad g3 hll hq1
        go_enter Tryz.func77, Tryz.ntmps77
        go_wp2_with fail
        refine hP.mono ?_
        rintro e w1 ⟨rfl, s1, g1⟩
        have S1 := (show Hid _ from s1)
        have G1 := (show Hid _ from g1)
        clear s1 g1 hP
        go_wp2_with fail
        refine (HQ.out _ S1.out).mono ?_
        rintro e w2 ⟨rfl, s2, g2⟩
        have S2 := (show Hid _ from s2)
        have G2 := (show Hid _ from grown_trans G1.out g2)
        clear s2 g2
        go_wp2_with fail
        refine (hN _).mono ?_
        rintro e w3 ⟨rfl, rfl⟩
        go_wp2_with fail
        refine (HB.out _ S2.out).mono ?_
        rintro e w4 ⟨rfl, s3, g3⟩
        have S3 := (show Hid _ from s3)
        have G3 := (show Hid _ from grown_trans G2.out g3)
        clear s3 g3
        go_wp2_with fail
        refine (HF.out _ _ S3.out).mono ?_
        rintro e w5 ⟨rfl, rfl⟩
        exact ⟨rfl, rfl, G3.out⟩
    · have HB := (show Hid _ from fun (w : World) h => scByteEnd g s q b w h (by omega))
      clear hg hno hbad hll hq1
      go_enter Tryz.func77, Tryz.ntmps77
      go_wp2_with fail
      refine hP.mono ?_
      rintro e w1 ⟨rfl, s1, g1⟩
      have S1 := (show Hid _ from s1)
      have G1 := (show Hid _ from g1)
      clear s1 g1 hP
      go_wp2_with fail
      refine (HQ.out _ S1.out).mono ?_
      rintro e w2 ⟨rfl, s2, g2⟩
      have S2 := (show Hid _ from s2)
      have G2 := (show Hid _ from grown_trans G1.out g2)
      clear s2 g2
      go_wp2_with fail
      refine (hN _).mono ?_
      rintro e w3 ⟨rfl, rfl⟩
      go_wp2_with fail
      refine (HB.out _ S2.out).mono ?_
      rintro e w4 ⟨rfl, hb4⟩
      exact ⟨rfl, rfl, grown_trans G2.out (grown_below hb4)⟩
end Go.Proofs.YtgabjiamabbheaaGreatDoor
