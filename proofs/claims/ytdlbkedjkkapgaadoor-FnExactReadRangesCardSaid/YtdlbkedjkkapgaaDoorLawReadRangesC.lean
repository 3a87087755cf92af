
/- The law on ReadRanges, with the cell of strings' MaxLen. -/
import Derived.Test.YtdlbkedjkkapgaaDoorImplReadRanges
import Derived.Test.YtdlbkedjkkapgaaDoorRangeMarks
namespace Go.Proofs.YtdlbkedjkkapgaaDoor
open Go.RowKit Go.Lib Go.Maps
theorem Cu.rr_len : ∀ (l : List (List UInt8)) (C : List GRange), C.length ≤ 100 → (Cu.rr C l).length ≤ 100 := by
  intro l
  induction l with
  | nil => intro C h; exact h
  | cons p r ih =>
    intro C h
    rw [Cu.rr]
    split
    · rename_i hc
      simp only [Bool.and_eq_true, Bool.not_eq_true', decide_eq_false_iff_not] at hc
      exact ih _ (by rw [List.length_append, List.length_singleton]; omega)
    · exact Nat.zero_le _
theorem readRanges_len (t : ByteArray) : (plReadRanges t).length ≤ 100 := by
  unfold plReadRanges
  split
  · exact Nat.zero_le _
  · exact Cu.rr_len _ _ (Nat.zero_le _)
set_option maxHeartbeats 4000000 in
set_option maxRecDepth 20000 in
theorem walkReadRanges (s0 : ByteArray) (mx : Int) (w : World) (hm : w.cell? ⟨0, 0, none⟩ = some (.int .i64 mx)) (hl0 : s0.size ≤ maxLen) :
    Calls Tryd.prog 3 #[.string s0] w fun e w' => e = .returned (.bool true) ∧ Below w.heap.size w w' := by
  have hm0 := bcell_ltR hm
  have Hm := mkHid hm
  clear hm
  unfold maxLen at hl0
  by_cases hs0 : 1048576 < s0.size
  · go_enter Tryd.func3, Tryd.ntmps3
    go_wp2
    go_ret
    exact ⟨rfl, Below.refl _ _⟩
  replace hs0 : s0.size ≤ 1048576 := by omega
  have cS := mkHid (specReadRanges s0 w hs0)
  have cIm := mkHid fun (w : World) (h : w.cell? ⟨0, 0, none⟩ = some (.int .i64 mx)) => implReadRanges s0 mx w hs0 h
  have hP := readRanges_len s0
  generalize plReadRanges s0 = P at *
  have hfit : Hid (∀ f ∈ P, f.fits 1048576) := fun f _ => ⟨Nat.zero_le _, rfl⟩
  go_enter Tryd.func3, Tryd.ntmps3
  go_wp2_with fail
  refine cS.out.mono ?_
  rintro e w1 ⟨y1, rfl, hy1, hb1⟩
  obtain ⟨p1, k1, rfl⟩ := hy1.out.shape
  have B1 := mkHid hb1
  have hs00 : w.heap.size ≤ w1.heap.size := hb1.size
  have cI := mkHid (cIm.out w1 ((hb1.cell (p := ⟨0, 0, none⟩) hm0).trans Hm.out))
  clear cS hb1
  go_wp2_with fail
  refine cI.out.mono ?_
  rintro e w2 ⟨y2, rfl, hy2, hb2⟩
  obtain ⟨p2, k2, rfl⟩ := hy2.out.shape
  have B2 := mkHid (B1.out.trans (hb2.mono B1.out.size))
  have O1 := mkHid (hy1.out.below hb2)
  have hlt : Hid (∀ k, (Value.slice p1 P.length k1).ownBlock = some k → k < w1.heap.size) := fun k hk => (World.ownsRow.lt hy1.out k hk).2
  have hs1 : w1.heap.size ≤ w2.heap.size := hb2.size
  have cE := mkHid (lawEqSRange p2 p1 P k2 k1 _ _ w2 hy2.out.gl O1.out.gl (by omega) hfit.out)
  clear cI hb2 hy1 B1
  go_wp2_with fail
  refine cE.out.mono ?_
  rintro e w3 ⟨rfl, hb3⟩
  have B3 := mkHid (B2.out.trans (hb3.mono B2.out.size))
  have O3 := mkHid (O1.out.below hb3)
  have G3 := mkHid (hy2.out.below hb3)
  have hs3 : w2.heap.size ≤ w3.heap.size := hb3.size
  have cM := mkHid (lawMarkRanges p2 P k2 w1.heap.size 1 w3 (by omega) (by omega) G3.out)
  clear cE hb3 hy2 O1 B2
  go_wp2_with fail
  refine cM.out.mono ?_
  rintro e w4 ⟨rfl, hm4, hg4⟩
  have hs4 : w3.heap.size ≤ w4.heap.size := hg4.out.size
  have hge : Hid (∀ k, (Value.slice p2 P.length k2).ownBlock = some k → w1.heap.size ≤ k) := fun k hk => (World.ownsRow.lt G3.out k hk).1
  have hs01 : w.heap.size ≤ w3.heap.size := B3.out.size
  have O4 : Hid (OwnR w.heap.size (.slice p1 P.length k1) P w4) := O3.out.stay fun k hk => hg4.out.block k (by have := hlt.out k hk; omega) (by
    intro e
    have h1 := hlt.out k hk
    have h2 := hge.out k e.symm
    omega)
  have B4 : Hid (Below w.heap.size w w4) := B3.out.grown hg4.out hs01 (fun k hk => Nat.le_trans hs00 (hge.out k hk))
  have M4 : Hid (GRangesL w1.heap.size w4.heap.size w4 p2 (rgFrom 1 P.length)) := OwnR.gl (cap := k2) (by rw [rgFrom_len]; exact hm4.out)
  have cH := mkHid fun (lo : Nat) (w : World) (h : GRangesL lo w.heap.size w p2 (rgFrom 1 P.length)) => lawHeldRanges p2 P.length k2 lo 1 w (by omega) (by omega) h
  obtain ⟨m, hm⟩ : ∃ m, 1 + 2 * P.length = m := ⟨_, rfl⟩
  rw [hm] at cH ⊢
  have u1 : decide ((m : Int) < 0) = false := decide_eq_false (by omega)
  have u2 : ((m : Int) != (m : Int)) = false := by simp
  clear cM hm4 hg4 hge hlt O3 G3 B3 hm
  go_wp2_with fail
  refine (cH.out _ _ M4.out).mono ?_
  rintro e w5 ⟨rfl, rfl⟩
  have cI := mkHid (cIm.out w4 ((B4.out.cell (p := ⟨0, 0, none⟩) hm0).trans Hm.out))
  clear cIm
  go_wp2_with fail
  refine cI.out.mono ?_
  rintro e w6 ⟨y6, rfl, hy6, hb6⟩
  obtain ⟨p6, k6, rfl⟩ := hy6.out.shape
  have B6 := mkHid (B4.out.trans (hb6.mono B4.out.size))
  have O6 := mkHid (O4.out.below hb6)
  have M6 := mkHid ((M4.out.below hb6 (Nat.le_refl _)).mono (Nat.le_refl _) hb6.size)
  have cE := mkHid (lawEqSRange p6 p1 P k6 k1 _ _ w6 hy6.out.gl O6.out.gl (by omega) hfit.out)
  clear cI hb6 O4 M4 B4
  go_wp2_with fail
  refine cE.out.mono ?_
  rintro e w7 ⟨rfl, hb7⟩
  have B7 := mkHid (B6.out.trans (hb7.mono B6.out.size))
  have M7 := mkHid ((M6.out.below hb7 (Nat.le_refl _)).mono (Nat.le_refl _) hb7.size)
  clear cE hb7 O6 hy6 M6 B6
  go_wp2_with fail
  refine (cH.out _ _ M7.out).mono ?_
  rintro e w8 ⟨rfl, rfl⟩
  clear cH M7
  go_wp2
  go_ret
  exact ⟨rfl, B7.out⟩
end Go.Proofs.YtdlbkedjkkapgaaDoor
