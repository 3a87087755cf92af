/- The law on StoreStart. -/
import Derived.Test.YtlkjmgjcofijfaaStartLaw
namespace Go.Proofs.Ytlkjmgjcofijfaa
open Go.RowKit Go.Lib Go.Maps
abbrev stV (g : Nat) : Value := .agg #[.int .i64 2, .slice (some ⟨g, 0, none⟩) 1 1]
theorem eqStart (g h : Nat) (w : World) (h1 : BoxRow w g inboxT 1 1 0) (h2 : BoxRow w h inboxT 1 1 0) : Calls Try.prog 6 #[stV g, stV h] w fun e w' => e = .returned (.bool true) ∧ Below w.heap.size w w' :=
  lawEqStore startG _ _ 0 0 w h1.inS h2.inS startG_fits
theorem markStart (g : Nat) (w : World) (h : BoxRow w g inboxT 1 1 0) : Calls Try.prog 7 #[stV g, .int .i64 1] w fun e w' => e = .returned (.int .i64 5) ∧ Hid (BoxRow w' g m1T 2 3 4) ∧ Hid (∃ V, Below w.heap.size w V ∧ V.grownBy w' (some g)) := by
  obtain ⟨V, hV⟩ : ∃ V, V = w.alloc (.cells #[.int .i64 2, .slice (some ⟨g, 0, none⟩) 1 1] 24) := ⟨_, rfl⟩
  have hb : Below w.heap.size w V := by rw [hV]; exact (Below.refl _ _).alloc (Nat.le_refl _) _
  have cM := mkHid (markOne g inboxT 1 1 0 V (h.keep hb))
  have cN := mkHid (markOne g inboxT 1 1 0 w h)
  replace hb := mkHid hb
  have HV := mkHid hV
  clear hV h
  unfold stV
  go_enter Try.func7, Try.ntmps7
  go_wp2_with fail
  first
  | (refine cN.out.mono ?_
     rintro e w2 ⟨rfl, hB, hg⟩
     go_wp2
     go_ret
     exact ⟨rfl, hB, ⟨w, Below.refl _ _, hg.out⟩⟩)
  | (rw [← HV.out]
     refine cM.out.mono ?_
     rintro e w2 ⟨rfl, hB, hg⟩
     go_wp2
     go_ret
     exact ⟨rfl, hB, ⟨V, hb.out, hg.out⟩⟩)
theorem heldStart (g : Nat) (w : World) (h : BoxRow w g m1T 2 3 4) : Calls Try.prog 8 #[stV g, .int .i64 1] w fun e w' => e = .returned (.int .i64 5) ∧ Below w.heap.size w w' := by
  obtain ⟨V, hV⟩ : ∃ V, V = w.alloc (.cells #[.int .i64 2, .slice (some ⟨g, 0, none⟩) 1 1] 24) := ⟨_, rfl⟩
  have hb : Below w.heap.size w V := by rw [hV]; exact (Below.refl _ _).alloc (Nat.le_refl _) _
  have cM := mkHid (heldOne g V (h.keep hb))
  have cN := mkHid (heldOne g w h)
  have hbs := mkHid hb.size
  replace hb := mkHid hb
  have HV := mkHid hV
  clear hV h
  unfold stV
  go_enter Try.func8, Try.ntmps8
  go_wp2_with fail
  first
  | (refine cN.out.mono ?_
     rintro e w2 ⟨rfl, hB⟩
     go_wp2
     go_ret
     exact ⟨rfl, hB⟩)
  | (rw [← HV.out]
     refine cM.out.mono ?_
     rintro e w2 ⟨rfl, hB⟩
     go_wp2
     go_ret
     exact ⟨rfl, hb.out.trans (hB.mono hbs.out)⟩)
set_option maxHeartbeats 2000000 in
theorem walkStart (w : World) : Calls Try.prog 3 #[] w fun e w' => e = .returned (.bool true) ∧ Below w.heap.size w w' := by
  have cS : Hid (Calls Try.prog 4 #[] w fun e w' => e = .returned (.agg #[.int .i64 2, .slice (some ⟨w.heap.size + 1, 0, none⟩) 1 1]) ∧ Hid (BoxRow w' (w.heap.size + 1) inboxT 1 1 0) ∧ Below w.heap.size w w') := specStart w
  have cI : Hid (∀ w, Calls Try.prog 5 #[] w fun e w' => e = .returned (.agg #[.int .i64 2, .slice (some ⟨w.heap.size + 1, 0, none⟩) 1 1]) ∧ Hid (BoxRow w' (w.heap.size + 1) inboxT 1 1 0) ∧ Below w.heap.size w w') := fun w => implStart w
  go_enter Try.func3, Try.ntmps3
  go_wp2_with fail
  refine cS.out.mono ?_
  rintro e w1 ⟨rfl, hA1, hb1⟩
  clear cS
  obtain ⟨W1, hW1⟩ : ∃ W1, W1 = w1.alloc (.cells #[.int .i64 2, .slice (some ⟨w.heap.size + 1, 0, none⟩) 1 1] 24) := ⟨_, rfl⟩
  have bW1 : Below w1.heap.size w1 W1 := by rw [hW1]; exact (Below.refl _ _).alloc (Nat.le_refl _) _
  have O0 : W1.heap[w1.heap.size]? = some (.cells #[.int .i64 2, .slice (some ⟨w.heap.size + 1, 0, none⟩) 1 1] 24 (0, 0)) := by rw [hW1]; exact heap_alloc_at _ _
  have s1 : w1.heap.size < W1.heap.size := by rw [hW1]; simp
  have RA := mkHid (hA1.out.keep bW1)
  have bA := mkHid (hb1.trans (bW1.mono hb1.size))
  have sA : w.heap.size ≤ w1.heap.size := hb1.size
  replace O0 := mkHid O0
  have HW1 := mkHid hW1
  clear hW1 bW1 hA1 hb1
  generalize hgA : w.heap.size + 1 = gA at *
  go_wp2_with fail
  rw [← HW1.out]
  clear HW1
  generalize w1.heap.size = G0 at *
  refine (cI.out W1).mono ?_
  rintro e w2 ⟨rfl, hA2, hb2⟩
  obtain ⟨W2, hW2⟩ : ∃ W2, W2 = w2.alloc (.cells #[.int .i64 2, .slice (some ⟨W1.heap.size + 1, 0, none⟩) 1 1] 24) := ⟨_, rfl⟩
  have bW2 : Below w2.heap.size w2 W2 := by rw [hW2]; exact (Below.refl _ _).alloc (Nat.le_refl _) _
  have P1 : W2.heap[w2.heap.size]? = some (.cells #[.int .i64 2, .slice (some ⟨W1.heap.size + 1, 0, none⟩) 1 1] 24 (0, 0)) := by rw [hW2]; exact heap_alloc_at _ _
  have s2 : w2.heap.size < W2.heap.size := by rw [hW2]; simp
  have b12 := hb2.trans (bW2.mono hb2.size)
  have P0 := (b12.block G0 s1).trans O0.out
  have RA2 := RA.out.keep b12
  have RB2 := hA2.out.keep bW2
  have bB := mkHid (bA.out.trans (b12.mono bA.out.size))
  have hgB : w.heap.size + 1 ≤ W1.heap.size := by omega
  have hgAl := RA.out.lt
  have hBl := hA2.out.lt
  have hb2s := hb2.size
  replace P0 := mkHid P0
  replace P1 := mkHid P1
  have HW2 := mkHid hW2
  clear hW2 bW2 hA2 hb2 b12 RA bA O0
  generalize hgBe : W1.heap.size + 1 = gB at *
  have cE := mkHid (eqStart gB gA W2 RB2 RA2)
  unfold stV at cE
  go_wp2_with (first | (rw [← HW2.out]; clear HW2; generalize hG1e : w2.heap.size = G1 at *; refine wpL_load_row rfl 24 _ rfl G1 _ 24 (0, 0) _ rfl P1.out Try.underlying24 rfl (by kernel_rfl) ?_) | (refine wpL_load_row rfl 24 _ rfl G0 _ 24 (0, 0) _ rfl P0.out Try.underlying24 rfl (by kernel_rfl) ?_) | (go_at_call 6; fail))
  refine cE.out.mono ?_
  rintro e w3 ⟨rfl, hb3⟩
  have Q0 := mkHid ((hb3.block G0 (by omega)).trans P0.out)
  have Q1 := mkHid ((hb3.block G1 s2).trans P1.out)
  have RA3 := mkHid (RA2.keep hb3)
  have cM := mkHid (markStart gB w3 (RB2.keep hb3))
  have bC := mkHid (bB.out.trans (hb3.mono bB.out.size))
  have l3 : G1 < w3.heap.size := Nat.lt_of_lt_of_le s2 hb3.size
  clear cE P0 P1 RA2 RB2 hb3 bB
  unfold stV at cM
  go_wp2_with (first | (refine wpL_load_row rfl 24 _ rfl G1 _ 24 (0, 0) _ rfl Q1.out Try.underlying24 rfl (by kernel_rfl) ?_) | (go_at_call 7; fail))
  refine cM.out.mono ?_
  rintro e w4 ⟨rfl, hB4, hV4⟩
  obtain ⟨V, hbV, hgV⟩ := hV4.out
  have lV := hbV.size
  have X0 := mkHid (((hgV.block G0 (by omega) (by simp; omega)).trans (hbV.block G0 (by omega))).trans Q0.out)
  have X1 := mkHid (((hgV.block G1 (by omega) (by simp; omega)).trans (hbV.block G1 (by omega))).trans Q1.out)
  have RA4 : Hid (BoxRow w4 gA inboxT 1 1 0) := ((hgV.block gA (by omega) (by simp; omega)).trans (hbV.block gA (by omega))).trans RA3.out
  have bD := mkHid ((bC.out.trans (hbV.mono bC.out.size)).grown hgV (Nat.le_trans bC.out.size lV) (fun k hk => by cases hk; omega))
  have l4 : G1 < w4.heap.size := by have := hgV.size; omega
  have cH := mkHid (heldStart gB w4 hB4.out)
  clear cM Q0 Q1 RA3 bC hV4 hbV hgV
  unfold stV at cH
  go_wp2_with (first | (refine wpL_load_row rfl 24 _ rfl G1 _ 24 (0, 0) _ rfl X1.out Try.underlying24 rfl (by kernel_rfl) ?_) | (go_at_call 8; fail))
  refine cH.out.mono ?_
  rintro e w5 ⟨rfl, hb5⟩
  have Y0 := mkHid ((hb5.block G0 (by omega)).trans X0.out)
  have Y1 := mkHid ((hb5.block G1 l4).trans X1.out)
  have RA5 := RA4.out.keep hb5
  have RB5 := hB4.out.keep hb5
  have bE := mkHid (bD.out.trans (hb5.mono bD.out.size))
  have l5 : G1 < w5.heap.size := Nat.lt_of_lt_of_le l4 hb5.size
  clear cH X0 X1 RA4 hB4 hb5 bD
  go_wp2_with fail
  refine (cI.out w5).mono ?_
  rintro e w6 ⟨rfl, hA6, hb6⟩
  obtain ⟨W6, hW6⟩ : ∃ W6, W6 = w6.alloc (.cells #[.int .i64 2, .slice (some ⟨w5.heap.size + 1, 0, none⟩) 1 1] 24) := ⟨_, rfl⟩
  have bW6 : Below w6.heap.size w6 W6 := by rw [hW6]; exact (Below.refl _ _).alloc (Nat.le_refl _) _
  have Z5 : W6.heap[w6.heap.size]? = some (.cells #[.int .i64 2, .slice (some ⟨w5.heap.size + 1, 0, none⟩) 1 1] 24 (0, 0)) := by rw [hW6]; exact heap_alloc_at _ _
  have s6 : w6.heap.size < W6.heap.size := by rw [hW6]; simp
  have b56 := hb6.trans (bW6.mono hb6.size)
  have Z0 := mkHid ((b56.block G0 (by omega)).trans Y0.out)
  have Z1 := mkHid ((b56.block G1 l5).trans Y1.out)
  have RA6 := RA5.keep b56
  have RB6 := RB5.keep b56
  have RC6 := hA6.out.keep bW6
  have bF := mkHid (bE.out.trans (b56.mono bE.out.size))
  have l6 : G1 < W6.heap.size := Nat.lt_of_lt_of_le l5 b56.size
  replace Z5 := mkHid Z5
  have HW6 := mkHid hW6
  clear hW6 bW6 hA6 hb6 b56 Y0 Y1 RA5 RB5 bE cI
  generalize hgC : w5.heap.size + 1 = gC at *
  have cE := mkHid (eqStart gC gA W6 RC6 RA6)
  unfold stV at cE
  go_wp2_with (first | (rw [← HW6.out]; clear HW6; generalize hG5 : w6.heap.size = G5 at *; refine wpL_load_row rfl 24 _ rfl G5 _ 24 (0, 0) _ rfl Z5.out Try.underlying24 rfl (by kernel_rfl) ?_) | (refine wpL_load_row rfl 24 _ rfl G0 _ 24 (0, 0) _ rfl Z0.out Try.underlying24 rfl (by kernel_rfl) ?_) | (go_at_call 6; fail))
  refine cE.out.mono ?_
  rintro e w7 ⟨rfl, hb7⟩
  have U1 := mkHid ((hb7.block G1 l6).trans Z1.out)
  have cH := mkHid (heldStart gB w7 (RB6.keep hb7))
  have bG := mkHid (bF.out.trans (hb7.mono bF.out.size))
  clear cE Z0 Z1 Z5 RA6 RB6 RC6 hb7 bF
  unfold stV at cH
  go_wp2_with (first | (refine wpL_load_row rfl 24 _ rfl G1 _ 24 (0, 0) _ rfl U1.out Try.underlying24 rfl (by kernel_rfl) ?_) | (go_at_call 8; fail))
  refine cH.out.mono ?_
  rintro e w8 ⟨rfl, hb8⟩
  have bH := mkHid (bG.out.trans (hb8.mono bG.out.size))
  clear cH U1 hb8 bG
  go_wp2
  go_ret
  exact ⟨rfl, bH.out⟩
end Go.Proofs.Ytlkjmgjcofijfaa
