
/- The specification's reader of a script: commands of one word. (By tools/gen/rftest.py.) -/

/- The specification's reader of a script: the command set. (By tools/gen/rftest.py.) -/
import Derived.Test.YtlphojaeaogehaaGreatDoorRfCmd
namespace Go.Proofs.YtlphojaeaogehaaGreatDoor
open Go.RowKit Go.Lib Go.Maps
set_option maxRecDepth 20000 in
set_option maxHeartbeats 8000000 in
theorem specCmdOne (g : Nat) (tv : Value) (l : List UInt8) (T : List Rf.Tk) (TE : List TkE) (t c : Nat → List Nd → Rf.Out) (hK : Tks l T TE) (hT : T.length ≤ 30000) (i : Nat) (many : Bool) (v : Value) (E : List NdE) (w : World) (h : Rs g tv TE i false many v E w) (hi : i < T.length) (hE : E.length ≤ 3 * i + 5) (n1 : Rf.is T i 119 Rf.wIf = false) (n2 : Rf.is T i 119 Rf.wRepeat = false) (n3 : Rf.is T i 119 Rf.wSet = false) (hk : Rf.kind T i = 119) (k : Int) (hw : Rf.cmdK (Rf.text T i) = k) (h0 : k ≠ 0) (h7 : ¬ 7 ≤ k) :
    Calls Tryz.prog 10 #[.pointer (some ⟨g, 0, none⟩)] w fun e w' => ∃ z A i' bad' many' v', e = .returned (.int .i64 z) ∧ RdP g tv T TE 0 (Rf.cmd T t c) i false many v E w z A i' bad' many' v' w' := by
  have hnx : i + 1 < T.length := hK.nxt i hi (by rw [hk]; decide) (by rw [hk]; decide)
  obtain ⟨R, hR⟩ : ∃ R, R = Rf.given false i (Rf.cmd T t c i (E.map (·.1))) := ⟨_, rfl⟩
  have HR := mkHid hR
  have H0 := mkHid (Rf.cmd_one T t c i (E.map (·.1)) k hk (Rf.is_ne n1 hk) (Rf.is_ne n2 hk) (Rf.is_ne n3 hk) hw h0 h7)
  have hgl := heap_ltM h.blk
  have hll := hK.length
  have hl := hK.len
  have hi2 : i < TE.length := by omega
  have HK := mkHid hK
  have HE := mkHid hE
  have kM := mkHid (jMay hK h hi 119 Rf.wIf)
  have nIf := mkHid n1
  have nRe := mkHid n2
  have nSe := mkHid n3
  clear h hK hE hR n1 n2 n3
  go_enter Tryz.func10, Tryz.ntmps10
  go_wp2_with (go_at_call 25; fail)
  refine kM.out.mono ?_
  rintro e w1 ⟨j1, y1, rfl, h1, e1, hj1, hij1, hij1b, r1, s1⟩
  obtain rfl : y1 = false := by rw [r1.out, nIf.out]; rfl
  obtain rfl : j1 = i := s1.out
  obtain ⟨B, hB⟩ : ∃ B, w1.heap.size = B := ⟨_, rfl⟩
  have S0 := mkHid (Fm.start hgl h1 e1 0)
  rw [hB] at S0
  obtain ⟨W0, hW0⟩ : ∃ W0, w1.alloc (.cells #[.int .i64 0, .int .i64 0, .int .i64 0, .string ⟨#[]⟩, .slice none 0 0, .slice none 0 0, .slice none 0 0] 37) = W0 := ⟨_, rfl⟩
  rw [show w1.alloc (.cells (sevC (Rf.zn 0) (.slice none 0 0) (.slice none 0 0) (.slice none 0 0)) 37) = W0 from hW0] at S0
  have HW0 := mkHid hW0
  have HB := mkHid hB
  clear h1 e1 kM hW0 hB r1 s1
  have kM := mkHid (jMay HK.out S0.out.rs hi 119 Rf.wRepeat)
  go_wp2_with (go_at_call 25; fail)
  rw [HW0.out, HB.out]
  refine kM.out.mono ?_
  rintro e W1 ⟨j2, y2, rfl, h2, e2, hj2, hij2, hij2b, r2, s2⟩
  have S1 := mkHid (S0.out.small h2 e2)
  clear h2 e2 kM S0 HW0 HB
  obtain rfl : y2 = false := by rw [r2.out, nRe.out]; rfl
  obtain rfl : j2 = j1 := s2.out
  clear r2 s2
  have kM := mkHid (jMay HK.out S1.out.rs hj2 119 Rf.wSet)
  go_wp2_with (go_at_call 25; fail)
  refine kM.out.mono ?_
  rintro e W2 ⟨j3, y3, rfl, h3, e3, hj3, hij3, hij3b, r3, s3⟩
  have S2 := mkHid (S1.out.small h3 e3)
  clear h3 e3 kM S1
  obtain rfl : y3 = false := by rw [r3.out, nSe.out]; rfl
  obtain rfl : j3 = j2 := s3.out
  clear r3 s3
  obtain ⟨c0, c1, c2, c3, c4⟩ := five S2.out.rs.blk
  obtain ⟨o, cap, htv⟩ := S2.out.rs.tks.shape
  have htk := S2.out.rs.tks
  rw [htv] at htk c0
  have hj4 : j3 < TE.length := by omega
  obtain ⟨q, ho, -, -, e0, e1, e2⟩ := htk.at (j3) hj4
  subst ho
  clear htk htv
  have hii : ((j3 : Nat) : Int) < (TE.length : Int) := by omega
  have hC : ∀ W : World, Calls Tryz.prog 32 #[.string TE[j3].2.1] W fun e w' => e = .returned (.int .i64 k) ∧ w' = W := fun W => (specCmdW TE[j3].2.1 W).mono fun _ _ h => ⟨by rw [h.1, HK.out.text j3 hj4, Rf.ba_list, hw], h.2.symm⟩
  have hk1 : ((TE[j3].1 : Int) != 119) = false := by rw [bne_eq_false_iff_eq, HK.out.kind j3 hj4, hk]; rfl
  have hk0 : (k == 0) = false := beq_eq_false_iff_ne.2 h0
  have hk7 : decide (7 ≤ k) = false := decide_eq_false (by omega)
  have kT := mkHid (fun (W : World) (hb : Below W2.heap.size W2 W) => specTakeY g tv TE j3 many v (E ++ []) W 119 (S2.out.rs.below hb) hj4 (by omega) (by rw [HK.out.kind j3 hj4]; exact hk))
  generalize TE[j3].1 = k1 at *
  generalize TE[j3].2.1 = t1 at *
  replace hC := mkHid hC
  clear hk hw h7 h0
  go_wp2
  go_quiet (exact Calls.quiet_of_same (hC.out _))
  go_wp2_with (go_at_call 30; fail)
  refine (kT.out _ (below_drewN (Below.refl _ _) _)).mono ?_
  rintro e W3 ⟨rfl, h3, e3⟩
  have S3 := mkHid (S2.out.small h3 (Ef.ahead (below_drewN (Below.refl _ _) _) e3))
  clear h3 e3 kT S2 c0 c1 c2 c3 c4 e0 e1 e2
  have z0 := S3.out.frz 0
  have S4 := mkHid (S3.out.pokeS 0 (.int .i64 k) (Rf.zn k) rfl rfl rfl rfl)
  obtain ⟨W4, hW4⟩ : ∃ W4, W3.setCell ⟨B, 0, none⟩ (.int .i64 k) = W4 := ⟨_, rfl⟩
  rw [hW4] at S4
  have HW4 := mkHid hW4
  clear hW4
  have hbk := S3.out.blk
  have d0 : W3.cell? ⟨B, 0, none⟩ = some (.int .i64 0) := by simp [World.cell?, hbk]; try rfl
  have d1 : W3.cell? ⟨B, 1, none⟩ = some (.int .i64 0) := by simp [World.cell?, hbk]; try rfl
  have d2 : W3.cell? ⟨B, 2, none⟩ = some (.int .i64 0) := by simp [World.cell?, hbk]; try rfl
  have d3 : W3.cell? ⟨B, 3, none⟩ = some (.string ⟨#[]⟩) := by simp [World.cell?, hbk]; try rfl
  have d4 : W3.cell? ⟨B, 4, none⟩ = some (.slice none 0 0) := by simp [World.cell?, hbk]; try rfl
  have d5 : W3.cell? ⟨B, 5, none⟩ = some (.slice none 0 0) := by simp [World.cell?, hbk]; try rfl
  have d6 : W3.cell? ⟨B, 6, none⟩ = some (.slice none 0 0) := by simp [World.cell?, hbk]; try rfl
  clear hbk
  clear S3
  have kW := mkHid (jWant HK.out S4.out.rs hnx 112 [59])
  go_wp2_with (go_at_call 32; fail)
  refine (hC.out _).mono ?_
  rintro e W3' ⟨rfl, rfl⟩
  go_wp2_with (go_at_call 31; fail)
  rw [HW4.out]
  refine kW.out.mono ?_
  rintro e W7 ⟨rfl, j7, bd7, h7, e7, hj7, hij7, hij7b, r7, s7⟩
  clear d0 d1 d2 d3 d4 d5 d6 z0
  have S7 := mkHid (S4.out.small h7 e7)
  clear h7 e7 kW S4 HW4
  have G1 : Hid ((bd7 = true → R = .bad j7) ∧ (bd7 = false → R = .ok j7 (E.map (·.1) ++ [Rf.zn k]) ∧ many = (many || false))) := by
    have r7 := r7.out
    have s7 := s7.out
    have hh := H0.out
    rw [HR.out, Rf.given, if_neg (by decide), hh]
    cases hy : Rf.is T (j3 + 1) 112 [59]
    · rw [hy] at r7
      obtain rfl : bd7 = true := r7
      simp only [if_true] at s7
      subst s7
      exact ⟨fun _ => rfl, fun e => (by cases e)⟩
    · rw [hy] at r7
      obtain rfl : bd7 = false := r7
      simp only [Bool.false_eq_true, if_false] at s7
      subst s7
      exact ⟨fun e => (by cases e), fun _ => ⟨rfl, by simp⟩⟩
  clear r7 s7
  have hbk := S7.out.blk
  have d0 : W7.cell? ⟨B, 0, none⟩ = some (.int .i64 k) := by simp [World.cell?, hbk]; try rfl
  have d1 : W7.cell? ⟨B, 1, none⟩ = some (.int .i64 0) := by simp [World.cell?, hbk]; try rfl
  have d2 : W7.cell? ⟨B, 2, none⟩ = some (.int .i64 0) := by simp [World.cell?, hbk]; try rfl
  have d3 : W7.cell? ⟨B, 3, none⟩ = some (.string ⟨#[]⟩) := by simp [World.cell?, hbk]; try rfl
  have d4 : W7.cell? ⟨B, 4, none⟩ = some (.slice none 0 0) := by simp [World.cell?, hbk]; try rfl
  have d5 : W7.cell? ⟨B, 5, none⟩ = some (.slice none 0 0) := by simp [World.cell?, hbk]; try rfl
  have d6 : W7.cell? ⟨B, 6, none⟩ = some (.slice none 0 0) := by simp [World.cell?, hbk]; try rfl
  clear hbk
  have kP := mkHid (S7.out.put (by have := HE.out; first | omega | (simp; omega)))
  clear S7
  go_wp2_with (go_at_call 11; fail)
  refine kP.out.mono ?_
  rintro e w9 ⟨rfl, v9, h9, e9, n9, f9, g9⟩
  clear d0 d1 d2 d3 d4 d5 d6 kP
  go_wp2
  go_ret
  exact ⟨_, _, j7, bd7, many, v9, rfl, RdP.mk2 R HR.out h9 e9 n9 f9 g9 hj7 (by omega) (by simp; omega) (fun e => ⟨by simp; omega, by omega⟩) G1.out.1 (fun e => ⟨by rw [(G1.out.2 e).1]; simp, by simp [Rf.last], by rw [(G1.out.2 e).2]; simp [big, Rf.zn]⟩)⟩
set_option maxRecDepth 20000 in
set_option maxHeartbeats 8000000 in
theorem specCmdTwo (g : Nat) (tv : Value) (l : List UInt8) (T : List Rf.Tk) (TE : List TkE) (t c : Nat → List Nd → Rf.Out) (hK : Tks l T TE) (hT : T.length ≤ 30000) (i : Nat) (many : Bool) (v : Value) (E : List NdE) (w : World) (h : Rs g tv TE i false many v E w) (hi : i < T.length) (hE : E.length ≤ 3 * i + 5) (n1 : Rf.is T i 119 Rf.wIf = false) (n2 : Rf.is T i 119 Rf.wRepeat = false) (n3 : Rf.is T i 119 Rf.wSet = false) (hk : Rf.kind T i = 119) (k : Int) (hw : Rf.cmdK (Rf.text T i) = k) (h0 : k ≠ 0) (h7 : 7 ≤ k) :
    Calls Tryz.prog 10 #[.pointer (some ⟨g, 0, none⟩)] w fun e w' => ∃ z A i' bad' many' v', e = .returned (.int .i64 z) ∧ RdP g tv T TE 0 (Rf.cmd T t c) i false many v E w z A i' bad' many' v' w' := by
  have hnx : i + 1 < T.length := hK.nxt i hi (by rw [hk]; decide) (by rw [hk]; decide)
  obtain ⟨R, hR⟩ : ∃ R, R = Rf.given false i (Rf.cmd T t c i (E.map (·.1))) := ⟨_, rfl⟩
  have HR := mkHid hR
  have H0 := mkHid (Rf.cmd_two T t c i (E.map (·.1)) k hk (Rf.is_ne n1 hk) (Rf.is_ne n2 hk) (Rf.is_ne n3 hk) hw h0 h7)
  have hgl := heap_ltM h.blk
  have hll := hK.length
  have hl := hK.len
  have hi2 : i < TE.length := by omega
  have HK := mkHid hK
  have HE := mkHid hE
  have kM := mkHid (jMay hK h hi 119 Rf.wIf)
  have nIf := mkHid n1
  have nRe := mkHid n2
  have nSe := mkHid n3
  clear h hK hE hR n1 n2 n3
  go_enter Tryz.func10, Tryz.ntmps10
  go_wp2_with (go_at_call 25; fail)
  refine kM.out.mono ?_
  rintro e w1 ⟨j1, y1, rfl, h1, e1, hj1, hij1, hij1b, r1, s1⟩
  obtain rfl : y1 = false := by rw [r1.out, nIf.out]; rfl
  obtain rfl : j1 = i := s1.out
  obtain ⟨B, hB⟩ : ∃ B, w1.heap.size = B := ⟨_, rfl⟩
  have S0 := mkHid (Fm.start hgl h1 e1 0)
  rw [hB] at S0
  obtain ⟨W0, hW0⟩ : ∃ W0, w1.alloc (.cells #[.int .i64 0, .int .i64 0, .int .i64 0, .string ⟨#[]⟩, .slice none 0 0, .slice none 0 0, .slice none 0 0] 37) = W0 := ⟨_, rfl⟩
  rw [show w1.alloc (.cells (sevC (Rf.zn 0) (.slice none 0 0) (.slice none 0 0) (.slice none 0 0)) 37) = W0 from hW0] at S0
  have HW0 := mkHid hW0
  have HB := mkHid hB
  clear h1 e1 kM hW0 hB r1 s1
  have kM := mkHid (jMay HK.out S0.out.rs hi 119 Rf.wRepeat)
  go_wp2_with (go_at_call 25; fail)
  rw [HW0.out, HB.out]
  refine kM.out.mono ?_
  rintro e W1 ⟨j2, y2, rfl, h2, e2, hj2, hij2, hij2b, r2, s2⟩
  have S1 := mkHid (S0.out.small h2 e2)
  clear h2 e2 kM S0 HW0 HB
  obtain rfl : y2 = false := by rw [r2.out, nRe.out]; rfl
  obtain rfl : j2 = j1 := s2.out
  clear r2 s2
  have kM := mkHid (jMay HK.out S1.out.rs hj2 119 Rf.wSet)
  go_wp2_with (go_at_call 25; fail)
  refine kM.out.mono ?_
  rintro e W2 ⟨j3, y3, rfl, h3, e3, hj3, hij3, hij3b, r3, s3⟩
  have S2 := mkHid (S1.out.small h3 e3)
  clear h3 e3 kM S1
  obtain rfl : y3 = false := by rw [r3.out, nSe.out]; rfl
  obtain rfl : j3 = j2 := s3.out
  clear r3 s3
  obtain ⟨c0, c1, c2, c3, c4⟩ := five S2.out.rs.blk
  obtain ⟨o, cap, htv⟩ := S2.out.rs.tks.shape
  have htk := S2.out.rs.tks
  rw [htv] at htk c0
  have hj4 : j3 < TE.length := by omega
  obtain ⟨q, ho, -, -, e0, e1, e2⟩ := htk.at (j3) hj4
  subst ho
  clear htk htv
  have hii : ((j3 : Nat) : Int) < (TE.length : Int) := by omega
  have hC : ∀ W : World, Calls Tryz.prog 32 #[.string TE[j3].2.1] W fun e w' => e = .returned (.int .i64 k) ∧ w' = W := fun W => (specCmdW TE[j3].2.1 W).mono fun _ _ h => ⟨by rw [h.1, HK.out.text j3 hj4, Rf.ba_list, hw], h.2.symm⟩
  have hk1 : ((TE[j3].1 : Int) != 119) = false := by rw [bne_eq_false_iff_eq, HK.out.kind j3 hj4, hk]; rfl
  have hk0 : (k == 0) = false := beq_eq_false_iff_ne.2 h0
  have hk7 : decide (7 ≤ k) = true := decide_eq_true (by omega)
  have kT := mkHid (fun (W : World) (hb : Below W2.heap.size W2 W) => specTakeY g tv TE j3 many v (E ++ []) W 119 (S2.out.rs.below hb) hj4 (by omega) (by rw [HK.out.kind j3 hj4]; exact hk))
  generalize TE[j3].1 = k1 at *
  generalize TE[j3].2.1 = t1 at *
  replace hC := mkHid hC
  clear hk hw h7 h0
  go_wp2
  go_quiet (exact Calls.quiet_of_same (hC.out _))
  go_wp2_with (go_at_call 30; fail)
  refine (kT.out _ (below_drewN (Below.refl _ _) _)).mono ?_
  rintro e W3 ⟨rfl, h3, e3⟩
  have S3 := mkHid (S2.out.small h3 (Ef.ahead (below_drewN (Below.refl _ _) _) e3))
  clear h3 e3 kT S2 c0 c1 c2 c3 c4 e0 e1 e2
  have z0 := S3.out.frz 0
  have S4 := mkHid (S3.out.pokeS 0 (.int .i64 k) (Rf.zn k) rfl rfl rfl rfl)
  obtain ⟨W4, hW4⟩ : ∃ W4, W3.setCell ⟨B, 0, none⟩ (.int .i64 k) = W4 := ⟨_, rfl⟩
  rw [hW4] at S4
  have HW4 := mkHid hW4
  clear hW4
  have hbk := S3.out.blk
  have d0 : W3.cell? ⟨B, 0, none⟩ = some (.int .i64 0) := by simp [World.cell?, hbk]; try rfl
  have d1 : W3.cell? ⟨B, 1, none⟩ = some (.int .i64 0) := by simp [World.cell?, hbk]; try rfl
  have d2 : W3.cell? ⟨B, 2, none⟩ = some (.int .i64 0) := by simp [World.cell?, hbk]; try rfl
  have d3 : W3.cell? ⟨B, 3, none⟩ = some (.string ⟨#[]⟩) := by simp [World.cell?, hbk]; try rfl
  have d4 : W3.cell? ⟨B, 4, none⟩ = some (.slice none 0 0) := by simp [World.cell?, hbk]; try rfl
  have d5 : W3.cell? ⟨B, 5, none⟩ = some (.slice none 0 0) := by simp [World.cell?, hbk]; try rfl
  have d6 : W3.cell? ⟨B, 6, none⟩ = some (.slice none 0 0) := by simp [World.cell?, hbk]; try rfl
  clear hbk
  clear S3
  have kT := mkHid (jTake HK.out S4.out.rs hnx 116)
  go_wp2_with (go_at_call 32; fail)
  refine (hC.out _).mono ?_
  rintro e W3' ⟨rfl, rfl⟩
  go_wp2_with (go_at_call 30; fail)
  rw [HW4.out]
  refine kT.out.mono ?_
  rintro e W5 ⟨j5, y5, x5, rfl, h5, e5, hj5, hij5, hij5b, r5, s5, x5e⟩
  clear d0 d1 d2 d3 d4 d5 d6 z0
  have S5 := mkHid (S4.out.small h5 e5)
  have z3 := S5.out.frz 3
  have S6 := mkHid (S5.out.pokeS 3 (.string x5) { Rf.zn k with text := x5 } rfl rfl rfl rfl)
  obtain ⟨W6, hW6⟩ : ∃ W6, W5.setCell ⟨B, 3, none⟩ (.string x5) = W6 := ⟨_, rfl⟩
  rw [hW6] at S6
  have HW6 := mkHid hW6
  clear hW6 h5 e5 kT S4 HW4
  have hbk := S5.out.blk
  have d0 : W5.cell? ⟨B, 0, none⟩ = some (.int .i64 k) := by simp [World.cell?, hbk]; try rfl
  have d1 : W5.cell? ⟨B, 1, none⟩ = some (.int .i64 0) := by simp [World.cell?, hbk]; try rfl
  have d2 : W5.cell? ⟨B, 2, none⟩ = some (.int .i64 0) := by simp [World.cell?, hbk]; try rfl
  have d3 : W5.cell? ⟨B, 3, none⟩ = some (.string ⟨#[]⟩) := by simp [World.cell?, hbk]; try rfl
  have d4 : W5.cell? ⟨B, 4, none⟩ = some (.slice none 0 0) := by simp [World.cell?, hbk]; try rfl
  have d5 : W5.cell? ⟨B, 5, none⟩ = some (.slice none 0 0) := by simp [World.cell?, hbk]; try rfl
  have d6 : W5.cell? ⟨B, 6, none⟩ = some (.slice none 0 0) := by simp [World.cell?, hbk]; try rfl
  clear hbk
  clear S5
  have kW := mkHid (jWant HK.out S6.out.rs hj5 112 [59])
  go_wp2_with (go_at_call 31; fail)
  rw [HW6.out]
  refine kW.out.mono ?_
  rintro e W7 ⟨rfl, j7, bd7, h7, e7, hj7, hij7, hij7b, r7, s7⟩
  clear d0 d1 d2 d3 d4 d5 d6 z3
  have S7 := mkHid (S6.out.small h7 e7)
  clear h7 e7 kW S6 HW6
  have G1 : Hid ((bd7 = true → R = .bad j7) ∧ (bd7 = false → R = .ok j7 (E.map (·.1) ++ [{ Rf.zn k with text := x5 }]) ∧ many = (many || false))) := by
    have r5 := r5.out
    have s5 := s5.out
    have x5e := x5e.out
    have r7 := r7.out
    have s7 := s7.out
    have hh := H0.out
    rw [HR.out, Rf.given, if_neg (by decide), hh]
    cases y5
    · simp only [Bool.false_eq_true, if_false] at s5
      subst s5
      obtain rfl : bd7 = true := by rw [r7]; rfl
      simp only [if_true] at s7
      subst s7
      rw [if_neg (Bool.eq_false_iff.1 (show (Rf.kind T (j3 + 1) == 116) = false from r5.symm))]
      exact ⟨fun _ => rfl, fun e => (by cases e)⟩
    · simp only [if_true] at s5 x5e
      subst s5
      subst x5e
      rw [if_pos (show (Rf.kind T (j3 + 1) == 116) = true from r5.symm)]
      cases hy : Rf.is T (j3 + 2) 112 [59]
      · rw [show Rf.is T (j3 + 1 + 1) 112 [59] = false from hy] at r7
        obtain rfl : bd7 = true := r7
        simp only [if_true] at s7
        subst s7
        exact ⟨fun _ => rfl, fun e => (by cases e)⟩
      · rw [show Rf.is T (j3 + 1 + 1) 112 [59] = true from hy] at r7
        obtain rfl : bd7 = false := r7
        simp only [Bool.false_eq_true, if_false] at s7
        subst s7
        exact ⟨fun e => (by cases e), fun _ => ⟨rfl, by simp⟩⟩
  clear r5 s5 x5e r7 s7
  have hbk := S7.out.blk
  have d0 : W7.cell? ⟨B, 0, none⟩ = some (.int .i64 k) := by simp [World.cell?, hbk]; try rfl
  have d1 : W7.cell? ⟨B, 1, none⟩ = some (.int .i64 0) := by simp [World.cell?, hbk]; try rfl
  have d2 : W7.cell? ⟨B, 2, none⟩ = some (.int .i64 0) := by simp [World.cell?, hbk]; try rfl
  have d3 : W7.cell? ⟨B, 3, none⟩ = some (.string x5) := by simp [World.cell?, hbk]; try rfl
  have d4 : W7.cell? ⟨B, 4, none⟩ = some (.slice none 0 0) := by simp [World.cell?, hbk]; try rfl
  have d5 : W7.cell? ⟨B, 5, none⟩ = some (.slice none 0 0) := by simp [World.cell?, hbk]; try rfl
  have d6 : W7.cell? ⟨B, 6, none⟩ = some (.slice none 0 0) := by simp [World.cell?, hbk]; try rfl
  clear hbk
  have kP := mkHid (S7.out.put (by have := HE.out; first | omega | (simp; omega)))
  clear S7
  go_wp2_with (go_at_call 11; fail)
  refine kP.out.mono ?_
  rintro e w9 ⟨rfl, v9, h9, e9, n9, f9, g9⟩
  clear d0 d1 d2 d3 d4 d5 d6 kP
  go_wp2
  go_ret
  exact ⟨_, _, j7, bd7, many, v9, rfl, RdP.mk2 R HR.out h9 e9 n9 f9 g9 hj7 (by omega) (by simp; omega) (fun e => ⟨by simp; omega, by omega⟩) G1.out.1 (fun e => ⟨by rw [(G1.out.2 e).1]; simp, by simp [Rf.last], by rw [(G1.out.2 e).2]; simp [big, Rf.zn]⟩)⟩
end Go.Proofs.YtlphojaeaogehaaGreatDoor
namespace Go.Proofs.YtlphojaeaogehaaGreatDoor
open Go.RowKit Go.Lib Go.Maps
set_option maxRecDepth 20000 in
set_option maxHeartbeats 8000000 in
theorem specCmdSet (g : Nat) (tv : Value) (l : List UInt8) (T : List Rf.Tk) (TE : List TkE) (t c : Nat → List Nd → Rf.Out) (hK : Tks l T TE) (hT : T.length ≤ 30000) (hSz : ∀ e ∈ TE, e.2.1.size ≤ 1048576) (i : Nat) (many : Bool) (v : Value) (E : List NdE) (w : World) (h : Rs g tv TE i false many v E w) (hi : i < T.length) (hE : E.length ≤ 3 * i + 5) (n1 : Rf.is T i 119 Rf.wIf = false) (n2 : Rf.is T i 119 Rf.wRepeat = false) (hy : Rf.is T i 119 Rf.wSet = true) :
    Calls Tryz.prog 10 #[.pointer (some ⟨g, 0, none⟩)] w fun e w' => ∃ z A i' bad' many' v', e = .returned (.int .i64 z) ∧ RdP g tv T TE 0 (Rf.cmd T t c) i false many v E w z A i' bad' many' v' w' := by
  have hnx : i + 1 < T.length := hK.is_nxt i hi 119 _ hy
  obtain ⟨R, hR⟩ : ∃ R, R = Rf.given false i (Rf.cmd T t c i (E.map (·.1))) := ⟨_, rfl⟩
  have HR := mkHid hR
  have H0 := mkHid (Rf.cmd_set T t c i (E.map (·.1)) hy)
  have hgl := heap_ltM h.blk
  have hll := hK.length
  have hl := hK.len
  have hi2 : i < TE.length := by omega
  have HK := mkHid hK
  have HE := mkHid hE
  have kM := mkHid (jMay hK h hi 119 Rf.wIf)
  have nIf := mkHid n1
  have nRe := mkHid n2
  have Hy := mkHid hy
  clear h hK hE hR n1 n2 hy
  go_enter Tryz.func10, Tryz.ntmps10
  go_wp2_with (go_at_call 25; fail)
  refine kM.out.mono ?_
  rintro e w1 ⟨j1, y1, rfl, h1, e1, hj1, hij1, hij1b, r1, s1⟩
  obtain rfl : y1 = false := by rw [r1.out, nIf.out]; rfl
  obtain rfl : j1 = i := s1.out
  obtain ⟨B, hB⟩ : ∃ B, w1.heap.size = B := ⟨_, rfl⟩
  have S0 := mkHid (Fm.start hgl h1 e1 0)
  rw [hB] at S0
  obtain ⟨W0, hW0⟩ : ∃ W0, w1.alloc (.cells #[.int .i64 0, .int .i64 0, .int .i64 0, .string ⟨#[]⟩, .slice none 0 0, .slice none 0 0, .slice none 0 0] 37) = W0 := ⟨_, rfl⟩
  rw [show w1.alloc (.cells (sevC (Rf.zn 0) (.slice none 0 0) (.slice none 0 0) (.slice none 0 0)) 37) = W0 from hW0] at S0
  have HW0 := mkHid hW0
  have HB := mkHid hB
  clear h1 e1 kM hW0 hB r1 s1
  have kM := mkHid (jMay HK.out S0.out.rs hi 119 Rf.wRepeat)
  go_wp2_with (go_at_call 25; fail)
  rw [HW0.out, HB.out]
  refine kM.out.mono ?_
  rintro e W1 ⟨j2, y2, rfl, h2, e2, hj2, hij2, hij2b, r2, s2⟩
  have S1 := mkHid (S0.out.small h2 e2)
  clear h2 e2 kM S0 HW0 HB
  obtain rfl : y2 = false := by rw [r2.out, nRe.out]; rfl
  obtain rfl : j2 = j1 := s2.out
  clear r2 s2
  have kM := mkHid (jMay HK.out S1.out.rs hj2 119 Rf.wSet)
  go_wp2_with (go_at_call 25; fail)
  refine kM.out.mono ?_
  rintro e W2 ⟨j3, y3, rfl, h3, e3, hj3, hij3, hij3b, r3, s3⟩
  have S2 := mkHid (S1.out.small h3 e3)
  clear h3 e3 kM S1
  obtain rfl : y3 = true := by rw [r3.out, Hy.out]; rfl
  obtain rfl : j3 = j2 + 1 := s3.out
  clear r3 s3
  have z0 := S2.out.frz 0
  have S3 := mkHid (S2.out.pokeS 0 (.int .i64 11) (Rf.zn 11) rfl rfl rfl rfl)
  obtain ⟨W3, hW3⟩ : ∃ W3, W2.setCell ⟨B, 0, none⟩ (.int .i64 11) = W3 := ⟨_, rfl⟩
  rw [hW3] at S3
  have HW3 := mkHid hW3
  clear hW3
  have hbk := S2.out.blk
  have d0 : W2.cell? ⟨B, 0, none⟩ = some (.int .i64 0) := by simp [World.cell?, hbk]; try rfl
  have d1 : W2.cell? ⟨B, 1, none⟩ = some (.int .i64 0) := by simp [World.cell?, hbk]; try rfl
  have d2 : W2.cell? ⟨B, 2, none⟩ = some (.int .i64 0) := by simp [World.cell?, hbk]; try rfl
  have d3 : W2.cell? ⟨B, 3, none⟩ = some (.string ⟨#[]⟩) := by simp [World.cell?, hbk]; try rfl
  have d4 : W2.cell? ⟨B, 4, none⟩ = some (.slice none 0 0) := by simp [World.cell?, hbk]; try rfl
  have d5 : W2.cell? ⟨B, 5, none⟩ = some (.slice none 0 0) := by simp [World.cell?, hbk]; try rfl
  have d6 : W2.cell? ⟨B, 6, none⟩ = some (.slice none 0 0) := by simp [World.cell?, hbk]; try rfl
  clear hbk
  clear S2
  obtain ⟨jj, hjj⟩ : ∃ jj, jj = j2 + 1 := ⟨_, rfl⟩
  rw [← hjj] at S3 hj3 hnx
  have hjl : jj = j2 + 1 := hjj
  have hij8 : j2 < jj := by omega
  replace hjj := mkHid hjj
  clear hjl
  obtain ⟨c0, c1, c2, c3, c4⟩ := five S3.out.rs.blk
  obtain ⟨o, cap, htv⟩ := S3.out.rs.tks.shape
  have htk := S3.out.rs.tks
  rw [htv] at htk c0
  have hj4 : jj < TE.length := by omega
  obtain ⟨q, ho, -, -, e0, e1, e2⟩ := htk.at (jj) hj4
  subst ho
  clear htk htv
  have hii : (((jj : Nat) : Int)) < (TE.length : Int) := by omega
  have hC : ∀ W : World, Calls Tryz.prog 29 #[.string TE[jj].2.1] W fun e w' => e = .returned (.bool (Rf.isName (Rf.text T jj))) ∧ w' = W := fun W => (specName TE[jj].2.1 W (hSz _ (List.getElem_mem _))).mono fun _ _ h => ⟨by rw [h.1, HK.out.text jj hj4, name_same], h.2.symm⟩
  have key : ∀ W, Below W3.heap.size W3 W → Hid (W.frozen? ⟨g, 2, none⟩ = false ∧ W.cell? ⟨g, 2, none⟩ = some (.bool false) ∧ Fm g tv TE v E w B (Rf.zn 11) (.slice none 0 0) (.slice none 0 0) (.slice none 0 0) jj true many v [] (W.setCell ⟨g, 2, none⟩ (.bool true))) := fun W hb => by
    have h1 := S3.out.rs.below hb
    exact ⟨by simp [World.frozen?, h1.blk], (five h1.blk).2.2.1, S3.out.small (h1.set 2 (.bool true) jj true many rfl) (Ef.ahead hb (Ef.set g none W 2 _))⟩
  have kT := mkHid (fun (W : World) (hb : Below W3.heap.size W3 W) (hkk : TE[jj].1 = 116) => specTakeY g tv TE jj many v (E ++ []) W 116 (S3.out.rs.below hb) hj4 (by omega) hkk)
  have hkd := HK.out.kind jj hj4
  have htx := HK.out.text jj hj4
  generalize TE[jj].1 = k1 at *
  generalize TE[jj].2.1 = t1 at *
  replace hC := mkHid hC
  replace key := mkHid key
  replace htx := mkHid htx
  go_wp2
  rw [HW3.out]
  clear d0 d1 d2 d3 d4 d5 d6 z0 HW3
  by_cases hk : k1 = 116
  · have hk1 : ((k1 : Int) == 116) = true := by rw [hk]; rfl
    have hkr : Hid (Rf.kind T jj = 116) := show _ = _ from by rw [← hkd]; exact hk
    replace kT := mkHid (fun (W : World) (hb : Below W3.heap.size W3 W) => kT.out W hb hk)
    clear hkd hk
    cases hN : Rf.isName (Rf.text T jj)
    · rw [hN] at hC
      go_quiet (exact Calls.quiet_of_same (hC.out _))
      obtain ⟨z1, z0, K2⟩ := key.out (W3.drewN nq) (below_drewN (Below.refl _ _) _)
      obtain ⟨W5, hW5⟩ : ∃ W5, (W3.drewN nq).setCell ⟨g, 2, none⟩ (.bool true) = W5 := ⟨_, rfl⟩
      rw [hW5] at K2
      have S5 := mkHid K2
      have HW5 := mkHid hW5
      have hj5 : jj < T.length := hj3
      clear hW5 K2 kT key S3 c0 c1 c3 c4 e0 e1 e2
      obtain ⟨V6, hV6⟩ : ∃ V6, W5.alloc (.cells #[.string (⟨#[]⟩ : ByteArray)] 9) = V6 := ⟨_, rfl⟩
      have bV : Below W5.heap.size W5 V6 := by rw [← hV6]; exact (Below.refl _ _).alloc (Nat.le_refl _) _
      have hO : OwnX W5.heap.size (.slice (some ⟨W5.heap.size, 0, none⟩) 1 1) [(⟨#[]⟩ : ByteArray)] V6 := by rw [← hV6]; exact ⟨rfl, .inr ⟨W5.heap.size, 1, _, rfl, Nat.le_refl _, heap_alloc_at _ _, Nat.le_refl _, by unfold maxLen; omega, rfl, rfl⟩⟩
      have S5v := mkHid (S5.out.small (S5.out.rs.below bV) (Ef.of_below bV))
      have S6 := mkHid (S5.out.setNames (S5.out.rs.below bV) (Ef.of_below bV) hO)
      have z4 := S5v.out.frz 4
      obtain ⟨W6, hW6⟩ : ∃ W6, V6.setCell ⟨B, 4, none⟩ (.slice (some ⟨W5.heap.size, 0, none⟩) 1 1) = W6 := ⟨_, rfl⟩
      rw [hW6] at S6
      have HW6 := mkHid hW6
      have HV6 := mkHid hV6
      clear bV hO hW6
      have hbk := S5v.out.blk
      have d0 : V6.cell? ⟨B, 0, none⟩ = some (.int .i64 11) := by simp [World.cell?, hbk]; try rfl
      have d1 : V6.cell? ⟨B, 1, none⟩ = some (.int .i64 0) := by simp [World.cell?, hbk]; try rfl
      have d2 : V6.cell? ⟨B, 2, none⟩ = some (.int .i64 0) := by simp [World.cell?, hbk]; try rfl
      have d3 : V6.cell? ⟨B, 3, none⟩ = some (.string ⟨#[]⟩) := by simp [World.cell?, hbk]; try rfl
      have d4 : V6.cell? ⟨B, 4, none⟩ = some (.slice none 0 0) := by simp [World.cell?, hbk]; try rfl
      have d5 : V6.cell? ⟨B, 5, none⟩ = some (.slice none 0 0) := by simp [World.cell?, hbk]; try rfl
      have d6 : V6.cell? ⟨B, 6, none⟩ = some (.slice none 0 0) := by simp [World.cell?, hbk]; try rfl
      clear hbk
      rw [← HV6.out] at d0 d1 d2 d3 d4 d5 d6 z4
      clear S5v S5 hV6
      have kT := mkHid (jTake HK.out S6.out.rs hj5 116)
      rw [← HW5.out] at d0 d1 d2 d3 d4 d5 d6 z4
      go_wp2_with (go_at_call 30; fail)
      rw [HW5.out, show W3.heap.size = W5.heap.size from by rw [← HW5.out]; simp]
      first | rw [HV6.out, HW6.out] | (rw [← HV6.out] at HW6; rw [HW6.out])
      refine kT.out.mono ?_
      rintro e W7 ⟨j7, y7, x7, rfl, h7, e7, hj7, hij7, hij7b, r7, s7, x7e⟩
      clear d0 d1 d2 d3 d4 d5 d6 z4
      have S7 := mkHid (S6.out.small h7 e7)
      have z3 := S7.out.frz 3
      have S8 := mkHid (S7.out.pokeS 3 (.string x7) { Rf.zn 11 with names := [(⟨#[]⟩ : ByteArray)], text := x7 } rfl rfl rfl rfl)
      obtain ⟨W8, hW8⟩ : ∃ W8, W7.setCell ⟨B, 3, none⟩ (.string x7) = W8 := ⟨_, rfl⟩
      rw [hW8] at S8
      have HW8 := mkHid hW8
      clear hW8 h7 e7 kT S6
      have hbk := S7.out.blk
      have d0 : W7.cell? ⟨B, 0, none⟩ = some (.int .i64 11) := by simp [World.cell?, hbk]; try rfl
      have d1 : W7.cell? ⟨B, 1, none⟩ = some (.int .i64 0) := by simp [World.cell?, hbk]; try rfl
      have d2 : W7.cell? ⟨B, 2, none⟩ = some (.int .i64 0) := by simp [World.cell?, hbk]; try rfl
      have d3 : W7.cell? ⟨B, 3, none⟩ = some (.string ⟨#[]⟩) := by simp [World.cell?, hbk]; try rfl
      have d4 : W7.cell? ⟨B, 4, none⟩ = some (.slice (some ⟨W5.heap.size, 0, none⟩) 1 1) := by simp [World.cell?, hbk]; try rfl
      have d5 : W7.cell? ⟨B, 5, none⟩ = some (.slice none 0 0) := by simp [World.cell?, hbk]; try rfl
      have d6 : W7.cell? ⟨B, 6, none⟩ = some (.slice none 0 0) := by simp [World.cell?, hbk]; try rfl
      clear hbk
      clear S7
      have kW := mkHid (jWant HK.out S8.out.rs hj7 112 [59])
      go_wp2_with (go_at_call 31; fail)
      rw [HW8.out]
      refine kW.out.mono ?_
      rintro e W9 ⟨rfl, j9, bd9, h9, e9, hj9, hij9, hij9b, r9, s9⟩
      clear d0 d1 d2 d3 d4 d5 d6 z3
      have S9 := mkHid (S8.out.small h9 e9)
      clear h9 e9 kW S8 HW8
      have G1 : Hid ((bd9 = true → R = .bad j9) ∧ (bd9 = false → R = .ok j9 (E.map (·.1) ++ [{ Rf.zn 11 with names := [(⟨#[]⟩ : ByteArray)], text := x7 }]) ∧ many = (many || false))) := by
        have r7 := r7.out
        have s7 := s7.out
        have r9 := r9.out
        have s9 := s9.out
        have hh := H0.out
        rw [HR.out, Rf.given, if_neg (by decide), hh, ← hjj.out, if_neg (by rw [hN]; simp)]
        obtain rfl : y7 = false := r7
        simp only [Bool.false_eq_true, if_false] at s7
        subst s7
        obtain rfl : bd9 = true := r9
        simp only [if_true] at s9
        subst s9
        exact ⟨fun _ => rfl, fun e => (by cases e)⟩
      clear r7 s7 x7e r9 s9
      have hbk := S9.out.blk
      have d0 : W9.cell? ⟨B, 0, none⟩ = some (.int .i64 11) := by simp [World.cell?, hbk]; try rfl
      have d1 : W9.cell? ⟨B, 1, none⟩ = some (.int .i64 0) := by simp [World.cell?, hbk]; try rfl
      have d2 : W9.cell? ⟨B, 2, none⟩ = some (.int .i64 0) := by simp [World.cell?, hbk]; try rfl
      have d3 : W9.cell? ⟨B, 3, none⟩ = some (.string x7) := by simp [World.cell?, hbk]; try rfl
      have d4 : W9.cell? ⟨B, 4, none⟩ = some (.slice (some ⟨W5.heap.size, 0, none⟩) 1 1) := by simp [World.cell?, hbk]; try rfl
      have d5 : W9.cell? ⟨B, 5, none⟩ = some (.slice none 0 0) := by simp [World.cell?, hbk]; try rfl
      have d6 : W9.cell? ⟨B, 6, none⟩ = some (.slice none 0 0) := by simp [World.cell?, hbk]; try rfl
      clear hbk
      have kP := mkHid (S9.out.put (by have := HE.out; first | omega | (simp; omega)))
      clear S9
      go_wp2_with (go_at_call 11; fail)
      refine kP.out.mono ?_
      rintro e w9 ⟨rfl, v9, h9, e9, n9, f9, g9⟩
      clear d0 d1 d2 d3 d4 d5 d6 kP
      go_wp2
      go_ret
      exact ⟨_, _, j9, bd9, many, v9, rfl, RdP.mk2 R HR.out h9 e9 n9 f9 g9 hj9 (by omega) (by simp; omega) (fun e => ⟨by simp; omega, by omega⟩) G1.out.1 (fun e => ⟨by rw [(G1.out.2 e).1]; simp, by simp [Rf.last], by rw [(G1.out.2 e).2]; simp [big, Rf.zn]⟩)⟩
    · rw [hN] at hC
      go_quiet (exact Calls.quiet_of_same (hC.out _))
      go_wp2_with (go_at_call 30; fail)
      refine (kT.out _ (below_drewN (Below.refl _ _) _)).mono ?_
      rintro e W5 ⟨rfl, h5, e5⟩
      have S5 := mkHid (S3.out.small h5 (Ef.ahead (below_drewN (Below.refl _ _) _) e5))
      have hj5 : jj + 1 < T.length := HK.out.nxt jj hj3 (by rw [hkr.out]; decide) (by rw [hkr.out]; decide)
      clear h5 e5 kT key S3 c0 c1 c2 c3 c4 e0 e1 e2
      obtain ⟨V6, hV6⟩ : ∃ V6, W5.alloc (.cells #[.string t1] 9) = V6 := ⟨_, rfl⟩
      have bV : Below W5.heap.size W5 V6 := by rw [← hV6]; exact (Below.refl _ _).alloc (Nat.le_refl _) _
      have hO : OwnX W5.heap.size (.slice (some ⟨W5.heap.size, 0, none⟩) 1 1) [t1] V6 := by rw [← hV6]; exact ⟨rfl, .inr ⟨W5.heap.size, 1, _, rfl, Nat.le_refl _, heap_alloc_at _ _, Nat.le_refl _, by unfold maxLen; omega, rfl, rfl⟩⟩
      have S5v := mkHid (S5.out.small (S5.out.rs.below bV) (Ef.of_below bV))
      have S6 := mkHid (S5.out.setNames (S5.out.rs.below bV) (Ef.of_below bV) hO)
      have z4 := S5v.out.frz 4
      obtain ⟨W6, hW6⟩ : ∃ W6, V6.setCell ⟨B, 4, none⟩ (.slice (some ⟨W5.heap.size, 0, none⟩) 1 1) = W6 := ⟨_, rfl⟩
      rw [hW6] at S6
      have HW6 := mkHid hW6
      have HV6 := mkHid hV6
      clear bV hO hW6
      have hbk := S5v.out.blk
      have d0 : V6.cell? ⟨B, 0, none⟩ = some (.int .i64 11) := by simp [World.cell?, hbk]; try rfl
      have d1 : V6.cell? ⟨B, 1, none⟩ = some (.int .i64 0) := by simp [World.cell?, hbk]; try rfl
      have d2 : V6.cell? ⟨B, 2, none⟩ = some (.int .i64 0) := by simp [World.cell?, hbk]; try rfl
      have d3 : V6.cell? ⟨B, 3, none⟩ = some (.string ⟨#[]⟩) := by simp [World.cell?, hbk]; try rfl
      have d4 : V6.cell? ⟨B, 4, none⟩ = some (.slice none 0 0) := by simp [World.cell?, hbk]; try rfl
      have d5 : V6.cell? ⟨B, 5, none⟩ = some (.slice none 0 0) := by simp [World.cell?, hbk]; try rfl
      have d6 : V6.cell? ⟨B, 6, none⟩ = some (.slice none 0 0) := by simp [World.cell?, hbk]; try rfl
      clear hbk
      rw [← HV6.out] at d0 d1 d2 d3 d4 d5 d6 z4
      clear S5v S5 hV6
      have kT := mkHid (jTake HK.out S6.out.rs hj5 116)
      go_wp2_with (go_at_call 30; fail)
      first | rw [HV6.out, HW6.out] | (rw [← HV6.out] at HW6; rw [HW6.out])
      refine kT.out.mono ?_
      rintro e W7 ⟨j7, y7, x7, rfl, h7, e7, hj7, hij7, hij7b, r7, s7, x7e⟩
      clear d0 d1 d2 d3 d4 d5 d6 z4
      have S7 := mkHid (S6.out.small h7 e7)
      have z3 := S7.out.frz 3
      have S8 := mkHid (S7.out.pokeS 3 (.string x7) { Rf.zn 11 with names := [t1], text := x7 } rfl rfl rfl rfl)
      obtain ⟨W8, hW8⟩ : ∃ W8, W7.setCell ⟨B, 3, none⟩ (.string x7) = W8 := ⟨_, rfl⟩
      rw [hW8] at S8
      have HW8 := mkHid hW8
      clear hW8 h7 e7 kT S6
      have hbk := S7.out.blk
      have d0 : W7.cell? ⟨B, 0, none⟩ = some (.int .i64 11) := by simp [World.cell?, hbk]; try rfl
      have d1 : W7.cell? ⟨B, 1, none⟩ = some (.int .i64 0) := by simp [World.cell?, hbk]; try rfl
      have d2 : W7.cell? ⟨B, 2, none⟩ = some (.int .i64 0) := by simp [World.cell?, hbk]; try rfl
      have d3 : W7.cell? ⟨B, 3, none⟩ = some (.string ⟨#[]⟩) := by simp [World.cell?, hbk]; try rfl
      have d4 : W7.cell? ⟨B, 4, none⟩ = some (.slice (some ⟨W5.heap.size, 0, none⟩) 1 1) := by simp [World.cell?, hbk]; try rfl
      have d5 : W7.cell? ⟨B, 5, none⟩ = some (.slice none 0 0) := by simp [World.cell?, hbk]; try rfl
      have d6 : W7.cell? ⟨B, 6, none⟩ = some (.slice none 0 0) := by simp [World.cell?, hbk]; try rfl
      clear hbk
      clear S7
      have kW := mkHid (jWant HK.out S8.out.rs hj7 112 [59])
      go_wp2_with (go_at_call 31; fail)
      rw [HW8.out]
      refine kW.out.mono ?_
      rintro e W9 ⟨rfl, j9, bd9, h9, e9, hj9, hij9, hij9b, r9, s9⟩
      clear d0 d1 d2 d3 d4 d5 d6 z3
      have S9 := mkHid (S8.out.small h9 e9)
      clear h9 e9 kW S8 HW8
      have G1 : Hid ((bd9 = true → R = .bad j9) ∧ (bd9 = false → R = .ok j9 (E.map (·.1) ++ [{ Rf.zn 11 with names := [t1], text := x7 }]) ∧ many = (many || false))) := by
        have r7 := r7.out
        have s7 := s7.out
        have x7e := x7e.out
        have r9 := r9.out
        have s9 := s9.out
        have hh := H0.out
        rw [HR.out, Rf.given, if_neg (by decide), hh, ← hjj.out, if_pos (by rw [hN, hkr.out]; rfl)]
        obtain rfl : jj = j2 + 1 := hjj.out
        cases y7
        · simp only [Bool.false_eq_true, if_false] at s7
          subst s7
          obtain rfl : bd9 = true := r9
          simp only [if_true] at s9
          subst s9
          rw [if_neg (Bool.eq_false_iff.1 (show (Rf.kind T (j2 + 2) == 116) = false from r7.symm))]
          exact ⟨fun _ => rfl, fun e => (by cases e)⟩
        · simp only [if_true] at s7 x7e
          subst s7
          subst x7e
          rw [if_pos (show (Rf.kind T (j2 + 2) == 116) = true from r7.symm)]
          cases hy : Rf.is T (j2 + 3) 112 [59]
          · rw [show Rf.is T (j2 + 1 + 1 + 1) 112 [59] = false from hy] at r9
            obtain rfl : bd9 = true := r9
            simp only [if_true] at s9
            subst s9
            exact ⟨fun _ => rfl, fun e => (by cases e)⟩
          · rw [show Rf.is T (j2 + 1 + 1 + 1) 112 [59] = true from hy] at r9
            obtain rfl : bd9 = false := r9
            simp only [Bool.false_eq_true, if_false] at s9
            subst s9
            refine ⟨fun e => (by cases e), fun _ => ⟨?_, by simp⟩⟩
            rw [htx.out]
            rfl
      clear r7 s7 x7e r9 s9
      have hbk := S9.out.blk
      have d0 : W9.cell? ⟨B, 0, none⟩ = some (.int .i64 11) := by simp [World.cell?, hbk]; try rfl
      have d1 : W9.cell? ⟨B, 1, none⟩ = some (.int .i64 0) := by simp [World.cell?, hbk]; try rfl
      have d2 : W9.cell? ⟨B, 2, none⟩ = some (.int .i64 0) := by simp [World.cell?, hbk]; try rfl
      have d3 : W9.cell? ⟨B, 3, none⟩ = some (.string x7) := by simp [World.cell?, hbk]; try rfl
      have d4 : W9.cell? ⟨B, 4, none⟩ = some (.slice (some ⟨W5.heap.size, 0, none⟩) 1 1) := by simp [World.cell?, hbk]; try rfl
      have d5 : W9.cell? ⟨B, 5, none⟩ = some (.slice none 0 0) := by simp [World.cell?, hbk]; try rfl
      have d6 : W9.cell? ⟨B, 6, none⟩ = some (.slice none 0 0) := by simp [World.cell?, hbk]; try rfl
      clear hbk
      have kP := mkHid (S9.out.put (by have := HE.out; first | omega | (simp; omega)))
      clear S9
      go_wp2_with (go_at_call 11; fail)
      refine kP.out.mono ?_
      rintro e w9 ⟨rfl, v9, h9, e9, n9, f9, g9⟩
      clear d0 d1 d2 d3 d4 d5 d6 kP
      go_wp2
      go_ret
      exact ⟨_, _, j9, bd9, many, v9, rfl, RdP.mk2 R HR.out h9 e9 n9 f9 g9 hj9 (by omega) (by simp; omega) (fun e => ⟨by simp; omega, by omega⟩) G1.out.1 (fun e => ⟨by rw [(G1.out.2 e).1]; simp, by simp [Rf.last], by rw [(G1.out.2 e).2]; simp [big, Rf.zn]⟩)⟩
  · have hk1 : ((k1 : Int) == 116) = false := by rw [beq_eq_false_iff_ne]; intro e; exact hk (by omega)
    have hkr : Hid (Rf.kind T jj ≠ 116) := fun e => hk (by rw [hkd]; exact e)
    clear hkd hk hC kT
    go_quiet (fail)
    obtain ⟨z1, z0, K2⟩ := key.out (W3.drewN nq) (below_drewN (Below.refl _ _) _)
    obtain ⟨W5, hW5⟩ : ∃ W5, (W3.drewN nq).setCell ⟨g, 2, none⟩ (.bool true) = W5 := ⟨_, rfl⟩
    rw [hW5] at K2
    have S5 := mkHid K2
    have HW5 := mkHid hW5
    have hj5 : jj < T.length := hj3
    clear hW5 K2 key S3 c0 c1 c3 c4 e0 e1 e2
    obtain ⟨V6, hV6⟩ : ∃ V6, W5.alloc (.cells #[.string (⟨#[]⟩ : ByteArray)] 9) = V6 := ⟨_, rfl⟩
    have bV : Below W5.heap.size W5 V6 := by rw [← hV6]; exact (Below.refl _ _).alloc (Nat.le_refl _) _
    have hO : OwnX W5.heap.size (.slice (some ⟨W5.heap.size, 0, none⟩) 1 1) [(⟨#[]⟩ : ByteArray)] V6 := by rw [← hV6]; exact ⟨rfl, .inr ⟨W5.heap.size, 1, _, rfl, Nat.le_refl _, heap_alloc_at _ _, Nat.le_refl _, by unfold maxLen; omega, rfl, rfl⟩⟩
    have S5v := mkHid (S5.out.small (S5.out.rs.below bV) (Ef.of_below bV))
    have S6 := mkHid (S5.out.setNames (S5.out.rs.below bV) (Ef.of_below bV) hO)
    have z4 := S5v.out.frz 4
    obtain ⟨W6, hW6⟩ : ∃ W6, V6.setCell ⟨B, 4, none⟩ (.slice (some ⟨W5.heap.size, 0, none⟩) 1 1) = W6 := ⟨_, rfl⟩
    rw [hW6] at S6
    have HW6 := mkHid hW6
    have HV6 := mkHid hV6
    clear bV hO hW6
    have hbk := S5v.out.blk
    have d0 : V6.cell? ⟨B, 0, none⟩ = some (.int .i64 11) := by simp [World.cell?, hbk]; try rfl
    have d1 : V6.cell? ⟨B, 1, none⟩ = some (.int .i64 0) := by simp [World.cell?, hbk]; try rfl
    have d2 : V6.cell? ⟨B, 2, none⟩ = some (.int .i64 0) := by simp [World.cell?, hbk]; try rfl
    have d3 : V6.cell? ⟨B, 3, none⟩ = some (.string ⟨#[]⟩) := by simp [World.cell?, hbk]; try rfl
    have d4 : V6.cell? ⟨B, 4, none⟩ = some (.slice none 0 0) := by simp [World.cell?, hbk]; try rfl
    have d5 : V6.cell? ⟨B, 5, none⟩ = some (.slice none 0 0) := by simp [World.cell?, hbk]; try rfl
    have d6 : V6.cell? ⟨B, 6, none⟩ = some (.slice none 0 0) := by simp [World.cell?, hbk]; try rfl
    clear hbk
    rw [← HV6.out] at d0 d1 d2 d3 d4 d5 d6 z4
    clear S5v S5 hV6
    have kT := mkHid (jTake HK.out S6.out.rs hj5 116)
    rw [← HW5.out] at d0 d1 d2 d3 d4 d5 d6 z4
    go_wp2_with (go_at_call 30; fail)
    rw [HW5.out, show W3.heap.size = W5.heap.size from by rw [← HW5.out]; simp]
    first | rw [HV6.out, HW6.out] | (rw [← HV6.out] at HW6; rw [HW6.out])
    refine kT.out.mono ?_
    rintro e W7 ⟨j7, y7, x7, rfl, h7, e7, hj7, hij7, hij7b, r7, s7, x7e⟩
    clear d0 d1 d2 d3 d4 d5 d6 z4
    have S7 := mkHid (S6.out.small h7 e7)
    have z3 := S7.out.frz 3
    have S8 := mkHid (S7.out.pokeS 3 (.string x7) { Rf.zn 11 with names := [(⟨#[]⟩ : ByteArray)], text := x7 } rfl rfl rfl rfl)
    obtain ⟨W8, hW8⟩ : ∃ W8, W7.setCell ⟨B, 3, none⟩ (.string x7) = W8 := ⟨_, rfl⟩
    rw [hW8] at S8
    have HW8 := mkHid hW8
    clear hW8 h7 e7 kT S6
    have hbk := S7.out.blk
    have d0 : W7.cell? ⟨B, 0, none⟩ = some (.int .i64 11) := by simp [World.cell?, hbk]; try rfl
    have d1 : W7.cell? ⟨B, 1, none⟩ = some (.int .i64 0) := by simp [World.cell?, hbk]; try rfl
    have d2 : W7.cell? ⟨B, 2, none⟩ = some (.int .i64 0) := by simp [World.cell?, hbk]; try rfl
    have d3 : W7.cell? ⟨B, 3, none⟩ = some (.string ⟨#[]⟩) := by simp [World.cell?, hbk]; try rfl
    have d4 : W7.cell? ⟨B, 4, none⟩ = some (.slice (some ⟨W5.heap.size, 0, none⟩) 1 1) := by simp [World.cell?, hbk]; try rfl
    have d5 : W7.cell? ⟨B, 5, none⟩ = some (.slice none 0 0) := by simp [World.cell?, hbk]; try rfl
    have d6 : W7.cell? ⟨B, 6, none⟩ = some (.slice none 0 0) := by simp [World.cell?, hbk]; try rfl
    clear hbk
    clear S7
    have kW := mkHid (jWant HK.out S8.out.rs hj7 112 [59])
    go_wp2_with (go_at_call 31; fail)
    rw [HW8.out]
    refine kW.out.mono ?_
    rintro e W9 ⟨rfl, j9, bd9, h9, e9, hj9, hij9, hij9b, r9, s9⟩
    clear d0 d1 d2 d3 d4 d5 d6 z3
    have S9 := mkHid (S8.out.small h9 e9)
    clear h9 e9 kW S8 HW8
    have G1 : Hid ((bd9 = true → R = .bad j9) ∧ (bd9 = false → R = .ok j9 (E.map (·.1) ++ [{ Rf.zn 11 with names := [(⟨#[]⟩ : ByteArray)], text := x7 }]) ∧ many = (many || false))) := by
      have r7 := r7.out
      have s7 := s7.out
      have r9 := r9.out
      have s9 := s9.out
      have hh := H0.out
      rw [HR.out, Rf.given, if_neg (by decide), hh, ← hjj.out, if_neg (by rw [Bool.and_eq_true, beq_iff_eq]; exact fun e => hkr.out e.1)]
      obtain rfl : y7 = false := r7
      simp only [Bool.false_eq_true, if_false] at s7
      subst s7
      obtain rfl : bd9 = true := r9
      simp only [if_true] at s9
      subst s9
      exact ⟨fun _ => rfl, fun e => (by cases e)⟩
    clear r7 s7 x7e r9 s9
    have hbk := S9.out.blk
    have d0 : W9.cell? ⟨B, 0, none⟩ = some (.int .i64 11) := by simp [World.cell?, hbk]; try rfl
    have d1 : W9.cell? ⟨B, 1, none⟩ = some (.int .i64 0) := by simp [World.cell?, hbk]; try rfl
    have d2 : W9.cell? ⟨B, 2, none⟩ = some (.int .i64 0) := by simp [World.cell?, hbk]; try rfl
    have d3 : W9.cell? ⟨B, 3, none⟩ = some (.string x7) := by simp [World.cell?, hbk]; try rfl
    have d4 : W9.cell? ⟨B, 4, none⟩ = some (.slice (some ⟨W5.heap.size, 0, none⟩) 1 1) := by simp [World.cell?, hbk]; try rfl
    have d5 : W9.cell? ⟨B, 5, none⟩ = some (.slice none 0 0) := by simp [World.cell?, hbk]; try rfl
    have d6 : W9.cell? ⟨B, 6, none⟩ = some (.slice none 0 0) := by simp [World.cell?, hbk]; try rfl
    clear hbk
    have kP := mkHid (S9.out.put (by have := HE.out; first | omega | (simp; omega)))
    clear S9
    go_wp2_with (go_at_call 11; fail)
    refine kP.out.mono ?_
    rintro e w9 ⟨rfl, v9, h9, e9, n9, f9, g9⟩
    clear d0 d1 d2 d3 d4 d5 d6 kP
    go_wp2
    go_ret
    exact ⟨_, _, j9, bd9, many, v9, rfl, RdP.mk2 R HR.out h9 e9 n9 f9 g9 hj9 (by omega) (by simp; omega) (fun e => ⟨by simp; omega, by omega⟩) G1.out.1 (fun e => ⟨by rw [(G1.out.2 e).1]; simp, by simp [Rf.last], by rw [(G1.out.2 e).2]; simp [big, Rf.zn]⟩)⟩
end Go.Proofs.YtlphojaeaogehaaGreatDoor
