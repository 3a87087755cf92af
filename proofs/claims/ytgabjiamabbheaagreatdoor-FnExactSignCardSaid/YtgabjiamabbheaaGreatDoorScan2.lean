
/- The walks of the program's scanner: line ends, folds, a byte of a line. -/
import Derived.Test.YtgabjiamabbheaaGreatDoorScan
namespace Go.Proofs.YtgabjiamabbheaaGreatDoor
open Go.RowKit Go.Lib
set_option maxRecDepth 20000 in
theorem implLineEndAt' (s : ByteArray) (a : Nat) (w : World) (hs : s.size ≤ 100000) (ha : a ≤ s.size) :
    Calls Tryz.prog 100 #[.string s, .int .i64 a] w fun e w' => e = .returned (.bool (Pl.crlf s.data.toList a)) ∧ Below w.heap.size w w' :=
  (implLineEndAt s a w (by omega) ha).mono fun e w' ⟨he, hw⟩ => ⟨he, by rw [← hw]; exact Below.refl _ _⟩
set_option maxRecDepth 20000 in
theorem implFoldAt' (s : ByteArray) (a : Nat) (w : World) (hs : s.size ≤ 100000) (ha : a ≤ s.size) :
    Calls Tryz.prog 127 #[.string s, .int .i64 a] w fun e w' => e = .returned (.bool (Pl.fold s.data.toList a)) ∧ Below w.heap.size w w' :=
  (implFoldAt s a w (by omega) ha).mono fun e w' ⟨he, hw⟩ => ⟨he, by rw [← hw]; exact Below.refl _ _⟩
set_option maxRecDepth 20000 in
set_option maxHeartbeats 1000000 in
theorem scLineEndNo (g : Nat) (s : ByteArray) (a b : Nat) (w : World) (hs : s.size ≤ 100000) (ha : a ≤ s.size) (h : Sc w g s a b) (hc : Pl.crlf s.data.toList a = false) :
    Calls Tryz.prog 76 #[scp g] w fun e w' => e = .returned (.bool false) ∧ Below w.heap.size w w' := by
  have k0 := cell_regrown h.c0
  have k1 := cell_regrown h.c1
  have cL : ∀ d os, Calls Tryz.prog 100 #[.string s, .int .i64 a] (Go.Sort.grow (redrawn w d) os) fun e w'' => e = .returned (.bool false) ∧ ∃ p : Regrown, w'' = Go.Sort.grow (redrawn w p.d) p.os := fun d os => Calls.regrown_of (by rw [← hc]; exact implLineEndAt' s a _ hs ha)
  clear h hc
  go_enter Tryz.func76, Tryz.ntmps76
  go_wp2
  refine wp_region_quiet_below (by kernel_rfl) (by kernel_rfl) ?_
  iterate 8 (quiet_step (fail))
  quiet_step (exact cL _ _)
  quiet_step (fail)
  refine wpQuiet_nil ?_
  intro _ hw'
  obtain ⟨⟨dq, osq⟩, hw''⟩ := hw'
  subst hw''
  go_wp2
  go_ret
  exact ⟨rfl, below_regrown _ _ _⟩
set_option maxRecDepth 20000 in
set_option maxHeartbeats 1000000 in
theorem scLineEndYes (g : Nat) (s : ByteArray) (a b : Nat) (w : World) (hs : s.size ≤ 100000) (ha : a ≤ s.size) (h : Sc w g s a b) (hc : Pl.crlf s.data.toList a = true) :
    Calls Tryz.prog 76 #[scp g] w fun e w' => e = .returned (.bool true) ∧ Sc w' g s (a + 2) b ∧ w.grownBy w' (some g) := by
  have k0 := cell_regrown h.c0
  have k1 := cell_regrown h.c1
  have cL : ∀ d os, Calls Tryz.prog 100 #[.string s, .int .i64 a] (Go.Sort.grow (redrawn w d) os) fun e w'' => e = .returned (.bool true) ∧ ∃ p : Regrown, w'' = Go.Sort.grow (redrawn w p.d) p.os := fun d os => Calls.regrown_of (by rw [← hc]; exact implLineEndAt' s a _ hs ha)
  have Hsc := (show Hid _ from h)
  clear h hc
  go_enter Tryz.func76, Tryz.ntmps76
  go_wp2
  refine wp_region_quiet_below (by kernel_rfl) (by kernel_rfl) ?_
  iterate 8 (quiet_step (fail))
  quiet_step (exact cL _ _)
  quiet_step (fail)
  refine wpQuiet_nil ?_
  intro _ hw'
  obtain ⟨⟨dq, osq⟩, hw''⟩ := hw'
  subst hw''
  have hbq := below_regrown w dq osq
  have Hs2 := (show Hid _ from Hsc.out.below hbq)
  have Hg2 := (show Hid _ from grown_below (r := some g) hbq)
  generalize Go.Sort.grow (redrawn w dq) osq = wq at *
  clear k0 k1 cL hbq
  have c1 := Hs2.out.c1
  have f1 := Hs2.out.f1
  go_wp2
  go_ret
  exact ⟨rfl, Hs2.out.set1 _ _ (by omega), grown_trans Hg2.out (grown_set _ _ _ _)⟩
set_option maxRecDepth 20000 in
set_option maxHeartbeats 1000000 in
theorem scFoldNo (g : Nat) (s : ByteArray) (a b : Nat) (w : World) (hs : s.size ≤ 100000) (ha : a ≤ s.size) (h : Sc w g s a b) (hc : Pl.fold s.data.toList a = false) :
    Calls Tryz.prog 107 #[scp g] w fun e w' => e = .returned (.bool false) ∧ Below w.heap.size w w' := by
  have k0 := cell_regrown h.c0
  have k1 := cell_regrown h.c1
  obtain ⟨bF, hbF⟩ : ∃ bF, Pl.fold s.data.toList a = bF := ⟨_, rfl⟩
  have Hb : Hid (bF = false) := show _ = _ from by rw [← hbF]; exact hc
  have cL : ∀ d os, Calls Tryz.prog 127 #[.string s, .int .i64 a] (Go.Sort.grow (redrawn w d) os) fun e w'' => e = .returned (.bool bF) ∧ ∃ p : Regrown, w'' = Go.Sort.grow (redrawn w p.d) p.os := fun d os => Calls.regrown_of (by rw [← hbF]; exact implFoldAt' s a _ hs ha)
  clear h hc hbF
  go_enter Tryz.func107, Tryz.ntmps107
  go_wp2
  refine wp_region_quiet_below (by kernel_rfl) (by kernel_rfl) ?_
  iterate 8 (quiet_step (fail))
  quiet_step (exact cL _ _)
  quiet_step (fail)
  iterate 2 (refine BigFrame.wpQuiet_skip (by obtain rfl : bF = false := Hb.out; rfl) ?_; go_simp)
  obtain rfl : bF = false := Hb.out
  repeat (quiet_step (fail))
  refine wpQuiet_nil ?_
  rintro ⟨dq, osq⟩
  simp only
  go_wp2
  go_ret
  exact ⟨rfl, below_regrown _ _ _⟩
set_option maxRecDepth 20000 in
set_option maxHeartbeats 1000000 in
theorem scFoldYes (g : Nat) (s : ByteArray) (a b : Nat) (w : World) (hs : s.size ≤ 100000) (ha : a ≤ s.size) (h : Sc w g s a b) (hc : Pl.fold s.data.toList a = true) :
    Calls Tryz.prog 107 #[scp g] w fun e w' => e = .returned (.bool true) ∧ Sc w' g s (a + 2) b ∧ w.grownBy w' (some g) := by
  have c0 := h.c0
  have c1 := h.c1
  have hF := fun w => implFoldAt s a w (by omega) ha
  simp only [hc] at hF
  have HL := (show Hid _ from fun (w : World) h => scLineEndYes g s a b w hs ha h (Pl.fold_crlf _ _ hc))
  have Hsc := (show Hid _ from h)
  clear h hc
  go_enter Tryz.func107, Tryz.ntmps107
  go_wp2
  go_region_with first | (go_at_call 127; (refine (hF _).mono ?_; rintro e w2 ⟨rfl, rfl⟩)) | (go_at_call 76; (refine (HL.out _ (Hsc.out.below (below_drewN (Below.refl _ _) 1))).mono ?_; rintro e w3 ⟨rfl, hs3, hg3⟩))
  all_goals
    go_wp2
    go_ret
    exact ⟨rfl, hs3, ⟨hg3.os, hg3.tape, hg3.output, hg3.size, hg3.block⟩⟩
set_option maxRecDepth 20000 in
theorem scNeedYes (g : Nat) (w : World) :
    Calls Tryz.prog 104 #[scp g, .bool true] w fun e w' => e = .returned (.tuple #[]) ∧ w' = w := by
  go_enter Tryz.func104, Tryz.ntmps104
  go_wp2
  exact bodyPost_end (v := .tuple #[]) (results_none Tryz.results104 _ _ _) rfl ⟨rfl, rfl⟩
set_option maxRecDepth 20000 in
theorem scNeedNo (g : Nat) (s : ByteArray) (a b : Nat) (w : World) (h : Sc w g s a b) :
    Calls Tryz.prog 104 #[scp g, .bool false] w fun e w' => e = .panicked [{ v := .iface 75 (.agg #[.int .i64 3, .int .i64 b]), recovered := false }] ∧ w' = w := by
  have Hsc := (show Hid _ from h)
  clear h
  go_enter Tryz.func104, Tryz.ntmps104
  go_wp2_with fail
  refine (scFail g s a b w Hsc.out).mono ?_
  rintro e w3 ⟨rfl, rfl⟩
  exact ⟨rfl, rfl, rfl⟩
set_option maxRecDepth 20000 in
set_option maxHeartbeats 2000000 in
theorem scNextEnd (g : Nat) (s : ByteArray) (a b : Nat) (w : World) (h : Sc w g s a b) (ha : a = s.size) :
    Calls Tryz.prog 131 #[scp g] w fun e w' => e = .panicked [{ v := .iface 75 (.agg #[.int .i64 3, .int .i64 b]), recovered := false }] ∧ Below w.heap.size w w' := by
  have hEn := scEnded g s a b w h
  rw [show ((a : Int) == (s.size : Int)) = true from by simp; omega] at hEn
  have Hsc := (show Hid _ from h)
  clear h ha
  go_enter Tryz.func131, Tryz.ntmps131
  go_wp2_with fail
  refine hEn.mono ?_
  rintro e w1 ⟨rfl, hb1⟩
  have S1 := (show Hid _ from Hsc.out.below hb1)
  go_wp2_with fail
  refine (scNeedNo g s a b w1 S1.out).mono ?_
  rintro e w2 ⟨rfl, rfl⟩
  exact ⟨rfl, rfl, hb1⟩
set_option maxRecDepth 20000 in
set_option maxHeartbeats 2000000 in
theorem scNextYes (g : Nat) (s : ByteArray) (a b : Nat) (w : World) (hs : s.size ≤ 100000) (h : Sc w g s a b) (ha : a < s.size) :
    Calls Tryz.prog 131 #[scp g] w fun e w' => e = .returned (.int .u8 (s[a].toNat : Int)) ∧ Sc w' g s (a + 1) b ∧ w.grownBy w' (some g) := by
  have hEn := scEnded g s a b w h
  rw [show ((a : Int) == (s.size : Int)) = false from by simp; omega] at hEn
  have Hsc := (show Hid _ from h)
  have h8 : s[a].toNat < 256 := UInt8.toNat_lt _
  have hkI : (a : Int) < (s.size : Int) := by omega
  clear h
  go_enter Tryz.func131, Tryz.ntmps131
  go_wp2_with fail
  refine hEn.mono ?_
  rintro e w1 ⟨rfl, hb1⟩
  have S1 := (show Hid _ from Hsc.out.below hb1)
  have G1 := (show Hid _ from grown_below (r := some g) hb1)
  clear hb1 hEn
  go_wp2_with fail
  refine (scNeedYes g w1).mono ?_
  rintro e w2 ⟨rfl, rfl⟩
  have c1 := S1.out.c1
  have f1 := S1.out.f1
  have Hs3 := (show Hid _ from S1.out.set1 ((a : Int) + 1) (a + 1) (by omega))
  have Hg3 := (show Hid _ from grown_trans G1.out (grown_set w2 g 1 (.int .i64 ((a : Int) + 1))))
  go_wp2
  clear c1 f1
  generalize w2.setCell ⟨g, 1, none⟩ (.int .i64 ((a : Int) + 1)) = wz at *
  have e0 := Hs3.out.c0
  have e1 := Hs3.out.c1
  go_quiet (fail)
  have hbz := below_drewN (Below.refl wz.heap.size wz) nq
  go_wp2
  go_ret
  exact ⟨rfl, Hs3.out.below hbz, grown_trans Hg3.out (grown_below hbz)⟩
set_option maxRecDepth 20000 in
set_option maxHeartbeats 2000000 in
theorem scByteEnd (g : Nat) (s : ByteArray) (a b : Nat) (w : World) (h : Sc w g s a b) (ha : a = s.size) :
    Calls Tryz.prog 105 #[scp g] w fun e w' => e = .panicked [{ v := .iface 75 (.agg #[.int .i64 3, .int .i64 b]), recovered := false }] ∧ Below w.heap.size w w' := by
  have hN := scNextEnd g s a b w h ha
  clear h ha
  go_enter Tryz.func105, Tryz.ntmps105
  go_wp2_with fail
  refine hN.mono ?_
  rintro e w1 ⟨rfl, hb1⟩
  exact ⟨rfl, rfl, hb1⟩
set_option maxRecDepth 20000 in
set_option maxHeartbeats 2000000 in
theorem scByteNo (g : Nat) (s : ByteArray) (a b : Nat) (w : World) (hs : s.size ≤ 100000) (h : Sc w g s a b) (ha : a < s.size) (hl : Pl.lb s[a] = false) :
    Calls Tryz.prog 105 #[scp g] w fun e w' => e = .panicked [{ v := .iface 75 (.agg #[.int .i64 3, .int .i64 b]), recovered := false }] ∧ w.grownBy w' (some g) := by
  have hN := scNextYes g s a b w hs h ha
  have hK := fun w => implLineByte s[a] w
  simp only [hl] at hK
  have h8 : s[a].toNat < 256 := UInt8.toNat_lt _
  clear h hl
  go_enter Tryz.func105, Tryz.ntmps105
  go_wp2_with fail
  refine hN.mono ?_
  rintro e w1 ⟨rfl, s1, g1⟩
  have S1 := (show Hid _ from s1)
  have G1 := (show Hid _ from g1)
  clear s1 g1 hN
  go_wp2_with fail
  refine (hK _).mono ?_
  rintro e w2 ⟨rfl, rfl⟩
  go_wp2_with fail
  refine (scNeedNo g s (a + 1) b _ S1.out).mono ?_
  rintro e w3 ⟨rfl, rfl⟩
  exact ⟨rfl, rfl, G1.out⟩
set_option maxRecDepth 20000 in
set_option maxHeartbeats 2000000 in
theorem scByteYes (g : Nat) (s : ByteArray) (a b : Nat) (w : World) (hs : s.size ≤ 100000) (h : Sc w g s a b) (ha : a < s.size) (hl : Pl.lb s[a] = true) :
    Calls Tryz.prog 105 #[scp g] w fun e w' => e = .returned (.int .u8 (s[a].toNat : Int)) ∧ Sc w' g s (a + 1) b ∧ w.grownBy w' (some g) := by
  have hN := scNextYes g s a b w hs h ha
  have hK := fun w => implLineByte s[a] w
  simp only [hl] at hK
  have h8 : s[a].toNat < 256 := UInt8.toNat_lt _
  clear h hl
  go_enter Tryz.func105, Tryz.ntmps105
  go_wp2_with fail
  refine hN.mono ?_
  rintro e w1 ⟨rfl, s1, g1⟩
  have S1 := (show Hid _ from s1)
  have G1 := (show Hid _ from g1)
  clear s1 g1 hN
  go_wp2_with fail
  refine (hK _).mono ?_
  rintro e w2 ⟨rfl, rfl⟩
  go_wp2_with fail
  refine (scNeedYes g _).mono ?_
  rintro e w3 ⟨rfl, rfl⟩
  go_wp2
  go_ret
  exact ⟨rfl, S1.out, G1.out⟩
end Go.Proofs.YtgabjiamabbheaaGreatDoor
