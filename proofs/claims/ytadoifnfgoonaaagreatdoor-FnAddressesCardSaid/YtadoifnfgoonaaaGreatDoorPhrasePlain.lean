
/- The walks of the program's scanner: what it reads. -/

/- The walks of the program's scanner: line ends, folds, a byte of a line. -/

/- A scope with several labels: what holds at each jump, by its label, and a measure. A law of no program. -/

/- Plain mathematics of Phrase: lists of bytes alone; no program. -/
import Derived.Test.YtadoifnfgoonaaaGreatDoorReadSame
import Derived.Lib.QuietBelow
import Derived.Deep.QuietTactic
import Derived.BigQuiet
import Derived.Deep.RegionWith
import Derived.WalkSmall
import Derived.ScopeJumps
import Derived.Test.YtadoifnfgoonaaaGreatDoorBytes
import Derived.Lib.SplitLaws
namespace Go.Proofs.YtadoifnfgoonaaaGreatDoor
open Go.RowKit Go.Lib
/- A scanner in memory: its text, its place, where the line began. -/
variable {R : List Value × TypeId}
/-- R: what lies behind it in its block, and the block's type. -/
structure Sc (R : List Value × TypeId) (w : World) (g : Nat) (s : ByteArray) (a b : Nat) : Prop where
  blk : w.heap[g]? = some (.cells (.string s :: .int .i64 a :: .int .i64 b :: R.1).toArray R.2)
set_option maxRecDepth 20000 in
theorem Sc.c0 {w : World} {g : Nat} {s : ByteArray} {a b : Nat} (h : Sc R w g s a b) : w.cell? ⟨g, 0, none⟩ = some (.string s) := by simp [World.cell?, h.blk]
set_option maxRecDepth 20000 in
theorem Sc.c1 {w : World} {g : Nat} {s : ByteArray} {a b : Nat} (h : Sc R w g s a b) : w.cell? ⟨g, 1, none⟩ = some (.int .i64 a) := by simp [World.cell?, h.blk]
set_option maxRecDepth 20000 in
theorem Sc.c2 {w : World} {g : Nat} {s : ByteArray} {a b : Nat} (h : Sc R w g s a b) : w.cell? ⟨g, 2, none⟩ = some (.int .i64 b) := by simp [World.cell?, h.blk]
set_option maxRecDepth 20000 in
theorem Sc.f1 {w : World} {g : Nat} {s : ByteArray} {a b : Nat} (h : Sc R w g s a b) : w.frozen? ⟨g, 1, none⟩ = false := by simp [World.frozen?, h.blk]
set_option maxRecDepth 20000 in
theorem Sc.f2 {w : World} {g : Nat} {s : ByteArray} {a b : Nat} (h : Sc R w g s a b) : w.frozen? ⟨g, 2, none⟩ = false := by simp [World.frozen?, h.blk]
set_option maxRecDepth 20000 in
theorem Sc.lt {w : World} {g : Nat} {s : ByteArray} {a b : Nat} (h : Sc R w g s a b) : g < w.heap.size := by
  have h := h.blk
  by_cases hg : g < w.heap.size
  · exact hg
  · rw [Array.getElem?_eq_none (by omega)] at h; cases h
set_option maxRecDepth 20000 in
theorem Sc.below {w w' : World} {g : Nat} {s : ByteArray} {a b : Nat} (h : Sc R w g s a b) (hb : Below w.heap.size w w') : Sc R w' g s a b := by
  have := h.lt
  exact ⟨by rw [hb.block g this]; exact h.blk⟩
set_option maxRecDepth 20000 in
theorem Sc.set1 {w : World} {g : Nat} {s : ByteArray} {a b : Nat} (h : Sc R w g s a b) (n : Int) (m : Nat) (hn : n = m) : Sc R (w.setCell ⟨g, 1, none⟩ (.int .i64 n)) g s m b := by
  subst hn
  exact ⟨by simp [World.setCell, Array.getElem?_modify, h.blk]⟩
set_option maxRecDepth 20000 in
theorem Sc.set2 {w : World} {g : Nat} {s : ByteArray} {a b : Nat} (h : Sc R w g s a b) (n : Int) (m : Nat) (hn : n = m) : Sc R (w.setCell ⟨g, 2, none⟩ (.int .i64 n)) g s a m := by
  subst hn
  exact ⟨by simp [World.setCell, Array.getElem?_modify, h.blk]⟩
set_option maxRecDepth 20000 in
theorem grown_refl (w : World) (r : Option Nat) : w.grownBy w r := ⟨rfl, rfl, rfl, Nat.le_refl _, fun _ _ _ => rfl⟩
set_option maxRecDepth 20000 in
theorem grown_trans {a b c : World} {r : Option Nat} (h : a.grownBy b r) (k : b.grownBy c r) : a.grownBy c r :=
  ⟨k.os.trans h.os, k.tape.trans h.tape, k.output.trans h.output, Nat.le_trans h.size k.size, fun i hi hr => (k.block i (Nat.lt_of_lt_of_le hi h.size) hr).trans (h.block i hi hr)⟩
set_option maxRecDepth 20000 in
theorem grown_below {w w' : World} {r : Option Nat} (h : Below w.heap.size w w') : w.grownBy w' r := ⟨h.os, h.tape, h.output, h.size, fun k hk _ => h.block k hk⟩
set_option maxRecDepth 20000 in
theorem grown_set (w : World) (g j : Nat) (v : Value) : w.grownBy (w.setCell ⟨g, j, none⟩ v) (some g) := by
  refine ⟨rfl, rfl, rfl, by simp [World.setCell], ?_⟩
  intro k hk hr
  have : g ≠ k := fun e => hr (by rw [e])
  simp [World.setCell, Array.getElem?_modify, this]
/-- The place that a scanner stands at. -/
def atOf (w : World) (g : Nat) : Nat := match w.cell? ⟨g, 1, none⟩ with | some (.int _ n) => n.toNat | _ => 0
set_option maxRecDepth 20000 in
theorem Sc.at {w : World} {g : Nat} {s : ByteArray} {a b : Nat} (h : Sc R w g s a b) : atOf w g = a := by simp [atOf, h.c1]
abbrev scp (g : Nat) : Value := .pointer (some ⟨g, 0, none⟩)
set_option maxRecDepth 20000 in
theorem scEnded (g : Nat) (s : ByteArray) (a b : Nat) (w : World) (h : Sc R w g s a b) :
    Calls Tryz.prog 76 #[scp g] w fun e w' => e = .returned (.bool ((a : Int) == (s.size : Int))) ∧ Below w.heap.size w w' := by
  have c0 := h.c0
  have c1 := h.c1
  clear h
  go_enter Tryz.func76, Tryz.ntmps76
  go_wp2
  go_quiet (fail)
  go_wp2
  go_ret
  exact ⟨rfl, below_drewN (Below.refl _ _) _⟩
set_option maxRecDepth 20000 in
theorem scFail (g : Nat) (s : ByteArray) (a b : Nat) (w : World) (h : Sc R w g s a b) :
    Calls Tryz.prog 79 #[scp g] w fun e w' => e = .panicked [{ v := .iface 64 (.agg #[.int .i64 3, .int .i64 b]), recovered := false }] ∧ w' = w := by
  have c2 := h.c2
  clear h
  go_enter Tryz.func79, Tryz.ntmps79
  go_wp2
  exact ⟨rfl, rfl, rfl⟩
set_option maxRecDepth 20000 in
set_option maxHeartbeats 2000000 in
theorem scPass {f : FuncId} {K : UInt8 → Bool} (hK : Kind f K) (g : Nat) (s : ByteArray) (a b : Nat) (w : World) (hs : s.size ≤ 100000) (ha : a ≤ s.size) (h : Sc R w g s a b) :
    Calls Tryz.prog 73 #[scp g, .func (.func f) #[] #[]] w fun e w' => e = .returned (.string (s.extract a (Pl.stop K s.data.toList a))) ∧ Sc R w' g s (Pl.stop K s.data.toList a) b ∧ w.grownBy w' (some g) := by
  have hE := hK.enters
  have HC := (show Hid _ from hK.calls)
  obtain ⟨Z, hZ⟩ : ∃ Z, Pl.stop K s.data.toList a = Z := ⟨_, rfl⟩
  rw [hZ]
  have HZ := (show Hid _ from hZ)
  have Hsc := (show Hid _ from h)
  have c1 := h.c1
  clear hZ h
  go_enter Tryz.func73, Tryz.ntmps73
  go_wp2
  clear c1
  go_loopw [10] (fun _ wr => ∃ k : Nat, a ≤ k ∧ k ≤ s.size ∧ Hid (Pl.stop K s.data.toList k = Z) ∧ Hid (Sc R wr g s k b) ∧ Hid (w.grownBy wr (some g))) (fun _ wr => s.size - atOf wr g)
  case atStart => exact ⟨a, Nat.le_refl _, ha, HZ, Hsc, grown_refl _ _⟩
  case round =>
    clear HZ Hsc
    obtain ⟨k, hak, hk, HZ, Hsc, Hg⟩ := hrel
    have c0 := Hsc.out.c0
    have c1 := Hsc.out.c1
    have k0 := cell_regrown c0
    have k1 := cell_regrown c1
    have cE : ∀ d os, Calls Tryz.prog 76 #[scp g] (Go.Sort.grow (redrawn wr d) os) fun e w'' => e = .returned (.bool ((k : Int) == (s.size : Int))) ∧ ∃ p : Regrown, w'' = Go.Sort.grow (redrawn wr p.d) p.os := fun d os => Calls.regrown_of (scEnded g s k b _ (Hsc.out.below (below_regrown wr d os)))
    by_cases hlt : k < s.size
    · have hne : ((k : Int) == (s.size : Int)) = false := by simp; omega
      simp only [hne] at cE
      have h8 : s[k].toNat < 256 := UInt8.toNat_lt _
      have hkI : (k : Int) < (s.size : Int) := by omega
      have cK : ∀ d os, Calls Tryz.prog f #[.int .u8 (s[k].toNat : Int)] (Go.Sort.grow (redrawn wr d) os) fun e w'' => e = .returned (.bool (K s[k])) ∧ ∃ p : Regrown, w'' = Go.Sort.grow (redrawn wr p.d) p.os := fun d os => Calls.regrown_of ((HC.out s[k] _).mono fun e w' ⟨he, hw⟩ => ⟨he, by rw [← hw]; exact Below.refl _ _⟩)
      have hkb : Hid (Pl.b s.data.toList k = s[k]) := Pl.b_lt _ k (by simpa using hlt)
      cases hkc : K s[k] <;> simp only [hkc] at cK
      · have hst : Hid (Z = k) := show _ = _ from by
          rw [← HZ.out]
          exact Pl.stop_eq K _ k k (Nat.le_refl _) (by simp; omega) (fun j h1 h2 => by omega) (fun _ => by rw [hkb.out]; exact hkc)
        clear hkc HZ
        go_wp2
        refine wp_region_quiet_below (by kernel_rfl) (by kernel_rfl) ?_
        quiet_step (fail)
        quiet_step (exact cE _ _)
        iterate 12 (quiet_step (fail))
        quiet_step (exact cK _ _)
        repeat (quiet_step (fail))
        refine wpQuiet_nil ?_
        intro _ hw'
        obtain ⟨⟨dq, osq⟩, hw''⟩ := hw'
        subst hw''
        have hbq := below_regrown wr dq osq
        have Hs2 := (show Hid _ from Hsc.out.below hbq)
        have Hg2 := (show Hid _ from grown_trans Hg.out (grown_below hbq))
        generalize Go.Sort.grow (redrawn wr dq) osq = wq at *
        clear c0 c1 k0 k1 cE cK hbq
        have c0 := Hs2.out.c0
        have c1 := Hs2.out.c1
        have k0 := cell_regrown c0
        have k1 := cell_regrown c1
        have f1 : (k : Int) ≤ (s.size : Int) := by omega
        have f2 : (a : Int) ≤ (k : Int) := by omega
        have cL : ∀ d os, Calls Tryz.prog 61 #[.string (s.extract a k)] (Go.Sort.grow (redrawn wq d) os) fun e w'' => e = .returned (.string (s.extract a k)) ∧ ∃ p : Regrown, w'' = Go.Sort.grow (redrawn wq p.d) p.os := fun d os => Calls.regrown_of (libClone _ _ (by rw [ByteArray.size_extract]; omega))
        go_wp2
        refine wp_region_quiet_below (by kernel_rfl) (by kernel_rfl) ?_
        iterate 10 (quiet_step (fail))
        quiet_step (exact cL _ _)
        repeat (quiet_step (fail))
        refine wpQuiet_nil ?_
        intro _ hw'
        obtain ⟨⟨dr, osr⟩, hw''⟩ := hw'
        subst hw''
        have hbr := below_regrown wq dr osr
        go_wp2
        go_ret
        rw [hst.out]
        exact ⟨rfl, Hs2.out.below hbr, grown_trans Hg2.out (grown_below hbr)⟩
      · have hst : Hid (Pl.stop K s.data.toList (k + 1) = Z) := show _ = _ from by
          rw [← HZ.out]
          exact Pl.first_miss _ _ k (by simpa using hlt) (by rw [hkb.out, hkc]; rfl)
        clear hkc HZ
        go_wp2
        refine wp_region_quiet_below (by kernel_rfl) (by kernel_rfl) ?_
        quiet_step (fail)
        quiet_step (exact cE _ _)
        iterate 12 (quiet_step (fail))
        quiet_step (exact cK _ _)
        repeat (quiet_step (fail))
        refine wpQuiet_nil ?_
        intro _ hw'
        obtain ⟨⟨dq, osq⟩, hw''⟩ := hw'
        subst hw''
        have hbq := below_regrown wr dq osq
        have Hs2 := (show Hid _ from Hsc.out.below hbq)
        have Hg2 := (show Hid _ from grown_trans Hg.out (grown_below hbq))
        have hat : Hid (atOf wr g = k) := Hsc.out.at
        generalize Go.Sort.grow (redrawn wr dq) osq = wq at *
        clear c0 c1 k0 k1 cE cK hbq
        have c1 := Hs2.out.c1
        have f1 := Hs2.out.f1
        go_wp2
        go_roundw
        case rel => exact ⟨k + 1, by omega, by omega, hst, Hs2.out.set1 _ _ (by omega), grown_trans Hg2.out (grown_set _ _ _ _)⟩
        case measure =>
          have := (Hs2.out.set1 ((k : Int) + 1) (k + 1) (by omega)).at
          rw [hat.out, this]
          omega
    · have hkk : k = s.size := by omega
      have hst : Hid (Z = k) := show _ = _ from by
        rw [← HZ.out]
        exact Pl.first_end _ _ _ (by simp; omega)
      obtain ⟨bE, hbE⟩ : ∃ bE, ((k : Int) == (s.size : Int)) = bE := ⟨_, rfl⟩
      have Hb : Hid (bE = true) := show _ = _ from by rw [← hbE]; simp; omega
      simp only [hbE] at cE
      have f1 : (k : Int) ≤ (s.size : Int) := by omega
      have f2 : (a : Int) ≤ (k : Int) := by omega
      have hce : (s.extract a k).size ≤ 1100000 := by rw [ByteArray.size_extract]; omega
      clear HZ hkk hbE hlt hk hak
      go_wp2
      refine wp_region_quiet_below (by kernel_rfl) (by kernel_rfl) ?_
      quiet_step (fail)
      quiet_step (exact cE _ _)
      quiet_step (fail)
      quiet_step (fail)
      iterate 11 (refine BigFrame.wpQuiet_skip (by obtain rfl : bE = true := Hb.out; rfl) ?_; go_simp)
      obtain rfl : bE = true := Hb.out
      quiet_step (fail)
      refine wpQuiet_nil ?_
      rintro ⟨dq, osq⟩
      simp only
      have hbq := below_regrown wr dq osq
      have Hs2 := (show Hid _ from Hsc.out.below hbq)
      have Hg2 := (show Hid _ from grown_trans Hg.out (grown_below hbq))
      generalize Go.Sort.grow (redrawn wr dq) osq = wq at *
      clear c0 c1 k0 k1 cE hbq
      have c0 := Hs2.out.c0
      have c1 := Hs2.out.c1
      have k0 := cell_regrown c0
      have k1 := cell_regrown c1
      have cL : ∀ d os, Calls Tryz.prog 61 #[.string (s.extract a k)] (Go.Sort.grow (redrawn wq d) os) fun e w'' => e = .returned (.string (s.extract a k)) ∧ ∃ p : Regrown, w'' = Go.Sort.grow (redrawn wq p.d) p.os := fun d os => Calls.regrown_of (libClone _ _ hce)
      go_wp2
      refine wp_region_quiet_below (by kernel_rfl) (by kernel_rfl) ?_
      iterate 10 (quiet_step (fail))
      quiet_step (exact cL _ _)
      repeat (quiet_step (fail))
      refine wpQuiet_nil ?_
      intro _ hw'
      obtain ⟨⟨dr, osr⟩, hw''⟩ := hw'
      subst hw''
      have hbr := below_regrown wq dr osr
      go_wp2
      go_ret
      rw [hst.out]
      exact ⟨rfl, Hs2.out.below hbr, grown_trans Hg2.out (grown_below hbr)⟩
end Go.Proofs.YtadoifnfgoonaaaGreatDoor
namespace Go.Proofs.YtadoifnfgoonaaaGreatDoor
open Go.RowKit Go.Lib
variable {R : List Value × TypeId}
set_option maxRecDepth 20000 in
theorem implLineEndAt' (s : ByteArray) (a : Nat) (w : World) (hs : s.size ≤ 100000) (ha : a ≤ s.size) :
    Calls Tryz.prog 117 #[.string s, .int .i64 a] w fun e w' => e = .returned (.bool (Pl.crlf s.data.toList a)) ∧ Below w.heap.size w w' :=
  (implLineEndAt s a w (by omega) ha).mono fun e w' ⟨he, hw⟩ => ⟨he, by rw [← hw]; exact Below.refl _ _⟩
set_option maxRecDepth 20000 in
theorem implFoldAt' (s : ByteArray) (a : Nat) (w : World) (hs : s.size ≤ 100000) (ha : a ≤ s.size) :
    Calls Tryz.prog 99 #[.string s, .int .i64 a] w fun e w' => e = .returned (.bool (Pl.fold s.data.toList a)) ∧ Below w.heap.size w w' :=
  (implFoldAt s a w (by omega) ha).mono fun e w' ⟨he, hw⟩ => ⟨he, by rw [← hw]; exact Below.refl _ _⟩
set_option maxRecDepth 20000 in
set_option maxHeartbeats 1000000 in
theorem scLineEndNo (g : Nat) (s : ByteArray) (a b : Nat) (w : World) (hs : s.size ≤ 100000) (ha : a ≤ s.size) (h : Sc R w g s a b) (hc : Pl.crlf s.data.toList a = false) :
    Calls Tryz.prog 100 #[scp g] w fun e w' => e = .returned (.bool false) ∧ Below w.heap.size w w' := by
  have k0 := cell_regrown h.c0
  have k1 := cell_regrown h.c1
  have cL : ∀ d os, Calls Tryz.prog 117 #[.string s, .int .i64 a] (Go.Sort.grow (redrawn w d) os) fun e w'' => e = .returned (.bool false) ∧ ∃ p : Regrown, w'' = Go.Sort.grow (redrawn w p.d) p.os := fun d os => Calls.regrown_of (by rw [← hc]; exact implLineEndAt' s a _ hs ha)
  clear h hc
  go_enter Tryz.func100, Tryz.ntmps100
  go_wp2
  refine wp_region_quiet_below (by kernel_rfl) (by kernel_rfl) ?_
  iterate 8 (quiet_step (fail))
  quiet_step (exact cL _ _)
  quiet_step (fail)
  refine wpQuiet_nil ?_
  intro _ hw'
  obtain ⟨⟨dq, osq⟩, hw''⟩ := hw'
  subst hw''
  go_wp2
  go_ret
  exact ⟨rfl, below_regrown _ _ _⟩
set_option maxRecDepth 20000 in
set_option maxHeartbeats 1000000 in
theorem scLineEndYes (g : Nat) (s : ByteArray) (a b : Nat) (w : World) (hs : s.size ≤ 100000) (ha : a ≤ s.size) (h : Sc R w g s a b) (hc : Pl.crlf s.data.toList a = true) :
    Calls Tryz.prog 100 #[scp g] w fun e w' => e = .returned (.bool true) ∧ Sc R w' g s (a + 2) b ∧ w.grownBy w' (some g) := by
  have k0 := cell_regrown h.c0
  have k1 := cell_regrown h.c1
  have cL : ∀ d os, Calls Tryz.prog 117 #[.string s, .int .i64 a] (Go.Sort.grow (redrawn w d) os) fun e w'' => e = .returned (.bool true) ∧ ∃ p : Regrown, w'' = Go.Sort.grow (redrawn w p.d) p.os := fun d os => Calls.regrown_of (by rw [← hc]; exact implLineEndAt' s a _ hs ha)
  have Hsc := (show Hid _ from h)
  clear h hc
  go_enter Tryz.func100, Tryz.ntmps100
  go_wp2
  refine wp_region_quiet_below (by kernel_rfl) (by kernel_rfl) ?_
  iterate 8 (quiet_step (fail))
  quiet_step (exact cL _ _)
  quiet_step (fail)
  refine wpQuiet_nil ?_
  intro _ hw'
  obtain ⟨⟨dq, osq⟩, hw''⟩ := hw'
  subst hw''
  have hbq := below_regrown w dq osq
  have Hs2 := (show Hid _ from Hsc.out.below hbq)
  have Hg2 := (show Hid _ from grown_below (r := some g) hbq)
  generalize Go.Sort.grow (redrawn w dq) osq = wq at *
  clear k0 k1 cL hbq
  have c1 := Hs2.out.c1
  have f1 := Hs2.out.f1
  go_wp2
  go_ret
  exact ⟨rfl, Hs2.out.set1 _ _ (by omega), grown_trans Hg2.out (grown_set _ _ _ _)⟩
set_option maxRecDepth 20000 in
set_option maxHeartbeats 1000000 in
theorem scFoldNo (g : Nat) (s : ByteArray) (a b : Nat) (w : World) (hs : s.size ≤ 100000) (ha : a ≤ s.size) (h : Sc R w g s a b) (hc : Pl.fold s.data.toList a = false) :
    Calls Tryz.prog 75 #[scp g] w fun e w' => e = .returned (.bool false) ∧ Below w.heap.size w w' := by
  have k0 := cell_regrown h.c0
  have k1 := cell_regrown h.c1
  obtain ⟨bF, hbF⟩ : ∃ bF, Pl.fold s.data.toList a = bF := ⟨_, rfl⟩
  have Hb : Hid (bF = false) := show _ = _ from by rw [← hbF]; exact hc
  have cL : ∀ d os, Calls Tryz.prog 99 #[.string s, .int .i64 a] (Go.Sort.grow (redrawn w d) os) fun e w'' => e = .returned (.bool bF) ∧ ∃ p : Regrown, w'' = Go.Sort.grow (redrawn w p.d) p.os := fun d os => Calls.regrown_of (by rw [← hbF]; exact implFoldAt' s a _ hs ha)
  clear h hc hbF
  go_enter Tryz.func75, Tryz.ntmps75
  go_wp2
  refine wp_region_quiet_below (by kernel_rfl) (by kernel_rfl) ?_
  iterate 8 (quiet_step (fail))
  quiet_step (exact cL _ _)
  quiet_step (fail)
  iterate 2 (refine BigFrame.wpQuiet_skip (by obtain rfl : bF = false := Hb.out; rfl) ?_; go_simp)
  obtain rfl : bF = false := Hb.out
  repeat (quiet_step (fail))
  refine wpQuiet_nil ?_
  rintro ⟨dq, osq⟩
  simp only
  go_wp2
  go_ret
  exact ⟨rfl, below_regrown _ _ _⟩
set_option maxRecDepth 20000 in
set_option maxHeartbeats 1000000 in
theorem scFoldYes (g : Nat) (s : ByteArray) (a b : Nat) (w : World) (hs : s.size ≤ 100000) (ha : a ≤ s.size) (h : Sc R w g s a b) (hc : Pl.fold s.data.toList a = true) :
    Calls Tryz.prog 75 #[scp g] w fun e w' => e = .returned (.bool true) ∧ Sc R w' g s (a + 2) b ∧ w.grownBy w' (some g) := by
  have c0 := h.c0
  have c1 := h.c1
  have hF := fun w => implFoldAt s a w (by omega) ha
  simp only [hc] at hF
  have HL := (show Hid _ from fun (w : World) h => scLineEndYes (R := R) g s a b w hs ha h (Pl.fold_crlf _ _ hc))
  have Hsc := (show Hid _ from h)
  clear h hc
  go_enter Tryz.func75, Tryz.ntmps75
  go_wp2
  go_region_with first | (go_at_call 99; (refine (hF _).mono ?_; rintro e w2 ⟨rfl, rfl⟩)) | (go_at_call 100; (refine (HL.out _ (Hsc.out.below (below_drewN (Below.refl _ _) 1))).mono ?_; rintro e w3 ⟨rfl, hs3, hg3⟩))
  all_goals
    go_wp2
    go_ret
    exact ⟨rfl, hs3, ⟨hg3.os, hg3.tape, hg3.output, hg3.size, hg3.block⟩⟩
set_option maxRecDepth 20000 in
theorem scNeedYes (g : Nat) (w : World) :
    Calls Tryz.prog 102 #[scp g, .bool true] w fun e w' => e = .returned (.tuple #[]) ∧ w' = w := by
  go_enter Tryz.func102, Tryz.ntmps102
  go_wp2
  exact bodyPost_end (v := .tuple #[]) (results_none Tryz.results102 _ _ _) rfl ⟨rfl, rfl⟩
set_option maxRecDepth 20000 in
theorem scNeedNo (g : Nat) (s : ByteArray) (a b : Nat) (w : World) (h : Sc R w g s a b) :
    Calls Tryz.prog 102 #[scp g, .bool false] w fun e w' => e = .panicked [{ v := .iface 64 (.agg #[.int .i64 3, .int .i64 b]), recovered := false }] ∧ w' = w := by
  have Hsc := (show Hid _ from h)
  clear h
  go_enter Tryz.func102, Tryz.ntmps102
  go_wp2_with fail
  refine (scFail g s a b w Hsc.out).mono ?_
  rintro e w3 ⟨rfl, rfl⟩
  exact ⟨rfl, rfl, rfl⟩
set_option maxRecDepth 20000 in
set_option maxHeartbeats 2000000 in
theorem scNextEnd (g : Nat) (s : ByteArray) (a b : Nat) (w : World) (h : Sc R w g s a b) (ha : a = s.size) :
    Calls Tryz.prog 101 #[scp g] w fun e w' => e = .panicked [{ v := .iface 64 (.agg #[.int .i64 3, .int .i64 b]), recovered := false }] ∧ Below w.heap.size w w' := by
  have hEn := scEnded g s a b w h
  rw [show ((a : Int) == (s.size : Int)) = true from by simp; omega] at hEn
  have Hsc := (show Hid _ from h)
  clear h ha
  go_enter Tryz.func101, Tryz.ntmps101
  go_wp2_with fail
  refine hEn.mono ?_
  rintro e w1 ⟨rfl, hb1⟩
  have S1 := (show Hid _ from Hsc.out.below hb1)
  go_wp2_with fail
  refine (scNeedNo g s a b w1 S1.out).mono ?_
  rintro e w2 ⟨rfl, rfl⟩
  exact ⟨rfl, rfl, hb1⟩
set_option maxRecDepth 20000 in
set_option maxHeartbeats 2000000 in
theorem scNextYes (g : Nat) (s : ByteArray) (a b : Nat) (w : World) (hs : s.size ≤ 100000) (h : Sc R w g s a b) (ha : a < s.size) :
    Calls Tryz.prog 101 #[scp g] w fun e w' => e = .returned (.int .u8 (s[a].toNat : Int)) ∧ Sc R w' g s (a + 1) b ∧ w.grownBy w' (some g) := by
  have hEn := scEnded g s a b w h
  rw [show ((a : Int) == (s.size : Int)) = false from by simp; omega] at hEn
  have Hsc := (show Hid _ from h)
  have h8 : s[a].toNat < 256 := UInt8.toNat_lt _
  have hkI : (a : Int) < (s.size : Int) := by omega
  clear h
  go_enter Tryz.func101, Tryz.ntmps101
  go_wp2_with fail
  refine hEn.mono ?_
  rintro e w1 ⟨rfl, hb1⟩
  have S1 := (show Hid _ from Hsc.out.below hb1)
  have G1 := (show Hid _ from grown_below (r := some g) hb1)
  clear hb1 hEn
  go_wp2_with fail
  refine (scNeedYes g w1).mono ?_
  rintro e w2 ⟨rfl, rfl⟩
  have c1 := S1.out.c1
  have f1 := S1.out.f1
  have Hs3 := (show Hid _ from S1.out.set1 ((a : Int) + 1) (a + 1) (by omega))
  have Hg3 := (show Hid _ from grown_trans G1.out (grown_set w2 g 1 (.int .i64 ((a : Int) + 1))))
  go_wp2
  clear c1 f1
  generalize w2.setCell ⟨g, 1, none⟩ (.int .i64 ((a : Int) + 1)) = wz at *
  have e0 := Hs3.out.c0
  have e1 := Hs3.out.c1
  go_quiet (fail)
  have hbz := below_drewN (Below.refl wz.heap.size wz) nq
  go_wp2
  go_ret
  exact ⟨rfl, Hs3.out.below hbz, grown_trans Hg3.out (grown_below hbz)⟩
set_option maxRecDepth 20000 in
set_option maxHeartbeats 2000000 in
theorem scByteEnd (g : Nat) (s : ByteArray) (a b : Nat) (w : World) (h : Sc R w g s a b) (ha : a = s.size) :
    Calls Tryz.prog 77 #[scp g] w fun e w' => e = .panicked [{ v := .iface 64 (.agg #[.int .i64 3, .int .i64 b]), recovered := false }] ∧ Below w.heap.size w w' := by
  have hN := scNextEnd g s a b w h ha
  clear h ha
  go_enter Tryz.func77, Tryz.ntmps77
  go_wp2_with fail
  refine hN.mono ?_
  rintro e w1 ⟨rfl, hb1⟩
  exact ⟨rfl, rfl, hb1⟩
set_option maxRecDepth 20000 in
set_option maxHeartbeats 2000000 in
theorem scByteNo (g : Nat) (s : ByteArray) (a b : Nat) (w : World) (hs : s.size ≤ 100000) (h : Sc R w g s a b) (ha : a < s.size) (hl : Pl.lb s[a] = false) :
    Calls Tryz.prog 77 #[scp g] w fun e w' => e = .panicked [{ v := .iface 64 (.agg #[.int .i64 3, .int .i64 b]), recovered := false }] ∧ w.grownBy w' (some g) := by
  have hN := scNextYes g s a b w hs h ha
  have hK := fun w => implLineByte s[a] w
  simp only [hl] at hK
  have h8 : s[a].toNat < 256 := UInt8.toNat_lt _
  clear h hl
  go_enter Tryz.func77, Tryz.ntmps77
  go_wp2_with fail
  refine hN.mono ?_
  rintro e w1 ⟨rfl, s1, g1⟩
  have S1 := (show Hid _ from s1)
  have G1 := (show Hid _ from g1)
  clear s1 g1 hN
  go_wp2_with fail
  refine (hK _).mono ?_
  rintro e w2 ⟨rfl, rfl⟩
  go_wp2_with fail
  refine (scNeedNo g s (a + 1) b _ S1.out).mono ?_
  rintro e w3 ⟨rfl, rfl⟩
  exact ⟨rfl, rfl, G1.out⟩
set_option maxRecDepth 20000 in
set_option maxHeartbeats 2000000 in
theorem scByteYes (g : Nat) (s : ByteArray) (a b : Nat) (w : World) (hs : s.size ≤ 100000) (h : Sc R w g s a b) (ha : a < s.size) (hl : Pl.lb s[a] = true) :
    Calls Tryz.prog 77 #[scp g] w fun e w' => e = .returned (.int .u8 (s[a].toNat : Int)) ∧ Sc R w' g s (a + 1) b ∧ w.grownBy w' (some g) := by
  have hN := scNextYes g s a b w hs h ha
  have hK := fun w => implLineByte s[a] w
  simp only [hl] at hK
  have h8 : s[a].toNat < 256 := UInt8.toNat_lt _
  clear h hl
  go_enter Tryz.func77, Tryz.ntmps77
  go_wp2_with fail
  refine hN.mono ?_
  rintro e w1 ⟨rfl, s1, g1⟩
  have S1 := (show Hid _ from s1)
  have G1 := (show Hid _ from g1)
  clear s1 g1 hN
  go_wp2_with fail
  refine (hK _).mono ?_
  rintro e w2 ⟨rfl, rfl⟩
  go_wp2_with fail
  refine (scNeedYes g _).mono ?_
  rintro e w3 ⟨rfl, rfl⟩
  go_wp2
  go_ret
  exact ⟨rfl, S1.out, G1.out⟩
end Go.Proofs.YtadoifnfgoonaaaGreatDoor
namespace Go.Proofs.YtadoifnfgoonaaaGreatDoor
open Go
/-- As Q; by a goto: what is said of its label. -/
def jumpN (J : Nat → Act → World → Prop) (Q : Exit → Act → World → Prop) : Exit → Act → World → Prop
  | .goto l, a, w => J l a w
  | e, a, w => Q e a w
set_option maxRecDepth 20000 in
theorem wp_scope_many {P : Program} {a : Act} {w : World} {Q : Exit → Act → World → Prop} {c : Code} (J : Nat → Act → World → Prop) (μ : Nat → Act → World → Nat)
    (hfirst : c.wp P (jumpN J Q) a w)
    (hpass : ∀ l a w, J l a w → ∃ r, findLabel c l = some r ∧ r.wp P (jumpN (fun l' a' w' => J l' a' w' ∧ μ l' a' w' < μ l a w) Q) a w) : (Code.scope c).wp P Q a w := by
  intro b k cs
  have run : ∀ n l a w, μ l a w = n → J l a w → ∃ r, findLabel c l = some r ∧ ∃ e a' w', Q e a' w' ∧ Arrives P (lone (b.at a (.code r :: .inScope c :: k)) cs w) b k cs e a' w' := by
    intro n
    induction n using Nat.strongRecOn with
    | _ n again =>
      intro l a w hn hj
      obtain ⟨r, hr, hw⟩ := hpass l a w hj
      refine ⟨r, hr, ?_⟩
      obtain ⟨e, a1, w1, hq, ha⟩ := hw b (.inScope c :: k) cs
      cases e with
      | goto m =>
        obtain ⟨hj1, hlt⟩ := hq
        obtain ⟨r2, hr2, e2, a2, w2, hq2, ha2⟩ := again _ (by omega) m a1 w1 rfl hj1
        exact ⟨e2, a2, w2, hq2, .of_steps (ha _ (by simp [gotoIn, hr2])) ha2⟩
      | normal => exact ⟨.normal, a1, w1, hq, Steps.trans ha (.one step_inScope)⟩
      | exit i => exact ⟨.exit i, a1, w1, hq, fun k' hk => ha k' (by simp [exitTo, hk])⟩
      | ret => exact ⟨_, a1, w1, hq, ha⟩
      | panic _ => exact ⟨_, a1, w1, hq, ha⟩
      | outgrown => exact ⟨_, a1, w1, hq, ha⟩
  obtain ⟨e, a1, w1, hq, ha⟩ := hfirst b (.inScope c :: k) cs
  cases e with
  | goto m =>
    obtain ⟨r, hr, e2, a2, w2, hq2, ha2⟩ := run _ m a1 w1 rfl hq
    exact ⟨e2, a2, w2, hq2, .of_steps (.head step_scope (ha _ (by simp [gotoIn, hr]))) ha2⟩
  | normal => exact ⟨.normal, a1, w1, hq, .head step_scope (Steps.trans ha (.one step_inScope))⟩
  | exit i => exact ⟨.exit i, a1, w1, hq, fun k' hk => .head step_scope (ha k' (by simp [exitTo, hk]))⟩
  | ret => exact ⟨_, a1, w1, hq, .of_steps (.one step_scope) ha⟩
  | panic _ => exact ⟨_, a1, w1, hq, .of_steps (.one step_scope) ha⟩
  | outgrown => exact ⟨_, a1, w1, hq, .of_steps (.one step_scope) ha⟩
set_option maxRecDepth 20000 in
theorem jumpN_mono {J J' : Nat → Act → World → Prop} {Q : Exit → Act → World → Prop} (hj : ∀ l a w, J l a w → J' l a w) (e : Exit) (a : Act) (w : World) (h : jumpN J Q e a w) : jumpN J' Q e a w := by
  cases e with
  | goto l => exact hj _ _ _ h
  | _ => exact h
set_option maxRecDepth 20000 in
theorem wp_scope_from {P : Program} {a : Act} {w : World} {Q : Exit → Act → World → Prop} {c X : Code} (l0 : Nat) (J : Nat → Act → World → Prop) (μ : Nat → Act → World → Nat) (hf : findLabel c l0 = some (Code.skip.seq X))
    (hpass0 : ∀ a w, J l0 a w → X.wp P (jumpN (fun l' a' w' => J l' a' w' ∧ μ l' a' w' < μ l0 a w) Q) a w)
    (hpass : ∀ l a w, l ≠ l0 → J l a w → ∃ r, findLabel c l = some r ∧ r.wp P (jumpN (fun l' a' w' => J l' a' w' ∧ μ l' a' w' < μ l a w) Q) a w)
    (hfirst : (∀ a w, J l0 a w → X.wp P (jumpN J Q) a w) → c.wp P (jumpN J Q) a w) : (Code.scope c).wp P Q a w := by
  refine wp_scope_many J μ (hfirst fun a w h => wp_mono (hpass0 a w h) (jumpN_mono fun _ _ _ h => h.1)) ?_
  intro l a w h
  by_cases hl : l = l0
  · subst hl
    exact ⟨_, hf, wp_seq (wp_skip (hpass0 a w h))⟩
  · exact hpass l a w hl h
set_option maxRecDepth 20000 in
/-- Jumps forward alone, one on each way. -/
theorem wp_scope_once {P : Program} {a : Act} {w : World} {Q : Exit → Act → World → Prop} {c : Code} (h : c.wp P (jumpN (fun l a w => ∃ r, findLabel c l = some r ∧ r.wp P (jumpN (fun _ _ _ => False) Q) a w) Q) a w) : (Code.scope c).wp P Q a w := by
  refine wp_scope_many (fun l a w => ∃ r, findLabel c l = some r ∧ r.wp P (jumpN (fun _ _ _ => False) Q) a w) (fun _ _ _ => 0) h ?_
  rintro l a w ⟨r, hr, hw⟩
  exact ⟨r, hr, wp_mono hw (jumpN_mono fun _ _ _ h => h.elim)⟩
end Go.Proofs.YtadoifnfgoonaaaGreatDoor
namespace Go.Proofs.YtadoifnfgoonaaaGreatDoor
open Go.Lib
namespace Pl
/-- A byte that may stand in a phrase. -/
def tb (c : UInt8) : Bool := decide (32 ≤ c.toNat) && !(c == 127)
def signs : List UInt8 := [33, 35, 36, 37, 38, 39, 42, 43, 45, 47, 61, 63, 94, 95, 123, 124, 125, 126, 96]
def signs0 : List UInt8 := [33, 35, 36, 37, 38, 39, 42, 43, 45, 47, 61, 63, 94, 95, 123, 124, 125, 126]
def alnum (c : UInt8) : Bool := decide (65 ≤ c.toNat ∧ c.toNat ≤ 90) || (decide (97 ≤ c.toNat ∧ c.toNat ≤ 122) || (decide (48 ≤ c.toNat ∧ c.toNat ≤ 57) || decide (128 ≤ c.toNat)))
/-- A byte of an atom. -/
def atom (c : UInt8) : Bool := alnum c || decide (0 ≤ indexByte signs c)
def atom' (c : UInt8) : Bool := alnum c || (c == 96 || (decide (32 < c.toNat) && (decide (c.toNat < 127) && decide (0 ≤ indexByte signs0 c))))
set_option maxRecDepth 20000 in
theorem atom_all : ∀ n, n < 256 → atom (UInt8.ofNat n) = atom' (UInt8.ofNat n) := by decide +kernel
set_option maxRecDepth 20000 in
theorem atom_eq (c : UInt8) : atom' c = atom c := by
  have := atom_all c.toNat (UInt8.toNat_lt c)
  rw [UInt8.ofNat_toNat] at this
  exact this.symm
set_option maxRecDepth 20000 in
theorem atom_blank : atom 32 = false := by decide +kernel
set_option maxRecDepth 20000 in
theorem atom_point : atom 46 = false := by decide +kernel

/-- Are these atoms with one byte d between each two? The flag: an atom has begun. -/
def scan (d : UInt8) : Bool → List UInt8 → Bool
  | was, [] => was
  | was, c :: r => if atom c then scan d true r else if c == d && was then scan d false r else false
/-- Cut at each d. -/
def sp (d : UInt8) : List UInt8 → List (List UInt8)
  | [] => [[]]
  | c :: r => if c = d then [] :: sp d r else match sp d r with | h :: t => (c :: h) :: t | [] => [[c]]
def okA (p : List UInt8) : Bool := !p.isEmpty && p.all atom
set_option maxRecDepth 20000 in
theorem sp_ne (d : UInt8) (l : List UInt8) : ∃ h t, sp d l = h :: t := by
  cases l with
  | nil => exact ⟨[], [], rfl⟩
  | cons c r =>
    unfold sp
    split
    · exact ⟨_, _, rfl⟩
    · cases sp d r with
      | nil => exact ⟨_, _, rfl⟩
      | cons h t => exact ⟨_, _, rfl⟩
set_option maxRecDepth 20000 in
theorem scan_sp (d : UInt8) (hd : atom d = false) : ∀ (l h : List UInt8) (t : List (List UInt8)), sp d l = h :: t → scan d true l = (h.all atom && t.all okA) ∧ scan d false l = (okA h && t.all okA)
  | [], h, t, e => by
    simp only [sp, List.cons.injEq] at e
    obtain ⟨rfl, rfl⟩ := e
    exact ⟨rfl, rfl⟩
  | c :: r, h, t, e => by
    obtain ⟨h', t', e'⟩ := sp_ne d r
    obtain ⟨i1, i2⟩ := scan_sp d hd r h' t' e'
    by_cases hc : c = d
    · subst hc
      rw [sp, if_pos rfl, List.cons.injEq] at e
      obtain ⟨rfl, rfl⟩ := e
      constructor
      · rw [scan, if_neg (by rw [hd]; simp), if_pos (by simp), i2, e']
        rfl
      · rw [scan, if_neg (by rw [hd]; simp), if_neg (by simp)]
        rfl
    · rw [sp, if_neg hc, e'] at e
      simp only [List.cons.injEq] at e
      obtain ⟨rfl, rfl⟩ := e
      by_cases ha : atom c = true
      · constructor
        · rw [scan, if_pos ha, i1, List.all_cons, ha, Bool.true_and]
        · rw [scan, if_pos ha, i1, okA, List.all_cons, ha, Bool.true_and]
          rfl
      · rw [Bool.not_eq_true] at ha
        have hn : (c == d) = false := by simpa using hc
        constructor
        · rw [scan, if_neg (by rw [ha]; simp), hn, List.all_cons, ha]
          rfl
        · rw [scan, if_neg (by rw [ha]; simp), hn, okA, List.all_cons, ha]
          simp
set_option maxRecDepth 20000 in
theorem scan_all (d : UInt8) (hd : atom d = false) (l : List UInt8) : (sp d l).all okA = scan d false l := by
  obtain ⟨h, t, e⟩ := sp_ne d l
  rw [(scan_sp d hd l h t e).2, e, List.all_cons]
set_option maxRecDepth 20000 in
/-- The library's cut is ours. -/
theorem split_sp (d : UInt8) : ∀ l : List UInt8, splitK [d] 0 (count l [d]) l = sp d l
  | [] => by rw [count_miss (by simp [index])]; rfl
  | c :: r => by
    have ih := split_sp d r
    by_cases hc : c = d
    · subst hc
      have hix : index (c :: r) [c] = 0 := by rw [index]; simp [List.isPrefixOf]
      rw [count_cons_eq, Nat.add_comm, splitK, hix, if_neg (by decide), sp, if_pos rfl, ← ih]
      rfl
    · have hp : ([d] : List UInt8).isPrefixOf (c :: r) = false := by simp [List.isPrefixOf, Ne.symm hc]
      have hix : index (c :: r) [d] = if index r [d] == -1 then -1 else index r [d] + 1 := by rw [index, hp]; simp
      rw [count_cons_ne c d r hc, sp, if_neg hc, ← ih]
      by_cases hm : index r [d] = -1
      · rw [count_miss hm]
        rfl
      · have hge := index_ge r [d]
        obtain ⟨j, hj⟩ : ∃ j : Nat, index r [d] = j := ⟨(index r [d]).toNat, by omega⟩
        have hne : (index r [d] == -1) = false := by rw [hj]; simp
        rw [hne] at hix
        simp only [Bool.false_eq_true, if_false] at hix
        have hne2 : (index (c :: r) [d] == -1) = false := by rw [hix, hj]; simp; omega
        obtain ⟨k, hk⟩ : ∃ k, count r [d] = k + 1 := ⟨count (r.drop (j + 1)) [d], by rw [count_hit (by simp) hj]; simp; omega⟩
        rw [hk, splitK, splitK, hne, hne2, hix, hj]
        have e1 : ((j : Int) + 1).toNat = j + 1 := by omega
        simp only [Bool.false_eq_true, if_false, e1, Int.toNat_natCast, Nat.add_zero, List.take_succ_cons, List.length_cons, List.length_nil]
        rfl
/-- Quoted. -/
def qs : List UInt8 → List UInt8
  | [] => []
  | c :: r => if c == 34 || c == 92 then 92 :: c :: qs r else c :: qs r
set_option maxRecDepth 20000 in
theorem qs_esc (l p x : List UInt8) (k : Nat) (hk : k < l.length) (h : (l[k] == 34 || l[k] == 92) = true) (hp : p ++ qs (l.drop k) = x) : (p ++ [92] ++ [l[k]]) ++ qs (l.drop (k + 1)) = x := by
  rw [drop_cons l k hk, qs, if_pos h] at hp
  simpa using hp
set_option maxRecDepth 20000 in
theorem qs_plain (l p x : List UInt8) (k : Nat) (hk : k < l.length) (h : (l[k] == 34 || l[k] == 92) = false) (hp : p ++ qs (l.drop k) = x) : (p ++ [l[k]]) ++ qs (l.drop (k + 1)) = x := by
  rw [drop_cons l k hk, qs, if_neg (by rw [h]; simp)] at hp
  simpa using hp
set_option maxRecDepth 20000 in
theorem qs_done (l p x : List UInt8) (k : Nat) (hk : l.length ≤ k) (hp : p ++ qs (l.drop k) = x) : p = x := by
  rw [List.drop_eq_nil_of_le hk] at hp
  simpa [qs] using hp
def phrase (l : List UInt8) : List UInt8 := if l.all tb then (if scan 32 false l then l else 34 :: qs l ++ [34]) else []
end Pl
end Go.Proofs.YtadoifnfgoonaaaGreatDoor
