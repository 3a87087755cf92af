
/- The walks of the program's scanner: what it reads. -/
import Derived.Test.YtgabjiamabbheaaGreatDoorHeadTests
import Derived.Test.YtgabjiamabbheaaGreatDoorReadSame
import Derived.Lib.QuietBelow
import Derived.Deep.QuietTactic
import Derived.BigQuiet
import Derived.Deep.RegionWith
import Derived.WalkSmall
namespace Go.Proofs.YtgabjiamabbheaaGreatDoor
open Go.RowKit Go.Lib
/-- A scanner in memory: its text, its place, where the line began. -/
structure Sc (w : World) (g : Nat) (s : ByteArray) (a b : Nat) : Prop where
  blk : w.heap[g]? = some (.cells #[.string s, .int .i64 a, .int .i64 b] 79)
set_option maxRecDepth 20000 in
theorem Sc.c0 {w : World} {g : Nat} {s : ByteArray} {a b : Nat} (h : Sc w g s a b) : w.cell? ⟨g, 0, none⟩ = some (.string s) := by simp [World.cell?, h.blk]
set_option maxRecDepth 20000 in
theorem Sc.c1 {w : World} {g : Nat} {s : ByteArray} {a b : Nat} (h : Sc w g s a b) : w.cell? ⟨g, 1, none⟩ = some (.int .i64 a) := by simp [World.cell?, h.blk]
set_option maxRecDepth 20000 in
theorem Sc.c2 {w : World} {g : Nat} {s : ByteArray} {a b : Nat} (h : Sc w g s a b) : w.cell? ⟨g, 2, none⟩ = some (.int .i64 b) := by simp [World.cell?, h.blk]
set_option maxRecDepth 20000 in
theorem Sc.f1 {w : World} {g : Nat} {s : ByteArray} {a b : Nat} (h : Sc w g s a b) : w.frozen? ⟨g, 1, none⟩ = false := by simp [World.frozen?, h.blk]
set_option maxRecDepth 20000 in
theorem Sc.f2 {w : World} {g : Nat} {s : ByteArray} {a b : Nat} (h : Sc w g s a b) : w.frozen? ⟨g, 2, none⟩ = false := by simp [World.frozen?, h.blk]
set_option maxRecDepth 20000 in
theorem Sc.lt {w : World} {g : Nat} {s : ByteArray} {a b : Nat} (h : Sc w g s a b) : g < w.heap.size := by
  have h := h.blk
  by_cases hg : g < w.heap.size
  · exact hg
  · rw [Array.getElem?_eq_none (by omega)] at h; cases h
set_option maxRecDepth 20000 in
theorem Sc.below {w w' : World} {g : Nat} {s : ByteArray} {a b : Nat} (h : Sc w g s a b) (hb : Below w.heap.size w w') : Sc w' g s a b := by
  have := h.lt
  exact ⟨by rw [hb.block g this]; exact h.blk⟩
set_option maxRecDepth 20000 in
theorem Sc.set1 {w : World} {g : Nat} {s : ByteArray} {a b : Nat} (h : Sc w g s a b) (n : Int) (m : Nat) (hn : n = m) : Sc (w.setCell ⟨g, 1, none⟩ (.int .i64 n)) g s m b := by
  subst hn
  exact ⟨by simp [World.setCell, Array.getElem?_modify, h.blk]⟩
set_option maxRecDepth 20000 in
theorem Sc.set2 {w : World} {g : Nat} {s : ByteArray} {a b : Nat} (h : Sc w g s a b) (n : Int) (m : Nat) (hn : n = m) : Sc (w.setCell ⟨g, 2, none⟩ (.int .i64 n)) g s a m := by
  subst hn
  exact ⟨by simp [World.setCell, Array.getElem?_modify, h.blk]⟩
set_option maxRecDepth 20000 in
theorem grown_refl (w : World) (r : Option Nat) : w.grownBy w r := ⟨rfl, rfl, rfl, Nat.le_refl _, fun _ _ _ => rfl⟩
set_option maxRecDepth 20000 in
theorem grown_trans {a b c : World} {r : Option Nat} (h : a.grownBy b r) (k : b.grownBy c r) : a.grownBy c r :=
  ⟨k.os.trans h.os, k.tape.trans h.tape, k.output.trans h.output, Nat.le_trans h.size k.size, fun i hi hr => (k.block i (Nat.lt_of_lt_of_le hi h.size) hr).trans (h.block i hi hr)⟩
set_option maxRecDepth 20000 in
theorem grown_below {w w' : World} {r : Option Nat} (h : Below w.heap.size w w') : w.grownBy w' r := ⟨h.os, h.tape, h.output, h.size, fun k hk _ => h.block k hk⟩
set_option maxRecDepth 20000 in
theorem grown_set (w : World) (g j : Nat) (v : Value) : w.grownBy (w.setCell ⟨g, j, none⟩ v) (some g) := by
  refine ⟨rfl, rfl, rfl, by simp [World.setCell], ?_⟩
  intro k hk hr
  have : g ≠ k := fun e => hr (by rw [e])
  simp [World.setCell, Array.getElem?_modify, this]
/-- The place that a scanner stands at. -/
def atOf (w : World) (g : Nat) : Nat := match w.cell? ⟨g, 1, none⟩ with | some (.int _ n) => n.toNat | _ => 0
set_option maxRecDepth 20000 in
theorem Sc.at {w : World} {g : Nat} {s : ByteArray} {a b : Nat} (h : Sc w g s a b) : atOf w g = a := by simp [atOf, h.c1]
abbrev scp (g : Nat) : Value := .pointer (some ⟨g, 0, none⟩)
set_option maxRecDepth 20000 in
theorem scEnded (g : Nat) (s : ByteArray) (a b : Nat) (w : World) (h : Sc w g s a b) :
    Calls Tryz.prog 75 #[scp g] w fun e w' => e = .returned (.bool ((a : Int) == (s.size : Int))) ∧ Below w.heap.size w w' := by
  have c0 := h.c0
  have c1 := h.c1
  clear h
  go_enter Tryz.func75, Tryz.ntmps75
  go_wp2
  go_quiet (fail)
  go_wp2
  go_ret
  exact ⟨rfl, below_drewN (Below.refl _ _) _⟩
set_option maxRecDepth 20000 in
theorem scFail (g : Nat) (s : ByteArray) (a b : Nat) (w : World) (h : Sc w g s a b) :
    Calls Tryz.prog 130 #[scp g] w fun e w' => e = .panicked [{ v := .iface 75 (.agg #[.int .i64 3, .int .i64 b]), recovered := false }] ∧ w' = w := by
  have c2 := h.c2
  clear h
  go_enter Tryz.func130, Tryz.ntmps130
  go_wp2
  exact ⟨rfl, rfl, rfl⟩
set_option maxRecDepth 20000 in
set_option maxHeartbeats 2000000 in
theorem scPass {f : FuncId} {K : UInt8 → Bool} (hK : Kind f K) (g : Nat) (s : ByteArray) (a b : Nat) (w : World) (hs : s.size ≤ 100000) (ha : a ≤ s.size) (h : Sc w g s a b) :
    Calls Tryz.prog 101 #[scp g, .func (.func f) #[] #[]] w fun e w' => e = .returned (.string (s.extract a (Pl.stop K s.data.toList a))) ∧ Sc w' g s (Pl.stop K s.data.toList a) b ∧ w.grownBy w' (some g) := by
  have hE := hK.enters
  have HC := (show Hid _ from hK.calls)
  obtain ⟨Z, hZ⟩ : ∃ Z, Pl.stop K s.data.toList a = Z := ⟨_, rfl⟩
  rw [hZ]
  have HZ := (show Hid _ from hZ)
  have Hsc := (show Hid _ from h)
  have c1 := h.c1
  clear hZ h
  go_enter Tryz.func101, Tryz.ntmps101
  go_wp2
  clear c1
  go_loopw [10] (fun _ wr => ∃ k : Nat, a ≤ k ∧ k ≤ s.size ∧ Hid (Pl.stop K s.data.toList k = Z) ∧ Hid (Sc wr g s k b) ∧ Hid (w.grownBy wr (some g))) (fun _ wr => s.size - atOf wr g)
  case atStart => exact ⟨a, Nat.le_refl _, ha, HZ, Hsc, grown_refl _ _⟩
  case round =>
    clear HZ Hsc
    obtain ⟨k, hak, hk, HZ, Hsc, Hg⟩ := hrel
    have c0 := Hsc.out.c0
    have c1 := Hsc.out.c1
    have k0 := cell_regrown c0
    have k1 := cell_regrown c1
    have cE : ∀ d os, Calls Tryz.prog 75 #[scp g] (Go.Sort.grow (redrawn wr d) os) fun e w'' => e = .returned (.bool ((k : Int) == (s.size : Int))) ∧ ∃ p : Regrown, w'' = Go.Sort.grow (redrawn wr p.d) p.os := fun d os => Calls.regrown_of (scEnded g s k b _ (Hsc.out.below (below_regrown wr d os)))
    by_cases hlt : k < s.size
    · have hne : ((k : Int) == (s.size : Int)) = false := by simp; omega
      simp only [hne] at cE
      have h8 : s[k].toNat < 256 := UInt8.toNat_lt _
      have hkI : (k : Int) < (s.size : Int) := by omega
      have cK : ∀ d os, Calls Tryz.prog f #[.int .u8 (s[k].toNat : Int)] (Go.Sort.grow (redrawn wr d) os) fun e w'' => e = .returned (.bool (K s[k])) ∧ ∃ p : Regrown, w'' = Go.Sort.grow (redrawn wr p.d) p.os := fun d os => Calls.regrown_of ((HC.out s[k] _).mono fun e w' ⟨he, hw⟩ => ⟨he, by rw [← hw]; exact Below.refl _ _⟩)
      have hkb : Hid (Pl.b s.data.toList k = s[k]) := Pl.b_lt _ k (by simpa using hlt)
      cases hkc : K s[k] <;> simp only [hkc] at cK
      · have hst : Hid (Z = k) := show _ = _ from by
          rw [← HZ.out]
          exact Pl.stop_eq K _ k k (Nat.le_refl _) (by simp; omega) (fun j h1 h2 => by omega) (fun _ => by rw [hkb.out]; exact hkc)
        clear hkc HZ
        go_wp2
        refine wp_region_quiet_below (by kernel_rfl) (by kernel_rfl) ?_
        quiet_step (fail)
        quiet_step (exact cE _ _)
        iterate 12 (quiet_step (fail))
        quiet_step (exact cK _ _)
        repeat (quiet_step (fail))
        refine wpQuiet_nil ?_
        intro _ hw'
        obtain ⟨⟨dq, osq⟩, hw''⟩ := hw'
        subst hw''
        have hbq := below_regrown wr dq osq
        have Hs2 := (show Hid _ from Hsc.out.below hbq)
        have Hg2 := (show Hid _ from grown_trans Hg.out (grown_below hbq))
        generalize Go.Sort.grow (redrawn wr dq) osq = wq at *
        clear c0 c1 k0 k1 cE cK hbq
        have c0 := Hs2.out.c0
        have c1 := Hs2.out.c1
        have k0 := cell_regrown c0
        have k1 := cell_regrown c1
        have f1 : (k : Int) ≤ (s.size : Int) := by omega
        have f2 : (a : Int) ≤ (k : Int) := by omega
        have cL : ∀ d os, Calls Tryz.prog 84 #[.string (s.extract a k)] (Go.Sort.grow (redrawn wq d) os) fun e w'' => e = .returned (.string (s.extract a k)) ∧ ∃ p : Regrown, w'' = Go.Sort.grow (redrawn wq p.d) p.os := fun d os => Calls.regrown_of (libClone _ _ (by rw [ByteArray.size_extract]; omega))
        go_wp2
        refine wp_region_quiet_below (by kernel_rfl) (by kernel_rfl) ?_
        iterate 10 (quiet_step (fail))
        quiet_step (exact cL _ _)
        repeat (quiet_step (fail))
        refine wpQuiet_nil ?_
        intro _ hw'
        obtain ⟨⟨dr, osr⟩, hw''⟩ := hw'
        subst hw''
        have hbr := below_regrown wq dr osr
        go_wp2
        go_ret
        rw [hst.out]
        exact ⟨rfl, Hs2.out.below hbr, grown_trans Hg2.out (grown_below hbr)⟩
      · have hst : Hid (Pl.stop K s.data.toList (k + 1) = Z) := show _ = _ from by
          rw [← HZ.out]
          exact Pl.first_miss _ _ k (by simpa using hlt) (by rw [hkb.out, hkc]; rfl)
        clear hkc HZ
        go_wp2
        refine wp_region_quiet_below (by kernel_rfl) (by kernel_rfl) ?_
        quiet_step (fail)
        quiet_step (exact cE _ _)
        iterate 12 (quiet_step (fail))
        quiet_step (exact cK _ _)
        repeat (quiet_step (fail))
        refine wpQuiet_nil ?_
        intro _ hw'
        obtain ⟨⟨dq, osq⟩, hw''⟩ := hw'
        subst hw''
        have hbq := below_regrown wr dq osq
        have Hs2 := (show Hid _ from Hsc.out.below hbq)
        have Hg2 := (show Hid _ from grown_trans Hg.out (grown_below hbq))
        have hat : Hid (atOf wr g = k) := Hsc.out.at
        generalize Go.Sort.grow (redrawn wr dq) osq = wq at *
        clear c0 c1 k0 k1 cE cK hbq
        have c1 := Hs2.out.c1
        have f1 := Hs2.out.f1
        go_wp2
        go_roundw
        case rel => exact ⟨k + 1, by omega, by omega, hst, Hs2.out.set1 _ _ (by omega), grown_trans Hg2.out (grown_set _ _ _ _)⟩
        case measure =>
          have := (Hs2.out.set1 ((k : Int) + 1) (k + 1) (by omega)).at
          rw [hat.out, this]
          omega
    · have hkk : k = s.size := by omega
      have hst : Hid (Z = k) := show _ = _ from by
        rw [← HZ.out]
        exact Pl.first_end _ _ _ (by simp; omega)
      obtain ⟨bE, hbE⟩ : ∃ bE, ((k : Int) == (s.size : Int)) = bE := ⟨_, rfl⟩
      have Hb : Hid (bE = true) := show _ = _ from by rw [← hbE]; simp; omega
      simp only [hbE] at cE
      have f1 : (k : Int) ≤ (s.size : Int) := by omega
      have f2 : (a : Int) ≤ (k : Int) := by omega
      have hce : (s.extract a k).size ≤ 1100000 := by rw [ByteArray.size_extract]; omega
      clear HZ hkk hbE hlt hk hak
      go_wp2
      refine wp_region_quiet_below (by kernel_rfl) (by kernel_rfl) ?_
      quiet_step (fail)
      quiet_step (exact cE _ _)
      quiet_step (fail)
      quiet_step (fail)
      iterate 11 (refine BigFrame.wpQuiet_skip (by obtain rfl : bE = true := Hb.out; rfl) ?_; go_simp)
      obtain rfl : bE = true := Hb.out
      quiet_step (fail)
      refine wpQuiet_nil ?_
      rintro ⟨dq, osq⟩
      simp only
      have hbq := below_regrown wr dq osq
      have Hs2 := (show Hid _ from Hsc.out.below hbq)
      have Hg2 := (show Hid _ from grown_trans Hg.out (grown_below hbq))
      generalize Go.Sort.grow (redrawn wr dq) osq = wq at *
      clear c0 c1 k0 k1 cE hbq
      have c0 := Hs2.out.c0
      have c1 := Hs2.out.c1
      have k0 := cell_regrown c0
      have k1 := cell_regrown c1
      have cL : ∀ d os, Calls Tryz.prog 84 #[.string (s.extract a k)] (Go.Sort.grow (redrawn wq d) os) fun e w'' => e = .returned (.string (s.extract a k)) ∧ ∃ p : Regrown, w'' = Go.Sort.grow (redrawn wq p.d) p.os := fun d os => Calls.regrown_of (libClone _ _ hce)
      go_wp2
      refine wp_region_quiet_below (by kernel_rfl) (by kernel_rfl) ?_
      iterate 10 (quiet_step (fail))
      quiet_step (exact cL _ _)
      repeat (quiet_step (fail))
      refine wpQuiet_nil ?_
      intro _ hw'
      obtain ⟨⟨dr, osr⟩, hw''⟩ := hw'
      subst hw''
      have hbr := below_regrown wq dr osr
      go_wp2
      go_ret
      rw [hst.out]
      exact ⟨rfl, Hs2.out.below hbr, grown_trans Hg2.out (grown_below hbr)⟩
end Go.Proofs.YtgabjiamabbheaaGreatDoor
