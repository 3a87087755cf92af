
/- The walks of the program's scanner: what it reads. -/

/- The walks of the program's scanner: line ends, folds, a byte of a line. -/

/- Lists of a filter's nodes: made anew, held against one another. -/

/- Lists of a filter's nodes held against one another; as an argument. -/

/- What a filter's node may be: plain, and the specification's tests. -/

/- What a node's fields may be, on the specification's side. -/

/- What a node's fields may be, on the specification's side: the kinds with lists of texts; all kinds. -/

/- What a node's kids may be, on the specification's side. -/
import Derived.Test.YtlphojaeaogehaaGreatDoorHeadTests
import Derived.Test.YtlphojaeaogehaaGreatDoorReadSame
import Derived.Lib.QuietBelow
import Derived.Deep.QuietTactic
import Derived.BigQuiet
import Derived.Deep.RegionWith
import Derived.WalkSmall
import Derived.Test.YtlphojaeaogehaaGreatDoorRfParse
namespace Go.Proofs.YtlphojaeaogehaaGreatDoor
open Go.RowKit Go.Lib
/- A scanner in memory: its text, its place, where the line began. -/
variable {R : List Value × TypeId}
/-- R: what lies behind it in its block, and the block's type. -/
structure Sc (R : List Value × TypeId) (w : World) (g : Nat) (s : ByteArray) (a b : Nat) : Prop where
  blk : w.heap[g]? = some (.cells (.string s :: .int .i64 a :: .int .i64 b :: R.1).toArray R.2)
set_option maxRecDepth 20000 in
theorem Sc.c0 {w : World} {g : Nat} {s : ByteArray} {a b : Nat} (h : Sc R w g s a b) : w.cell? ⟨g, 0, none⟩ = some (.string s) := by simp [World.cell?, h.blk]
set_option maxRecDepth 20000 in
theorem Sc.c1 {w : World} {g : Nat} {s : ByteArray} {a b : Nat} (h : Sc R w g s a b) : w.cell? ⟨g, 1, none⟩ = some (.int .i64 a) := by simp [World.cell?, h.blk]
set_option maxRecDepth 20000 in
theorem Sc.c2 {w : World} {g : Nat} {s : ByteArray} {a b : Nat} (h : Sc R w g s a b) : w.cell? ⟨g, 2, none⟩ = some (.int .i64 b) := by simp [World.cell?, h.blk]
set_option maxRecDepth 20000 in
theorem Sc.f1 {w : World} {g : Nat} {s : ByteArray} {a b : Nat} (h : Sc R w g s a b) : w.frozen? ⟨g, 1, none⟩ = false := by simp [World.frozen?, h.blk]
set_option maxRecDepth 20000 in
theorem Sc.f2 {w : World} {g : Nat} {s : ByteArray} {a b : Nat} (h : Sc R w g s a b) : w.frozen? ⟨g, 2, none⟩ = false := by simp [World.frozen?, h.blk]
set_option maxRecDepth 20000 in
theorem Sc.lt {w : World} {g : Nat} {s : ByteArray} {a b : Nat} (h : Sc R w g s a b) : g < w.heap.size := by
  have h := h.blk
  by_cases hg : g < w.heap.size
  · exact hg
  · rw [Array.getElem?_eq_none (by omega)] at h; cases h
set_option maxRecDepth 20000 in
theorem Sc.below {w w' : World} {g : Nat} {s : ByteArray} {a b : Nat} (h : Sc R w g s a b) (hb : Below w.heap.size w w') : Sc R w' g s a b := by
  have := h.lt
  exact ⟨by rw [hb.block g this]; exact h.blk⟩
set_option maxRecDepth 20000 in
theorem Sc.set1 {w : World} {g : Nat} {s : ByteArray} {a b : Nat} (h : Sc R w g s a b) (n : Int) (m : Nat) (hn : n = m) : Sc R (w.setCell ⟨g, 1, none⟩ (.int .i64 n)) g s m b := by
  subst hn
  exact ⟨by simp [World.setCell, Array.getElem?_modify, h.blk]⟩
set_option maxRecDepth 20000 in
theorem Sc.set2 {w : World} {g : Nat} {s : ByteArray} {a b : Nat} (h : Sc R w g s a b) (n : Int) (m : Nat) (hn : n = m) : Sc R (w.setCell ⟨g, 2, none⟩ (.int .i64 n)) g s a m := by
  subst hn
  exact ⟨by simp [World.setCell, Array.getElem?_modify, h.blk]⟩
set_option maxRecDepth 20000 in
theorem grown_refl (w : World) (r : Option Nat) : w.grownBy w r := ⟨rfl, rfl, rfl, Nat.le_refl _, fun _ _ _ => rfl⟩
set_option maxRecDepth 20000 in
theorem grown_trans {a b c : World} {r : Option Nat} (h : a.grownBy b r) (k : b.grownBy c r) : a.grownBy c r :=
  ⟨k.os.trans h.os, k.tape.trans h.tape, k.output.trans h.output, Nat.le_trans h.size k.size, fun i hi hr => (k.block i (Nat.lt_of_lt_of_le hi h.size) hr).trans (h.block i hi hr)⟩
set_option maxRecDepth 20000 in
theorem grown_below {w w' : World} {r : Option Nat} (h : Below w.heap.size w w') : w.grownBy w' r := ⟨h.os, h.tape, h.output, h.size, fun k hk _ => h.block k hk⟩
set_option maxRecDepth 20000 in
theorem grown_set (w : World) (g j : Nat) (v : Value) : w.grownBy (w.setCell ⟨g, j, none⟩ v) (some g) := by
  refine ⟨rfl, rfl, rfl, by simp [World.setCell], ?_⟩
  intro k hk hr
  have : g ≠ k := fun e => hr (by rw [e])
  simp [World.setCell, Array.getElem?_modify, this]
/-- The place that a scanner stands at. -/
def atOf (w : World) (g : Nat) : Nat := match w.cell? ⟨g, 1, none⟩ with | some (.int _ n) => n.toNat | _ => 0
set_option maxRecDepth 20000 in
theorem Sc.at {w : World} {g : Nat} {s : ByteArray} {a b : Nat} (h : Sc R w g s a b) : atOf w g = a := by simp [atOf, h.c1]
abbrev scp (g : Nat) : Value := .pointer (some ⟨g, 0, none⟩)
set_option maxRecDepth 20000 in
theorem scEnded (g : Nat) (s : ByteArray) (a b : Nat) (w : World) (h : Sc R w g s a b) :
    Calls Tryz.prog 72 #[scp g] w fun e w' => e = .returned (.bool ((a : Int) == (s.size : Int))) ∧ Below w.heap.size w w' := by
  have c0 := h.c0
  have c1 := h.c1
  clear h
  go_enter Tryz.func72, Tryz.ntmps72
  go_wp2
  go_quiet (fail)
  go_wp2
  go_ret
  exact ⟨rfl, below_drewN (Below.refl _ _) _⟩
set_option maxRecDepth 20000 in
theorem scFail (g : Nat) (s : ByteArray) (a b : Nat) (w : World) (h : Sc R w g s a b) :
    Calls Tryz.prog 83 #[scp g] w fun e w' => e = .panicked [{ v := .iface 44 (.agg #[.int .i64 3, .int .i64 b]), recovered := false }] ∧ w' = w := by
  have c2 := h.c2
  clear h
  go_enter Tryz.func83, Tryz.ntmps83
  go_wp2
  exact ⟨rfl, rfl, rfl⟩
set_option maxRecDepth 20000 in
set_option maxHeartbeats 2000000 in
theorem scPass {f : FuncId} {K : UInt8 → Bool} (hK : Kind f K) (g : Nat) (s : ByteArray) (a b : Nat) (w : World) (hs : s.size ≤ 100000) (ha : a ≤ s.size) (h : Sc R w g s a b) :
    Calls Tryz.prog 70 #[scp g, .func (.func f) #[] #[]] w fun e w' => e = .returned (.string (s.extract a (Pl.stop K s.data.toList a))) ∧ Sc R w' g s (Pl.stop K s.data.toList a) b ∧ w.grownBy w' (some g) := by
  have hE := hK.enters
  have HC := (show Hid _ from hK.calls)
  obtain ⟨Z, hZ⟩ : ∃ Z, Pl.stop K s.data.toList a = Z := ⟨_, rfl⟩
  rw [hZ]
  have HZ := (show Hid _ from hZ)
  have Hsc := (show Hid _ from h)
  have c1 := h.c1
  clear hZ h
  go_enter Tryz.func70, Tryz.ntmps70
  go_wp2
  clear c1
  go_loopw [10] (fun _ wr => ∃ k : Nat, a ≤ k ∧ k ≤ s.size ∧ Hid (Pl.stop K s.data.toList k = Z) ∧ Hid (Sc R wr g s k b) ∧ Hid (w.grownBy wr (some g))) (fun _ wr => s.size - atOf wr g)
  case atStart => exact ⟨a, Nat.le_refl _, ha, HZ, Hsc, grown_refl _ _⟩
  case round =>
    clear HZ Hsc
    obtain ⟨k, hak, hk, HZ, Hsc, Hg⟩ := hrel
    have c0 := Hsc.out.c0
    have c1 := Hsc.out.c1
    have k0 := cell_regrown c0
    have k1 := cell_regrown c1
    have cE : ∀ d os, Calls Tryz.prog 72 #[scp g] (Go.Sort.grow (redrawn wr d) os) fun e w'' => e = .returned (.bool ((k : Int) == (s.size : Int))) ∧ ∃ p : Regrown, w'' = Go.Sort.grow (redrawn wr p.d) p.os := fun d os => Calls.regrown_of (scEnded g s k b _ (Hsc.out.below (below_regrown wr d os)))
    by_cases hlt : k < s.size
    · have hne : ((k : Int) == (s.size : Int)) = false := by simp; omega
      simp only [hne] at cE
      have h8 : s[k].toNat < 256 := UInt8.toNat_lt _
      have hkI : (k : Int) < (s.size : Int) := by omega
      have cK : ∀ d os, Calls Tryz.prog f #[.int .u8 (s[k].toNat : Int)] (Go.Sort.grow (redrawn wr d) os) fun e w'' => e = .returned (.bool (K s[k])) ∧ ∃ p : Regrown, w'' = Go.Sort.grow (redrawn wr p.d) p.os := fun d os => Calls.regrown_of ((HC.out s[k] _).mono fun e w' ⟨he, hw⟩ => ⟨he, by rw [← hw]; exact Below.refl _ _⟩)
      have hkb : Hid (Pl.b s.data.toList k = s[k]) := Pl.b_lt _ k (by simpa using hlt)
      cases hkc : K s[k] <;> simp only [hkc] at cK
      · have hst : Hid (Z = k) := show _ = _ from by
          rw [← HZ.out]
          exact Pl.stop_eq K _ k k (Nat.le_refl _) (by simp; omega) (fun j h1 h2 => by omega) (fun _ => by rw [hkb.out]; exact hkc)
        clear hkc HZ
        go_wp2
        refine wp_region_quiet_below (by kernel_rfl) (by kernel_rfl) ?_
        quiet_step (fail)
        quiet_step (exact cE _ _)
        iterate 12 (quiet_step (fail))
        quiet_step (exact cK _ _)
        repeat (quiet_step (fail))
        refine wpQuiet_nil ?_
        intro _ hw'
        obtain ⟨⟨dq, osq⟩, hw''⟩ := hw'
        subst hw''
        have hbq := below_regrown wr dq osq
        have Hs2 := (show Hid _ from Hsc.out.below hbq)
        have Hg2 := (show Hid _ from grown_trans Hg.out (grown_below hbq))
        generalize Go.Sort.grow (redrawn wr dq) osq = wq at *
        clear c0 c1 k0 k1 cE cK hbq
        have c0 := Hs2.out.c0
        have c1 := Hs2.out.c1
        have k0 := cell_regrown c0
        have k1 := cell_regrown c1
        have f1 : (k : Int) ≤ (s.size : Int) := by omega
        have f2 : (a : Int) ≤ (k : Int) := by omega
        have cL : ∀ d os, Calls Tryz.prog 89 #[.string (s.extract a k)] (Go.Sort.grow (redrawn wq d) os) fun e w'' => e = .returned (.string (s.extract a k)) ∧ ∃ p : Regrown, w'' = Go.Sort.grow (redrawn wq p.d) p.os := fun d os => Calls.regrown_of (libClone _ _ (by rw [ByteArray.size_extract]; omega))
        go_wp2
        refine wp_region_quiet_below (by kernel_rfl) (by kernel_rfl) ?_
        iterate 10 (quiet_step (fail))
        quiet_step (exact cL _ _)
        repeat (quiet_step (fail))
        refine wpQuiet_nil ?_
        intro _ hw'
        obtain ⟨⟨dr, osr⟩, hw''⟩ := hw'
        subst hw''
        have hbr := below_regrown wq dr osr
        go_wp2
        go_ret
        rw [hst.out]
        exact ⟨rfl, Hs2.out.below hbr, grown_trans Hg2.out (grown_below hbr)⟩
      · have hst : Hid (Pl.stop K s.data.toList (k + 1) = Z) := show _ = _ from by
          rw [← HZ.out]
          exact Pl.first_miss _ _ k (by simpa using hlt) (by rw [hkb.out, hkc]; rfl)
        clear hkc HZ
        go_wp2
        refine wp_region_quiet_below (by kernel_rfl) (by kernel_rfl) ?_
        quiet_step (fail)
        quiet_step (exact cE _ _)
        iterate 12 (quiet_step (fail))
        quiet_step (exact cK _ _)
        repeat (quiet_step (fail))
        refine wpQuiet_nil ?_
        intro _ hw'
        obtain ⟨⟨dq, osq⟩, hw''⟩ := hw'
        subst hw''
        have hbq := below_regrown wr dq osq
        have Hs2 := (show Hid _ from Hsc.out.below hbq)
        have Hg2 := (show Hid _ from grown_trans Hg.out (grown_below hbq))
        have hat : Hid (atOf wr g = k) := Hsc.out.at
        generalize Go.Sort.grow (redrawn wr dq) osq = wq at *
        clear c0 c1 k0 k1 cE cK hbq
        have c1 := Hs2.out.c1
        have f1 := Hs2.out.f1
        go_wp2
        go_roundw
        case rel => exact ⟨k + 1, by omega, by omega, hst, Hs2.out.set1 _ _ (by omega), grown_trans Hg2.out (grown_set _ _ _ _)⟩
        case measure =>
          have := (Hs2.out.set1 ((k : Int) + 1) (k + 1) (by omega)).at
          rw [hat.out, this]
          omega
    · have hkk : k = s.size := by omega
      have hst : Hid (Z = k) := show _ = _ from by
        rw [← HZ.out]
        exact Pl.first_end _ _ _ (by simp; omega)
      obtain ⟨bE, hbE⟩ : ∃ bE, ((k : Int) == (s.size : Int)) = bE := ⟨_, rfl⟩
      have Hb : Hid (bE = true) := show _ = _ from by rw [← hbE]; simp; omega
      simp only [hbE] at cE
      have f1 : (k : Int) ≤ (s.size : Int) := by omega
      have f2 : (a : Int) ≤ (k : Int) := by omega
      have hce : (s.extract a k).size ≤ 1100000 := by rw [ByteArray.size_extract]; omega
      clear HZ hkk hbE hlt hk hak
      go_wp2
      refine wp_region_quiet_below (by kernel_rfl) (by kernel_rfl) ?_
      quiet_step (fail)
      quiet_step (exact cE _ _)
      quiet_step (fail)
      quiet_step (fail)
      iterate 11 (refine BigFrame.wpQuiet_skip (by obtain rfl : bE = true := Hb.out; rfl) ?_; go_simp)
      obtain rfl : bE = true := Hb.out
      quiet_step (fail)
      refine wpQuiet_nil ?_
      rintro ⟨dq, osq⟩
      simp only
      have hbq := below_regrown wr dq osq
      have Hs2 := (show Hid _ from Hsc.out.below hbq)
      have Hg2 := (show Hid _ from grown_trans Hg.out (grown_below hbq))
      generalize Go.Sort.grow (redrawn wr dq) osq = wq at *
      clear c0 c1 k0 k1 cE hbq
      have c0 := Hs2.out.c0
      have c1 := Hs2.out.c1
      have k0 := cell_regrown c0
      have k1 := cell_regrown c1
      have cL : ∀ d os, Calls Tryz.prog 89 #[.string (s.extract a k)] (Go.Sort.grow (redrawn wq d) os) fun e w'' => e = .returned (.string (s.extract a k)) ∧ ∃ p : Regrown, w'' = Go.Sort.grow (redrawn wq p.d) p.os := fun d os => Calls.regrown_of (libClone _ _ hce)
      go_wp2
      refine wp_region_quiet_below (by kernel_rfl) (by kernel_rfl) ?_
      iterate 10 (quiet_step (fail))
      quiet_step (exact cL _ _)
      repeat (quiet_step (fail))
      refine wpQuiet_nil ?_
      intro _ hw'
      obtain ⟨⟨dr, osr⟩, hw''⟩ := hw'
      subst hw''
      have hbr := below_regrown wq dr osr
      go_wp2
      go_ret
      rw [hst.out]
      exact ⟨rfl, Hs2.out.below hbr, grown_trans Hg2.out (grown_below hbr)⟩
end Go.Proofs.YtlphojaeaogehaaGreatDoor
namespace Go.Proofs.YtlphojaeaogehaaGreatDoor
open Go.RowKit Go.Lib
variable {R : List Value × TypeId}
set_option maxRecDepth 20000 in
theorem scNeedYes (g : Nat) (w : World) :
    Calls Tryz.prog 59 #[scp g, .bool true] w fun e w' => e = .returned (.tuple #[]) ∧ w' = w := by
  go_enter Tryz.func59, Tryz.ntmps59
  go_wp2
  exact bodyPost_end (v := .tuple #[]) (results_none Tryz.results59 _ _ _) rfl ⟨rfl, rfl⟩
set_option maxRecDepth 20000 in
theorem scNeedNo (g : Nat) (s : ByteArray) (a b : Nat) (w : World) (h : Sc R w g s a b) :
    Calls Tryz.prog 59 #[scp g, .bool false] w fun e w' => e = .panicked [{ v := .iface 44 (.agg #[.int .i64 3, .int .i64 b]), recovered := false }] ∧ w' = w := by
  have Hsc := (show Hid _ from h)
  clear h
  go_enter Tryz.func59, Tryz.ntmps59
  go_wp2_with fail
  refine (scFail g s a b w Hsc.out).mono ?_
  rintro e w3 ⟨rfl, rfl⟩
  exact ⟨rfl, rfl, rfl⟩
set_option maxRecDepth 20000 in
set_option maxHeartbeats 2000000 in
theorem scNextEnd (g : Nat) (s : ByteArray) (a b : Nat) (w : World) (h : Sc R w g s a b) (ha : a = s.size) :
    Calls Tryz.prog 78 #[scp g] w fun e w' => e = .panicked [{ v := .iface 44 (.agg #[.int .i64 3, .int .i64 b]), recovered := false }] ∧ Below w.heap.size w w' := by
  have hEn := scEnded g s a b w h
  rw [show ((a : Int) == (s.size : Int)) = true from by simp; omega] at hEn
  have Hsc := (show Hid _ from h)
  clear h ha
  go_enter Tryz.func78, Tryz.ntmps78
  go_wp2_with fail
  refine hEn.mono ?_
  rintro e w1 ⟨rfl, hb1⟩
  have S1 := (show Hid _ from Hsc.out.below hb1)
  go_wp2_with fail
  refine (scNeedNo g s a b w1 S1.out).mono ?_
  rintro e w2 ⟨rfl, rfl⟩
  exact ⟨rfl, rfl, hb1⟩
set_option maxRecDepth 20000 in
set_option maxHeartbeats 2000000 in
theorem scNextYes (g : Nat) (s : ByteArray) (a b : Nat) (w : World) (hs : s.size ≤ 100000) (h : Sc R w g s a b) (ha : a < s.size) :
    Calls Tryz.prog 78 #[scp g] w fun e w' => e = .returned (.int .u8 (s[a].toNat : Int)) ∧ Sc R w' g s (a + 1) b ∧ w.grownBy w' (some g) := by
  have hEn := scEnded g s a b w h
  rw [show ((a : Int) == (s.size : Int)) = false from by simp; omega] at hEn
  have Hsc := (show Hid _ from h)
  have h8 : s[a].toNat < 256 := UInt8.toNat_lt _
  have hkI : (a : Int) < (s.size : Int) := by omega
  clear h
  go_enter Tryz.func78, Tryz.ntmps78
  go_wp2_with fail
  refine hEn.mono ?_
  rintro e w1 ⟨rfl, hb1⟩
  have S1 := (show Hid _ from Hsc.out.below hb1)
  have G1 := (show Hid _ from grown_below (r := some g) hb1)
  clear hb1 hEn
  go_wp2_with fail
  refine (scNeedYes g w1).mono ?_
  rintro e w2 ⟨rfl, rfl⟩
  have c1 := S1.out.c1
  have f1 := S1.out.f1
  have Hs3 := (show Hid _ from S1.out.set1 ((a : Int) + 1) (a + 1) (by omega))
  have Hg3 := (show Hid _ from grown_trans G1.out (grown_set w2 g 1 (.int .i64 ((a : Int) + 1))))
  go_wp2
  clear c1 f1
  generalize w2.setCell ⟨g, 1, none⟩ (.int .i64 ((a : Int) + 1)) = wz at *
  have e0 := Hs3.out.c0
  have e1 := Hs3.out.c1
  go_quiet (fail)
  have hbz := below_drewN (Below.refl wz.heap.size wz) nq
  go_wp2
  go_ret
  exact ⟨rfl, Hs3.out.below hbz, grown_trans Hg3.out (grown_below hbz)⟩
end Go.Proofs.YtlphojaeaogehaaGreatDoor
namespace Go.Proofs.YtlphojaeaogehaaGreatDoor
open Go.RowKit Go.Lib Go.Maps
set_option maxRecDepth 20000 in
theorem grN_refl (w : World) (r : Option Nat) : w.grownBy w r := ⟨rfl, rfl, rfl, Nat.le_refl _, fun _ _ _ => rfl⟩
set_option maxRecDepth 20000 in
theorem grN_trans {a b c : World} {r : Option Nat} (h : a.grownBy b r) (k : b.grownBy c r) : a.grownBy c r :=
  ⟨k.os.trans h.os, k.tape.trans h.tape, k.output.trans h.output, Nat.le_trans h.size k.size, fun i hi hr => (k.block i (Nat.lt_of_lt_of_le hi h.size) hr).trans (h.block i hi hr)⟩
set_option maxRecDepth 20000 in
theorem grN_below {w w' : World} {r : Option Nat} (h : Below w.heap.size w w') : w.grownBy w' r := ⟨h.os, h.tape, h.output, h.size, fun k hk _ => h.block k hk⟩
set_option maxRecDepth 20000 in
theorem grN_set (w : World) (g j : Nat) (v : Value) : w.grownBy (w.setCell ⟨g, j, none⟩ v) (some g) :=
  ⟨rfl, rfl, rfl, by simp [World.setCell], fun k _ hr => hp_setN _ _ _ _ _ (fun e => hr (by rw [e]))⟩
set_option maxRecDepth 20000 in
theorem cell_gr {w w' : World} {G g k : Nat} {v : Value} (h : w.grownBy w' (some G)) (hne : g ≠ G) (hc : w.cell? ⟨g, k, none⟩ = some v) : w'.cell? ⟨g, k, none⟩ = some v := by
  have hlt : g < w.heap.size := World.block_lt_of_cell? _ _ hc
  rw [← hc]
  unfold World.cell?
  rw [show (⟨g, k, none⟩ : Addr).block = g from rfl, h.block g hlt (by intro e; exact hne (Option.some.inj e))]
/-- The lists of a node that was made, in blocks beside G. -/
structure Md (G B : Nat) (w : World) (n : Nd) (g1 g2 g3 : Nat) : Prop where
  n1 : G < g1
  n2 : G < g2
  n3 : G < g3
  t1 : Tx B w (some ⟨g1, 0, none⟩) n.names
  t2 : Tx B w (some ⟨g2, 0, none⟩) n.keys
  t3 : Ints B w (some ⟨g3, 0, none⟩) n.kids
set_option maxRecDepth 20000 in
theorem Md.gr {G B : Nat} {w w' : World} {n : Nd} {g1 g2 g3 : Nat} (h : Md G B w n g1 g2 g3) (hg : w.grownBy w' (some G)) : Md G B w' n g1 g2 g3 := by
  have h1 := h.n1
  have h2 := h.n2
  have h3 := h.n3
  refine ⟨h1, h2, h3, ?_, ?_, ?_⟩
  · intro k hk
    obtain ⟨a, e, ha, hc⟩ := h.t1 k hk
    cases e
    rw [add_off] at hc
    exact ⟨_, rfl, ha, by rw [add_off]; exact cell_gr hg (by omega) hc⟩
  · intro k hk
    obtain ⟨a, e, ha, hc⟩ := h.t2 k hk
    cases e
    rw [add_off] at hc
    exact ⟨_, rfl, ha, by rw [add_off]; exact cell_gr hg (by omega) hc⟩
  · intro k hk
    obtain ⟨a, e, ha, hc⟩ := h.t3 k hk
    cases e
    rw [add_off] at hc
    exact ⟨_, rfl, ha, by rw [add_off]; exact cell_gr hg (by omega) hc⟩
set_option maxRecDepth 20000 in
theorem Md.mono {G B B' : Nat} {w : World} {n : Nd} {g1 g2 g3 : Nat} (h : Md G B w n g1 g2 g3) (hB : B ≤ B') : Md G B' w n g1 g2 g3 :=
  ⟨h.n1, h.n2, h.n3, h.t1.mono hB, h.t2.mono hB, h.t3.mono hB⟩
def vN (n : Nd) (g1 : Nat) : Value := .slice (some ⟨g1, 0, none⟩) n.names.length n.names.length
def vK (n : Nd) (g2 : Nat) : Value := .slice (some ⟨g2, 0, none⟩) n.keys.length n.keys.length
def vD (n : Nd) (g3 : Nat) : Value := .slice (some ⟨g3, 0, none⟩) n.kids.length n.kids.length
/-- A node's cells in a row. -/
structure L7 (f : Nat → Value) (j : Nat) (n : Nd) (vn vk vd : Value) : Prop where
  c0 : f (j * 7) = .int .i64 n.kind
  c1 : f (j * 7 + 1) = .int .i64 n.num
  c2 : f (j * 7 + 2) = .int .i64 n.mat
  c3 : f (j * 7 + 3) = .string n.text
  c4 : f (j * 7 + 4) = vn
  c5 : f (j * 7 + 5) = vk
  c6 : f (j * 7 + 6) = vd
def set7 (w : World) (g k : Nat) (n : Nd) (vn vk vd : Value) : World :=
  ((((((w.setCell ⟨g, k * 7, none⟩ (.int .i64 n.kind)).setCell ⟨g, k * 7 + 1, none⟩ (.int .i64 n.num)).setCell ⟨g, k * 7 + 2, none⟩ (.int .i64 n.mat)).setCell ⟨g, k * 7 + 3, none⟩ (.string n.text)).setCell ⟨g, k * 7 + 4, none⟩ vn).setCell ⟨g, k * 7 + 5, none⟩ vk).setCell ⟨g, k * 7 + 6, none⟩ vd
set_option maxRecDepth 20000 in
theorem row7 {w : World} {g t N : Nat} {f : Nat → Value} (h : w.rowIs g t N f) (k : Nat) (n : Nd) (vn vk vd : Value) :
    ∃ f', (set7 w g k n vn vk vd).rowIs g t N f' ∧ L7 f' k n vn vk vd ∧ ∀ j m un uk ud, j ≠ k → L7 f j m un uk ud → L7 f' j m un uk ud := by
  refine ⟨_, ((((((h.set _ _).set _ _).set _ _).set _ _).set _ _).set _ _).set _ _, ?_, ?_⟩
  · constructor <;> simp
  · intro j m un uk ud hj hl
    obtain ⟨c0, c1, c2, c3, c4, c5, c6⟩ := hl
    constructor <;> rw [if_neg (by omega), if_neg (by omega), if_neg (by omega), if_neg (by omega), if_neg (by omega), if_neg (by omega), if_neg (by omega)] <;> assumption
set_option maxRecDepth 20000 in
theorem gr7 (w : World) (g k : Nat) (n : Nd) (vn vk vd : Value) : w.grownBy (set7 w g k n vn vk vd) (some g) :=
  grN_trans (grN_trans (grN_trans (grN_trans (grN_trans (grN_trans (grN_set _ _ _ _) (grN_set _ _ _ _)) (grN_set _ _ _ _)) (grN_set _ _ _ _)) (grN_set _ _ _ _)) (grN_set _ _ _ _)) (grN_set _ _ _ _)
set_option maxRecDepth 20000 in
theorem Tryz.infoN : (Tryz.prog.info? 37).map (fun i => (i.zero, i.size, i.bytes)) = some (some (.agg #[.int .i64 0, .int .i64 0, .int .i64 0, .string ⟨#[]⟩, .slice none 0 0, .slice none 0 0, .slice none 0 0]), 7, 112) := by kernel_rfl
end Go.Proofs.YtlphojaeaogehaaGreatDoor
namespace Go.Proofs.YtlphojaeaogehaaGreatDoor
open Go.RowKit Go.Lib Go.Maps
set_option maxRecDepth 20000 in
set_option maxHeartbeats 400000 in
theorem lawEqTextsO (a b : Option Addr) (F : List ByteArray) (cap cap' : Nat) (w : World) (hF : Tx w.heap.size w a F) (hG : Tx w.heap.size w b F) (hlen : F.length ≤ 1048576) :
    Calls Tryz.prog 64 #[.slice a F.length cap, .slice b F.length cap'] w fun e w' => e = .returned (.bool true) ∧ Below w.heap.size w w' := by
  have HF : Hid (Tx w.heap.size w a F) := hF
  have HG : Hid (Tx w.heap.size w b F) := hG
  clear hF hG
  go_enter Tryz.func64, Tryz.ntmps64
  go_wp2
  go_loopw [5] (fun i wr => ∃ k : Nat, k ≤ F.length ∧ i = .int .i64 k ∧ Below w.heap.size w wr) (fun i _ => F.length - (Lib.intOf i).toNat)
  case atStart => exact ⟨0, Nat.zero_le _, rfl, Below.refl _ _⟩
  case round =>
    obtain ⟨k, hk, rfl, hb0⟩ := hrel
    by_cases hlt : k < F.length
    · obtain ⟨a', ea, ha, hc0⟩ := (HF.out.below hb0) k hlt
      obtain ⟨b', eb, hb, hd0⟩ := (HG.out.below hb0) k hlt
      subst ea eb
      generalize F[k] = f at hc0 hd0
      go_wp2
      go_region
      all_goals
        go_wp2
        go_roundw
        case rel => exact ⟨k + 1, by omega, by go_num, hb0.drew⟩
        case measure => simp [Lib.intOf]; omega
    · go_wp2
      go_ret
      exact ⟨rfl, hb0⟩
set_option maxRecDepth 20000 in
set_option maxHeartbeats 400000 in
theorem lawEqIntsO (a b : Option Addr) (F : List Int) (cap cap' : Nat) (w : World) (hF : Ints w.heap.size w a F) (hG : Ints w.heap.size w b F) (hlen : F.length ≤ 1048576) :
    Calls Tryz.prog 65 #[.slice a F.length cap, .slice b F.length cap'] w fun e w' => e = .returned (.bool true) ∧ Below w.heap.size w w' := by
  have HF : Hid (Ints w.heap.size w a F) := hF
  have HG : Hid (Ints w.heap.size w b F) := hG
  clear hF hG
  go_enter Tryz.func65, Tryz.ntmps65
  go_wp2
  go_loopw [5] (fun i wr => ∃ k : Nat, k ≤ F.length ∧ i = .int .i64 k ∧ Below w.heap.size w wr) (fun i _ => F.length - (Lib.intOf i).toNat)
  case atStart => exact ⟨0, Nat.zero_le _, rfl, Below.refl _ _⟩
  case round =>
    obtain ⟨k, hk, rfl, hb0⟩ := hrel
    by_cases hlt : k < F.length
    · obtain ⟨a', ea, ha, hc0⟩ := (HF.out.below hb0) k hlt
      obtain ⟨b', eb, hb, hd0⟩ := (HG.out.below hb0) k hlt
      subst ea eb
      generalize F[k] = f at hc0 hd0
      go_wp2
      go_region
      all_goals
        go_wp2
        go_roundw
        case rel => exact ⟨k + 1, by omega, by go_num, hb0.drew⟩
        case measure => simp [Lib.intOf]; omega
    · go_wp2
      go_ret
      exact ⟨rfl, hb0⟩
set_option maxRecDepth 20000 in
set_option maxHeartbeats 1000000 in
theorem lawEqNode (n : Nd) (vn vk vd un uk ud : Value) (w : World) (hI : NdIn w.heap.size w n vn vk vd) (hJ : NdIn w.heap.size w n un uk ud) (hf : n.fits 1048576) :
    Calls Tryz.prog 40 #[ndV n vn vk vd, ndV n un uk ud] w fun e w' => e = .returned (.bool true) ∧ Below w.heap.size w w' := by
  obtain ⟨⟨a1, c1, rfl, t1⟩, ⟨a2, c2, rfl, t2⟩, ⟨a3, c3, rfl, t3⟩⟩ := hI
  obtain ⟨⟨b1, d1, rfl, s1⟩, ⟨b2, d2, rfl, s2⟩, ⟨b3, d3, rfl, s3⟩⟩ := hJ
  obtain ⟨f1, f2, f3, f4, f5, f6⟩ := hf
  have HT1 := mkHid fun (w' : World) (hb : Below w.heap.size w w') => lawEqTextsO a1 b1 n.names c1 d1 w' ((t1.below hb).mono hb.size) ((s1.below hb).mono hb.size) f2
  have HT2 := mkHid fun (w' : World) (hb : Below w.heap.size w w') => lawEqTextsO a2 b2 n.keys c2 d2 w' ((t2.below hb).mono hb.size) ((s2.below hb).mono hb.size) f4
  have HT3 := mkHid fun (w' : World) (hb : Below w.heap.size w w') => lawEqIntsO a3 b3 n.kids c3 d3 w' ((t3.below hb).mono hb.size) ((s3.below hb).mono hb.size) f6
  clear t1 t2 t3 s1 s2 s3 f2 f3 f4 f5 f6
  obtain ⟨W, hW⟩ : ∃ W, W = (w.alloc (.cells #[.int .i64 n.kind, .int .i64 n.num, .int .i64 n.mat, .string n.text, .slice a1 n.names.length c1, .slice a2 n.keys.length c2, .slice a3 n.kids.length c3] 37)).alloc (.cells #[.int .i64 n.kind, .int .i64 n.num, .int .i64 n.mat, .string n.text, .slice b1 n.names.length d1, .slice b2 n.keys.length d2, .slice b3 n.kids.length d3] 37) := ⟨_, rfl⟩
  have hbW : Below w.heap.size w W := by rw [hW]; exact ((Below.refl _ _).alloc (Nat.le_refl _) _).alloc (by simp) _
  have hWs : w.heap.size + 1 < W.heap.size := by rw [hW]; simp
  have hA : W.heap[w.heap.size]? = some (.cells #[.int .i64 n.kind, .int .i64 n.num, .int .i64 n.mat, .string n.text, .slice a1 n.names.length c1, .slice a2 n.keys.length c2, .slice a3 n.kids.length c3] 37 (0, 0)) := by rw [hW]; exact (Below.heap_alloc _ _ _ (by simp)).trans (hp_allocN _ _)
  have hB : W.heap[w.heap.size + 1]? = some (.cells #[.int .i64 n.kind, .int .i64 n.num, .int .i64 n.mat, .string n.text, .slice b1 n.names.length d1, .slice b2 n.keys.length d2, .slice b3 n.kids.length d3] 37 (0, 0)) := by
    rw [hW, show w.heap.size + 1 = (w.alloc (.cells #[.int .i64 n.kind, .int .i64 n.num, .int .i64 n.mat, .string n.text, .slice a1 n.names.length c1, .slice a2 n.keys.length c2, .slice a3 n.kids.length c3] 37)).heap.size by simp]
    exact hp_allocN _ _
  replace hW := mkHid hW
  unfold ndV
  go_enter Tryz.func40, Tryz.ntmps40
  go_wp2_with fail
  rw [← hW.out]
  refine (HT1.out W hbW).mono ?_
  rintro e w1 ⟨rfl, hb1⟩
  have hs1 := hb1.size
  have hA1 := (hb1.block w.heap.size (by omega)).trans hA
  have hB1 := (hb1.block (w.heap.size + 1) hWs).trans hB
  have hbw1 := hbW.trans (hb1.mono (by omega))
  have p5 : w1.cell? ⟨w.heap.size, 5, none⟩ = some (.slice a2 n.keys.length c2) := by simp [World.cell?, hA1]
  have q5 : w1.cell? ⟨w.heap.size + 1, 5, none⟩ = some (.slice b2 n.keys.length d2) := by simp [World.cell?, hB1]
  clear hA hB hW hb1
  go_wp2_with fail
  refine (HT2.out w1 hbw1).mono ?_
  rintro e w2 ⟨rfl, hb2⟩
  have hA2 := (hb2.block w.heap.size (by omega)).trans hA1
  have hB2 := (hb2.block (w.heap.size + 1) (by omega)).trans hB1
  have hbw2 := hbw1.trans (hb2.mono (by omega))
  have p6 : w2.cell? ⟨w.heap.size, 6, none⟩ = some (.slice a3 n.kids.length c3) := by simp [World.cell?, hA2]
  have q6 : w2.cell? ⟨w.heap.size + 1, 6, none⟩ = some (.slice b3 n.kids.length d3) := by simp [World.cell?, hB2]
  clear hA1 hB1 hA2 hB2 hb2 p5 q5
  go_wp2_with fail
  refine (HT3.out w2 hbw2).mono ?_
  rintro e w3 ⟨rfl, hb3⟩
  have hbw3 := hbw2.trans (hb3.mono hbw2.size)
  clear p6 q6 hb3
  go_wp2
  go_ret
  exact ⟨rfl, hbw3⟩
set_option maxHeartbeats 1000000 in
set_option maxRecDepth 10000 in
theorem lawEqNodes (a b : Option Addr) (F : List Nd) (cap cap' : Nat) (w : World) (hF : Nds w.heap.size w a F) (hG : Nds w.heap.size w b F) (hlen : F.length ≤ 1048576) (hfit : ∀ f ∈ F, f.fits 1048576) :
    Calls Tryz.prog 18 #[.slice a F.length cap, .slice b F.length cap'] w fun e w' => e = .returned (.bool true) ∧ Below w.heap.size w w' := by
  have HF := mkHid hF
  have HG := mkHid hG
  have Hfit := mkHid hfit
  clear hF hG hfit
  go_enter Tryz.func18, Tryz.ntmps18
  go_wp2
  go_loopw [5] (fun i wr => ∃ k : Nat, k ≤ F.length ∧ i = .int .i64 k ∧ Below w.heap.size w wr) (fun i _ => F.length - (Lib.intOf i).toNat)
  case atStart => exact ⟨0, Nat.zero_le _, rfl, Below.refl _ _⟩
  case round =>
    obtain ⟨k, hk, rfl, hb0⟩ := hrel
    by_cases hlt : k < F.length
    · obtain ⟨a', vn, vk, vd, rfl, ha, hA, hI⟩ := (HF.out.below hb0) k hlt
      obtain ⟨b', un, uk, ud, rfl, hb, hB, hJ⟩ := (HG.out.below hb0) k hlt
      have hE := mkHid fun (w' : World) (hb' : Below wr.heap.size wr w') => lawEqNode F[k] vn vk vd un uk ud w' (((hI.mono hb0.size).below hb').mono hb'.size) (((hJ.mono hb0.size).below hb').mono hb'.size) (Hfit.out _ (List.getElem_mem hlt))
      have c0 := hA.c0
      have c1 := hA.c1
      have c2 := hA.c2
      have c3 := hA.c3
      have c4 := hA.c4
      have c5 := hA.c5
      have c6 := hA.c6
      have d0 := hB.c0
      have d1 := hB.c1
      have d2 := hB.c2
      have d3 := hB.c3
      have d4 := hB.c4
      have d5 := hB.c5
      have d6 := hB.c6
      clear hA hB hI hJ
      generalize F[k] = n at *
      have cE : Hid (∀ d os, Calls Tryz.prog 40 #[ndV n vn vk vd, ndV n un uk ud] (Go.Sort.grow (redrawn wr d) os) fun e w'' => e = .returned (.bool true) ∧ ∃ p : Regrown, w'' = Go.Sort.grow (redrawn wr p.d) p.os) := fun d os => Calls.regrown_of (hE.out _ (below_regrown wr d os))
      unfold ndV at cE
      go_wp2
      have k0 := cell_regrown c0
      have l0 := cell_regrown d0
      have k1 := cell_regrown c1
      have l1 := cell_regrown d1
      have k2 := cell_regrown c2
      have l2 := cell_regrown d2
      have k3 := cell_regrown c3
      have l3 := cell_regrown d3
      have k4 := cell_regrown c4
      have l4 := cell_regrown d4
      have k5 := cell_regrown c5
      have l5 := cell_regrown d5
      have k6 := cell_regrown c6
      have l6 := cell_regrown d6
      clear hE c0 c1 c2 c3 c4 c5 c6 d0 d1 d2 d3 d4 d5 d6
      refine wp_region_quiet_below (by kernel_rfl) (by kernel_rfl) ?_
      iterate 8 (quiet_step (fail))
      quiet_step (exact cE.out _ _)
      repeat (quiet_step (fail))
      refine wpQuiet_nil ?_
      intro _ hw'
      obtain ⟨⟨dq, osq⟩, hw''⟩ := hw'
      subst hw''
      have hbq := mkHid (hb0.trans ((below_regrown wr dq osq).mono hb0.size))
      generalize Go.Sort.grow (redrawn wr dq) osq = wq at *
      clear k0 k1 k2 k3 k4 k5 k6 l0 l1 l2 l3 l4 l5 l6 cE hb0
      go_wp2
      go_roundw
      case rel => exact ⟨k + 1, by omega, by go_num, hbq.out⟩
      case measure => simp [Lib.intOf]; omega
    · go_wp2
      go_ret
      exact ⟨rfl, hb0⟩
end Go.Proofs.YtlphojaeaogehaaGreatDoor
namespace Go.Proofs.YtlphojaeaogehaaGreatDoor
open Go.RowKit Go.Lib Go.Maps
set_option maxRecDepth 20000 in
theorem mkH {p : Prop} (h : p) : Hid p := h
namespace Fn
def low (c : UInt8) : Bool := decide (97 ≤ c.toNat) && decide (c.toNat ≤ 122)
def nameOk (t : ByteArray) : Bool := decide (1 ≤ t.size) && (decide (t.size ≤ 20) && t.data.toList.all low)
def textsOk (l : List ByteArray) : Bool := decide (1 ≤ l.length) && (decide (l.length ≤ 100) && l.all fun t => decide (t.size ≤ 1000))
def isTest (k : Int) : Bool := decide (20 ≤ k) && decide (k ≤ 31)
def isCmd (k : Int) : Bool := decide (2 ≤ k) && decide (k ≤ 11)
end Fn
set_option maxRecDepth 20000 in
set_option maxHeartbeats 400000 in
theorem specLow (c : UInt8) (w : World) : Calls Tryz.prog 22 #[.int .u8 (c.toNat : Int)] w fun e w' => e = .returned (.bool (Fn.low c)) ∧ w = w' := by
  have h8 : c.toNat < 256 := UInt8.toNat_lt _
  unfold Fn.low
  by_cases h1 : 97 ≤ c.toNat
  · by_cases h2 : c.toNat ≤ 122
    · rw [decide_eq_true h1, decide_eq_true h2]
      have h2' : decide ((c.toNat : Int) ≤ 122) = true := by simp; omega
      go_enter Tryz.func22, Tryz.ntmps22
      go_wp2
      go_ret
      exact ⟨rfl, rfl⟩
    · rw [decide_eq_true h1, decide_eq_false h2]
      have h2' : decide ((c.toNat : Int) ≤ 122) = false := by simp; omega
      go_enter Tryz.func22, Tryz.ntmps22
      go_wp2
      go_ret
      exact ⟨rfl, rfl⟩
  · rw [decide_eq_false h1]
    go_enter Tryz.func22, Tryz.ntmps22
    go_wp2
    go_ret
    exact ⟨rfl, rfl⟩
set_option maxRecDepth 20000 in
theorem all_drop {α : Type} (f : α → Bool) (l : List α) (k : Nat) (h : k < l.length) : (l.drop k).all f = (f l[k] && (l.drop (k + 1)).all f) := by
  rw [List.drop_eq_getElem_cons h, List.all_cons]
set_option maxRecDepth 20000 in
set_option maxHeartbeats 400000 in
theorem specName (s : ByteArray) (w : World) (hs : s.size ≤ 1048576) :
    Calls Tryz.prog 29 #[.string s] w fun e w' => e = .returned (.bool (Fn.nameOk s)) ∧ w = w' := by
  unfold Fn.nameOk
  by_cases h1 : 1 ≤ s.size
  · by_cases h2 : s.size ≤ 20
    · rw [decide_eq_true h1, decide_eq_true h2, Bool.true_and, Bool.true_and]
      obtain ⟨A, hA⟩ : ∃ A, s.data.toList.all Fn.low = A := ⟨_, rfl⟩
      rw [hA]
      have hA := mkH hA
      have hll : Hid (s.data.toList.length = s.size) := by simp [Hid]
      go_enter Tryz.func29, Tryz.ntmps29
      go_wp2
      go_loopw [3] (fun i wr => ∃ k : Nat, k ≤ s.size ∧ i = .int .i64 k ∧ Hid ((s.data.toList.drop k).all Fn.low = A) ∧ wr = w) (fun i _ => s.size - (Lib.intOf i).toNat)
      case atStart => exact ⟨0, Nat.zero_le _, rfl, hA, rfl⟩
      case round =>
        obtain ⟨k, hk, rfl, hal, hWr⟩ := hrel
        have hWr' : wr = w := hWr
        clear hWr
        subst hWr'
        by_cases hlt : k < s.size
        · have hst := all_drop Fn.low s.data.toList k (by rw [hll.out]; exact hlt)
          rw [hal.out, show s.data.toList[k]'(by rw [hll.out]; exact hlt) = s[k] from rfl] at hst
          replace hst := mkH hst
          cases hc : Fn.low s[k]
          · have hf : Hid (A = false) := by rw [hst.out, hc]; exact Bool.false_and _
            have hL := specLow s[k] wr
            rw [hc] at hL
            clear hst hal hc
            go_wp2_with fail
            refine hL.mono ?_
            rintro e w2 ⟨rfl, rfl⟩
            go_wp2
            go_ret
            rw [hf.out]
            exact ⟨rfl, rfl⟩
          · have hf : Hid ((s.data.toList.drop (k + 1)).all Fn.low = A) := by rw [hst.out, hc]; exact (Bool.true_and _).symm
            have hL := specLow s[k] wr
            rw [hc] at hL
            clear hst hal hc
            go_wp2_with fail
            refine hL.mono ?_
            rintro e w2 ⟨rfl, rfl⟩
            go_wp2
            go_roundw
            case rel => exact ⟨k + 1, by omega, by go_num, hf, trivial⟩
            case measure => simp [Lib.intOf]; omega
        · have hf : Hid (A = true) := by
            have := hal.out
            rw [List.drop_eq_nil_of_le (by rw [hll.out]; omega)] at this
            exact this.symm
          go_wp2
          go_ret
          rw [hf.out]
          exact ⟨rfl, rfl⟩
    · rw [decide_eq_true h1, decide_eq_false h2]
      go_enter Tryz.func29, Tryz.ntmps29
      go_wp2
      go_ret
      exact ⟨rfl, rfl⟩
  · rw [decide_eq_false h1]
    go_enter Tryz.func29, Tryz.ntmps29
    go_wp2
    go_ret
    exact ⟨rfl, rfl⟩
end Go.Proofs.YtlphojaeaogehaaGreatDoor
namespace Go.Proofs.YtlphojaeaogehaaGreatDoor
open Go.RowKit Go.Lib Go.Maps
namespace Fn
def u0 (n : Nd) : Bool := n.num == 0
def m0 (n : Nd) : Bool := n.mat == 0
def t0 (n : Nd) : Bool := n.text.toList.isEmpty
def n0 (n : Nd) : Bool := (n.names.length : Int) == 0
def k0 (n : Nd) : Bool := (n.keys.length : Int) == 0
def upTo (x m : Int) : Bool := decide (0 ≤ x) && decide (x ≤ m)
def tx (n : Nd) : Bool := decide ((n.text.size : Int) ≤ 1000)
def one (n : Nd) : Bool := match n.names with | [t] => nameOk t | _ => false
def all5 (a b c d e : Bool) : Bool := a && (b && (c && (d && e)))
/-- The fields but its kids, as a node's kind asks. -/
def fieldsOk (n : Nd) : Bool :=
  if n.kind = 3 then all5 (upTo n.num 100) (m0 n) (t0 n) (n0 n) (k0 n) else
  if n.kind = 7 ∨ n.kind = 8 ∨ n.kind = 9 ∨ n.kind = 10 then all5 (u0 n) (m0 n) (tx n) (n0 n) (k0 n) else
  if n.kind = 11 then all5 (u0 n) (m0 n) (tx n) (one n) (k0 n) else
  if n.kind = 28 then all5 (u0 n) (m0 n) (t0 n) (textsOk n.names) (k0 n) else
  if n.kind = 29 ∨ n.kind = 30 then all5 (upTo n.num 999999999) (m0 n) (t0 n) (n0 n) (k0 n) else
  if n.kind = 25 ∨ n.kind = 26 ∨ n.kind = 27 ∨ n.kind = 31 then all5 (u0 n) (upTo n.mat 2) (t0 n) (textsOk n.names) (textsOk n.keys) else
  if n.kind = 1 ∨ n.kind = 2 ∨ n.kind = 4 ∨ n.kind = 5 ∨ n.kind = 6 ∨ n.kind = 20 ∨ n.kind = 21 ∨ n.kind = 22 ∨ n.kind = 23 ∨ n.kind = 24 then all5 (u0 n) (m0 n) (t0 n) (n0 n) (k0 n) else false
end Fn
end Go.Proofs.YtlphojaeaogehaaGreatDoor
namespace Go.Proofs.YtlphojaeaogehaaGreatDoor
open Go.RowKit Go.Lib Go.Maps
set_option maxRecDepth 20000 in
theorem all5_eq (a b c d e : Bool) : (a && (b && (c && (d && e)))) = Fn.all5 a b c d e := rfl
end Go.Proofs.YtlphojaeaogehaaGreatDoor
namespace Go.Proofs.YtlphojaeaogehaaGreatDoor
open Go.RowKit Go.Lib Go.Maps
namespace Fn
/-- Whether a kid of a kind may stand at a place. -/
def kidOk (kind : Int) (i : Nat) (k : Int) : Bool :=
  if kind = 1 then isCmd k else
  if kind = 2 then (((i : Int) == 0) && isTest k) || ((((i : Int) == 1) && (k == 1)) || (((i : Int) == 2) && ((k == 1) || (k == 2)))) else
  if kind = 3 then ((i : Int) == 0) && (k == 1) else
  if kind = 22 then ((i : Int) == 0) && isTest k else
  if kind = 23 ∨ kind = 24 then isTest k else false
def kidsFrom (kind : Int) : Nat → List Int → Bool
  | _, [] => true
  | i, k :: r => kidOk kind i k && kidsFrom kind (i + 1) r
def least (kind : Int) (n : Nat) : Bool :=
  if kind = 2 then decide (2 ≤ (n : Int)) else if kind = 3 ∨ kind = 22 ∨ kind = 23 ∨ kind = 24 then decide (1 ≤ (n : Int)) else true
def kidsOk (kind : Int) (ks : List Int) : Bool := kidsFrom kind 0 ks && least kind ks.length
set_option maxRecDepth 20000 in
theorem from_step (kind : Int) (ks : List Int) (i : Nat) (h : i < ks.length) : kidsFrom kind i (ks.drop i) = (kidOk kind i ks[i] && kidsFrom kind (i + 1) (ks.drop (i + 1))) := by
  rw [List.drop_eq_getElem_cons h, kidsFrom]
end Fn
end Go.Proofs.YtlphojaeaogehaaGreatDoor
