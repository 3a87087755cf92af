
/- A source of draws: its methods n and one; its making. -/
import Derived.Test.YtacmhofekdjobaaGreatDoorBase
import Derived.Laws.OwnMore
import Derived.Laws.Pointers
import Derived.Test.YtacmhofekdjobaaGreatDoorChecked
import Derived.Lib.QuietBelow
import Derived.Deep.QuietTactic
import Derived.BigQuiet
import Derived.Deep.RegionWith
import Derived.WalkSmall
namespace Go.Proofs.YtacmhofekdjobaaGreatDoor
open Go.RowKit Go.Lib
/-- Bytes that were handed in, in blocks below B. -/
def Code (B : Nat) (w : World) (o : Option Addr) (c : List UInt8) : Prop := ∀ k (h : k < c.length), ∃ a, o = some a ∧ a.block < B ∧ w.cell? (a.add k) = some (.int .u8 (c[k].toNat : Int))
/-- A source of draws in memory. -/
structure Src (w : World) (g : Nat) (o : Option Addr) (n cp a z : Nat) : Prop where
  blk : w.heap[g]? = some (.cells #[.slice o n cp, .int .i64 a, .int .i64 z] 59)
set_option maxRecDepth 20000 in
theorem Src.c0 {w : World} {g n cp a z : Nat} {o : Option Addr} (h : Src w g o n cp a z) : w.cell? ⟨g, 0, none⟩ = some (.slice o n cp) := by simp [World.cell?, h.blk]
set_option maxRecDepth 20000 in
theorem Src.c1 {w : World} {g n cp a z : Nat} {o : Option Addr} (h : Src w g o n cp a z) : w.cell? ⟨g, 1, none⟩ = some (.int .i64 a) := by simp [World.cell?, h.blk]
set_option maxRecDepth 20000 in
theorem Src.c2 {w : World} {g n cp a z : Nat} {o : Option Addr} (h : Src w g o n cp a z) : w.cell? ⟨g, 2, none⟩ = some (.int .i64 z) := by simp [World.cell?, h.blk]
set_option maxRecDepth 20000 in
theorem Src.f1 {w : World} {g n cp a z : Nat} {o : Option Addr} (h : Src w g o n cp a z) : w.frozen? ⟨g, 1, none⟩ = false := by simp [World.frozen?, h.blk]
set_option maxRecDepth 20000 in
theorem Src.lt {w : World} {g n cp a z : Nat} {o : Option Addr} (h : Src w g o n cp a z) : g < w.heap.size := by
  have h := h.blk
  by_cases hg : g < w.heap.size
  · exact hg
  · rw [Array.getElem?_eq_none (by omega)] at h; cases h
set_option maxRecDepth 20000 in
theorem Src.below {w w' : World} {g n cp a z : Nat} {o : Option Addr} (h : Src w g o n cp a z) (hb : Below w.heap.size w w') : Src w' g o n cp a z :=
  ⟨by rw [hb.block g h.lt]; exact h.blk⟩
set_option maxRecDepth 20000 in
theorem Src.set1 {w : World} {g n cp a z : Nat} {o : Option Addr} (h : Src w g o n cp a z) (m : Int) (k : Nat) (hm : m = k) : Src (w.setCell ⟨g, 1, none⟩ (.int .i64 m)) g o n cp k z := by
  subst hm
  exact ⟨by simp [World.setCell, Array.getElem?_modify, h.blk]⟩
set_option maxRecDepth 20000 in
theorem gr_refl (w : World) (r : Option Nat) : w.grownBy w r := ⟨rfl, rfl, rfl, Nat.le_refl _, fun _ _ _ => rfl⟩
set_option maxRecDepth 20000 in
theorem gr_trans {a b c : World} {r : Option Nat} (h : a.grownBy b r) (k : b.grownBy c r) : a.grownBy c r :=
  ⟨k.os.trans h.os, k.tape.trans h.tape, k.output.trans h.output, Nat.le_trans h.size k.size, fun i hi hr => (k.block i (Nat.lt_of_lt_of_le hi h.size) hr).trans (h.block i hi hr)⟩
set_option maxRecDepth 20000 in
theorem gr_below {w w' : World} {r : Option Nat} (h : Below w.heap.size w w') : w.grownBy w' r := ⟨h.os, h.tape, h.output, h.size, fun k hk _ => h.block k hk⟩
set_option maxRecDepth 20000 in
theorem gr_set (w : World) (g j : Nat) (v : Value) : w.grownBy (w.setCell ⟨g, j, none⟩ v) (some g) := by
  refine ⟨rfl, rfl, rfl, by simp [World.setCell], ?_⟩
  intro k hk hr
  have : g ≠ k := fun e => hr (by rw [e])
  simp [World.setCell, Array.getElem?_modify, this]
set_option maxRecDepth 20000 in
theorem gr_cell {w w' : World} {g : Nat} (h : w.grownBy w' (some g)) {a : Addr} {v : Value} (ha : a.block ≠ g) (hc : w.cell? a = some v) : w'.cell? a = some v := by
  have hlt : a.block < w.heap.size := World.block_lt_of_cell? _ _ hc
  unfold World.cell? at hc ⊢
  rw [h.block a.block hlt (by intro e; exact ha (Option.some.inj e))]
  exact hc
set_option maxRecDepth 20000 in
theorem addr_block (a : Addr) (k : Nat) : (a.add k).block = a.block := by unfold Addr.add; split <;> rfl
set_option maxRecDepth 20000 in
theorem Code.grown {B : Nat} {w w' : World} {o : Option Addr} {c : List UInt8} {g : Nat} (h : Code B w o c) (hg : w.grownBy w' (some g)) (hB : B ≤ g) : Code B w' o c := by
  intro k hk
  obtain ⟨a, rfl, ha, hc⟩ := h k hk
  exact ⟨a, rfl, ha, gr_cell hg (by rw [addr_block]; omega) hc⟩
set_option maxRecDepth 20000 in
set_option maxHeartbeats 2000000 in
theorem srcN (g : Nat) (o : Option Addr) (c : List UInt8) (cp a z : Nat) (most : Int) (w : World) (h : Src w g o c.length cp a z) (hc : Code g w o c) (ha : a ≤ 1000000) (hl : c.length ≤ 1048576) (hm : most ≤ 4000000000) (h1 : 1 ≤ most) :
    Calls Tryz.prog 36 #[.pointer (some ⟨g, 0, none⟩), .int .i64 most] w fun e w' => ∃ v : Nat, e = .returned (.int .i64 v) ∧ (v : Int) < most ∧ Src w' g o c.length cp (a + 1) z ∧ w.grownBy w' (some g) := by
  have c0 := h.c0
  have c1 := h.c1
  have f1 := h.f1
  have Hs : Hid (Src (w.setCell ⟨g, 1, none⟩ (.int .i64 ((a : Int) + 1))) g o c.length cp (a + 1) z) := h.set1 _ _ (by omega)
  have hg := gr_set w g 1 (.int .i64 ((a : Int) + 1))
  have Hg : Hid (w.grownBy (w.setCell ⟨g, 1, none⟩ (.int .i64 ((a : Int) + 1))) (some g)) := hg
  have HC : Hid (Code g (w.setCell ⟨g, 1, none⟩ (.int .i64 ((a : Int) + 1))) o c) := hc.grown hg (Nat.le_refl _)
  clear h hc hg
  by_cases hz : c.length = 0
  · have hz2 : ((c.length : Int) == 0) = true := by rw [hz]; rfl
    go_enter Tryz.func36, Tryz.ntmps36
    go_wp2
    go_ret
    refine ⟨((a : Int) * 7 % most).toNat, ?_, ?_, Hs.out, Hg.out⟩
    · have := Int.emod_nonneg ((a : Int) * 7) (show most ≠ 0 by omega)
      rw [Int.toNat_of_nonneg this]
      rfl
    · have := Int.emod_nonneg ((a : Int) * 7) (show most ≠ 0 by omega)
      have := Int.emod_lt_of_pos ((a : Int) * 7) (show 0 < most by omega)
      omega
  · have hz2 : ((c.length : Int) == 0) = false := beq_eq_false_iff_ne.2 (by omega)
    obtain ⟨r, hr⟩ : ∃ r, a % c.length = r := ⟨_, rfl⟩
    obtain ⟨q, hq⟩ : ∃ q, a / c.length = q := ⟨_, rfl⟩
    obtain ⟨r2, hr2⟩ : ∃ r2, (a + 1) % c.length = r2 := ⟨_, rfl⟩
    have hrl : r < c.length := by rw [← hr]; exact Nat.mod_lt _ (by omega)
    have hr2l : r2 < c.length := by rw [← hr2]; exact Nat.mod_lt _ (by omega)
    have hql : q ≤ a := by rw [← hq]; exact Nat.div_le_self _ _
    have hrI : (a : Int) % (c.length : Int) = (r : Int) := by rw [← hr]; rfl
    have hqI : (a : Int) / (c.length : Int) = (q : Int) := by rw [← hq]; rfl
    have hr2I : ((a : Int) + 1) % (c.length : Int) = (r2 : Int) := by rw [← hr2]; rfl
    obtain ⟨ad, rfl, had, k1⟩ := HC.out r hrl
    obtain ⟨ad2, hade, -, k2⟩ := HC.out r2 hr2l
    obtain rfl := Option.some.inj hade
    have b1 : c[r].toNat < 256 := UInt8.toNat_lt _
    have b2 : c[r2].toNat < 256 := UInt8.toNat_lt _
    generalize c[r].toNat = x1 at *
    generalize c[r2].toNat = x2 at *
    have hne : ¬ (c.length : Int) = 0 := by omega
    clear hr hq hr2 hade HC hz
    go_enter Tryz.func36, Tryz.ntmps36
    go_wp2
    go_quiet (fail)
    obtain ⟨V, hV⟩ : ∃ V, V = (w.setCell ⟨g, 1, none⟩ (.int .i64 ((a : Int) + 1))).drewN nq := ⟨_, rfl⟩
    have HsV : Hid (Src V g (some ad) c.length cp (a + 1) z) := by rw [hV]; exact ⟨Hs.out.blk⟩
    have HgV : Hid (w.grownBy V (some g)) := by rw [hV]; exact gr_trans Hg.out (gr_below (below_drewN (Below.refl _ _) _))
    have c0V := HsV.out.c0
    have k2V : V.cell? (ad.add r2) = some (.int .u8 (x2 : Int)) := by rw [hV]; exact k2
    rw [← hV]
    clear hV k1 k2 c0 c1 f1 Hs Hg
    have nn : ∀ x : Int, (x % most).toNat = x % most := fun x => Int.toNat_of_nonneg (Int.emod_nonneg x (by omega))
    have nl : ∀ x : Int, x % most < most := fun x => Int.emod_lt_of_pos x (by omega)
    have Hnn := (show Hid _ from nn)
    have Hnl := (show Hid _ from nl)
    clear nn nl
    by_cases hbig : 200 < most
    · go_wp2
      go_quiet (fail)
      have HsV2 : Hid (Src (V.drewN nq) g (some ad) c.length cp (a + 1) z) := ⟨HsV.out.blk⟩
      have HgV2 : Hid (w.grownBy (V.drewN nq) (some g)) := gr_trans HgV.out (gr_below (below_drewN (Below.refl _ _) _))
      go_wp2
      go_ret
      refine ⟨((((x1 : Int) + q * 37) * 251 + x2 * 13 + a) % most).toNat, ?_, ?_, HsV2.out, HgV2.out⟩
      · rw [Hnn.out]; rfl
      · rw [Hnn.out]; exact Hnl.out _
    · go_wp2
      go_ret
      refine ⟨(((x1 : Int) + q * 37) % most).toNat, ?_, ?_, HsV.out, HgV.out⟩
      · rw [Hnn.out]; rfl
      · rw [Hnn.out]; exact Hnl.out _
set_option maxRecDepth 20000 in
theorem Src.belowB {w w' : World} {g n cp a z B : Nat} {o : Option Addr} (h : Src w g o n cp a z) (hb : Below B w w') (hB : g < B) : Src w' g o n cp a z :=
  ⟨by rw [hb.block g hB]; exact h.blk⟩
set_option maxRecDepth 20000 in
theorem gr_belowB {w0 w w' : World} {g : Nat} (h : w0.grownBy w (some g)) (hb : Below w0.heap.size w w') : w0.grownBy w' (some g) :=
  ⟨hb.os.trans h.os, hb.tape.trans h.tape, hb.output.trans h.output, Nat.le_trans h.size hb.size, fun i hi hr => (hb.block i hi).trans (h.block i hi hr)⟩
set_option maxRecDepth 20000 in
theorem hp_alloc (w : World) (o : Obj) : (w.alloc o).heap[w.heap.size]? = some o := by
  show (w.heap.push o)[w.heap.size]? = some o
  simp
set_option maxRecDepth 20000 in
theorem hp_lt {w : World} {k : Nat} {o : Obj} (h : w.heap[k]? = some o) : k < w.heap.size := by
  by_cases hg : k < w.heap.size
  · exact hg
  · rw [Array.getElem?_eq_none (by omega)] at h; cases h
set_option maxRecDepth 20000 in
theorem Own.gr {B g : Nat} {v : Value} {p : List UInt8} {w w' : World} (h : Own B v p w) (hg : w.grownBy w' (some g)) (hB : g < B) : Own B v p w' := by
  obtain ⟨h1, h2⟩ := h
  refine ⟨h1, ?_⟩
  rcases h2 with h2 | ⟨k, cap, cur, e1, e2, e3, e4⟩
  · exact .inl h2
  · refine .inr ⟨k, cap, cur, e1, e2, ?_, e4⟩
    rw [hg.block k (hp_lt e3) (by intro e; have := Option.some.inj e; omega)]
    exact e3
set_option maxRecDepth 20000 in
theorem srcOne (g : Nat) (o : Option Addr) (c : List UInt8) (cp a z : Nat) (most : Int) (w : World) (h : Src w g o c.length cp a z) (hc : Code g w o c) (ha : a ≤ 1000000) (hl : c.length ≤ 1048576) (hm : most ≤ 4000000000) (h1 : 1 ≤ most) :
    Calls Tryz.prog 37 #[.pointer (some ⟨g, 0, none⟩), .int .i64 most] w fun e w' => ∃ b : Bool, e = .returned (.bool b) ∧ Src w' g o c.length cp (a + 1) z ∧ w.grownBy w' (some g) := by
  have hN := srcN g o c cp a z most w h hc ha hl hm h1
  clear h hc
  go_enter Tryz.func37, Tryz.ntmps37
  go_wp2_with fail
  refine hN.mono ?_
  rintro e w1 ⟨v, rfl, hv, hs, hg⟩
  go_wp2
  go_ret
  exact ⟨_, rfl, hs, hg⟩
set_option maxRecDepth 20000 in
theorem srcNew (o : Option Addr) (n cp : Nat) (w : World) (hn : n ≤ 1048576) :
    Calls Tryz.prog 10 #[.slice o n cp] w fun e w' => ∃ z, e = .returned (.pointer (some ⟨w.heap.size, 0, none⟩)) ∧ z ≤ 12 ∧ Src w' w.heap.size o n cp 0 z ∧ Below w.heap.size w w' := by
  by_cases h12 : 12 < n / 16
  · have h12i : (12 : Int) < (n : Int) / 16 := by omega
    go_enter Tryz.func10, Tryz.ntmps10
    go_wp2
    go_ret
    first | exact ⟨12, rfl, Nat.le_refl _, ⟨hp_alloc _ _⟩, (Below.refl _ _).alloc (Nat.le_refl _) _⟩ | exact ⟨rfl, 12, Nat.le_refl _, ⟨hp_alloc _ _⟩, (Below.refl _ _).alloc (Nat.le_refl _) _⟩
  · have h12i : ¬ (12 : Int) < (n : Int) / 16 := by omega
    go_enter Tryz.func10, Tryz.ntmps10
    go_wp2
    go_ret
    first | exact ⟨rfl, n / 16, by omega, ⟨hp_alloc _ _⟩, (Below.refl _ _).alloc (Nat.le_refl _) _⟩ | exact ⟨n / 16, rfl, by omega, ⟨hp_alloc _ _⟩, (Below.refl _ _).alloc (Nat.le_refl _) _⟩
end Go.Proofs.YtacmhofekdjobaaGreatDoor
