
/- A source of draws: its methods n and one; its making. -/

/- Results that lie in a block: laws of no program. -/

/- The bytes of phrases and atoms. -/
import Derived.Test.YtadoifnfgoonaaaGreatDoorAllOf
import Derived.Laws.OwnMore
import Derived.Laws.Pointers
import Derived.Test.YtadoifnfgoonaaaGreatDoorChecked
import Derived.Lib.QuietBelow
import Derived.Deep.QuietTactic
import Derived.BigQuiet
import Derived.Deep.RegionWith
import Derived.WalkSmall
import Derived.WalkKit
import Derived.WalkLawsBesides
import Derived.WalkSpells
import Derived.Below
import Derived.Maps.OwnSet
import Derived.Test.YtadoifnfgoonaaaGreatDoorPhrasePlain
namespace Go.Proofs.YtadoifnfgoonaaaGreatDoor
open Go.RowKit Go.Lib
/-- Bytes that were handed in, in blocks below B. -/
def Code (B : Nat) (w : World) (o : Option Addr) (c : List UInt8) : Prop := ∀ k (h : k < c.length), ∃ a, o = some a ∧ a.block < B ∧ w.cell? (a.add k) = some (.int .u8 (c[k].toNat : Int))
/-- A source of draws in memory. -/
structure Src (w : World) (g : Nat) (o : Option Addr) (n cp a z : Nat) : Prop where
  blk : w.heap[g]? = some (.cells #[.slice o n cp, .int .i64 a, .int .i64 z] 71)
set_option maxRecDepth 20000 in
theorem Src.c0 {w : World} {g n cp a z : Nat} {o : Option Addr} (h : Src w g o n cp a z) : w.cell? ⟨g, 0, none⟩ = some (.slice o n cp) := by simp [World.cell?, h.blk]
set_option maxRecDepth 20000 in
theorem Src.c1 {w : World} {g n cp a z : Nat} {o : Option Addr} (h : Src w g o n cp a z) : w.cell? ⟨g, 1, none⟩ = some (.int .i64 a) := by simp [World.cell?, h.blk]
set_option maxRecDepth 20000 in
theorem Src.c2 {w : World} {g n cp a z : Nat} {o : Option Addr} (h : Src w g o n cp a z) : w.cell? ⟨g, 2, none⟩ = some (.int .i64 z) := by simp [World.cell?, h.blk]
set_option maxRecDepth 20000 in
theorem Src.f1 {w : World} {g n cp a z : Nat} {o : Option Addr} (h : Src w g o n cp a z) : w.frozen? ⟨g, 1, none⟩ = false := by simp [World.frozen?, h.blk]
set_option maxRecDepth 20000 in
theorem Src.lt {w : World} {g n cp a z : Nat} {o : Option Addr} (h : Src w g o n cp a z) : g < w.heap.size := by
  have h := h.blk
  by_cases hg : g < w.heap.size
  · exact hg
  · rw [Array.getElem?_eq_none (by omega)] at h; cases h
set_option maxRecDepth 20000 in
theorem Src.below {w w' : World} {g n cp a z : Nat} {o : Option Addr} (h : Src w g o n cp a z) (hb : Below w.heap.size w w') : Src w' g o n cp a z :=
  ⟨by rw [hb.block g h.lt]; exact h.blk⟩
set_option maxRecDepth 20000 in
theorem Src.set1 {w : World} {g n cp a z : Nat} {o : Option Addr} (h : Src w g o n cp a z) (m : Int) (k : Nat) (hm : m = k) : Src (w.setCell ⟨g, 1, none⟩ (.int .i64 m)) g o n cp k z := by
  subst hm
  exact ⟨by simp [World.setCell, Array.getElem?_modify, h.blk]⟩
set_option maxRecDepth 20000 in
theorem gr_refl (w : World) (r : Option Nat) : w.grownBy w r := ⟨rfl, rfl, rfl, Nat.le_refl _, fun _ _ _ => rfl⟩
set_option maxRecDepth 20000 in
theorem gr_trans {a b c : World} {r : Option Nat} (h : a.grownBy b r) (k : b.grownBy c r) : a.grownBy c r :=
  ⟨k.os.trans h.os, k.tape.trans h.tape, k.output.trans h.output, Nat.le_trans h.size k.size, fun i hi hr => (k.block i (Nat.lt_of_lt_of_le hi h.size) hr).trans (h.block i hi hr)⟩
set_option maxRecDepth 20000 in
theorem gr_below {w w' : World} {r : Option Nat} (h : Below w.heap.size w w') : w.grownBy w' r := ⟨h.os, h.tape, h.output, h.size, fun k hk _ => h.block k hk⟩
set_option maxRecDepth 20000 in
theorem gr_set (w : World) (g j : Nat) (v : Value) : w.grownBy (w.setCell ⟨g, j, none⟩ v) (some g) := by
  refine ⟨rfl, rfl, rfl, by simp [World.setCell], ?_⟩
  intro k hk hr
  have : g ≠ k := fun e => hr (by rw [e])
  simp [World.setCell, Array.getElem?_modify, this]
set_option maxRecDepth 20000 in
theorem gr_cell {w w' : World} {g : Nat} (h : w.grownBy w' (some g)) {a : Addr} {v : Value} (ha : a.block ≠ g) (hc : w.cell? a = some v) : w'.cell? a = some v := by
  have hlt : a.block < w.heap.size := World.block_lt_of_cell? _ _ hc
  unfold World.cell? at hc ⊢
  rw [h.block a.block hlt (by intro e; exact ha (Option.some.inj e))]
  exact hc
set_option maxRecDepth 20000 in
theorem addr_block (a : Addr) (k : Nat) : (a.add k).block = a.block := by unfold Addr.add; split <;> rfl
set_option maxRecDepth 20000 in
theorem Code.grown {B : Nat} {w w' : World} {o : Option Addr} {c : List UInt8} {g : Nat} (h : Code B w o c) (hg : w.grownBy w' (some g)) (hB : B ≤ g) : Code B w' o c := by
  intro k hk
  obtain ⟨a, rfl, ha, hc⟩ := h k hk
  exact ⟨a, rfl, ha, gr_cell hg (by rw [addr_block]; omega) hc⟩
set_option maxRecDepth 20000 in
set_option maxHeartbeats 2000000 in
theorem srcN (g : Nat) (o : Option Addr) (c : List UInt8) (cp a z : Nat) (most : Int) (w : World) (h : Src w g o c.length cp a z) (hc : Code g w o c) (ha : a ≤ 1000000000000) (hl : c.length ≤ 1048576) (hm : most ≤ 4000000000) (h1 : 1 ≤ most) :
    Calls Tryz.prog 17 #[.pointer (some ⟨g, 0, none⟩), .int .i64 most] w fun e w' => ∃ v : Nat, e = .returned (.int .i64 v) ∧ (v : Int) < most ∧ Src w' g o c.length cp (a + 1) z ∧ w.grownBy w' (some g) := by
  have c0 := h.c0
  have c1 := h.c1
  have f1 := h.f1
  have Hs : Hid (Src (w.setCell ⟨g, 1, none⟩ (.int .i64 ((a : Int) + 1))) g o c.length cp (a + 1) z) := h.set1 _ _ (by omega)
  have hg := gr_set w g 1 (.int .i64 ((a : Int) + 1))
  have Hg : Hid (w.grownBy (w.setCell ⟨g, 1, none⟩ (.int .i64 ((a : Int) + 1))) (some g)) := hg
  have HC : Hid (Code g (w.setCell ⟨g, 1, none⟩ (.int .i64 ((a : Int) + 1))) o c) := hc.grown hg (Nat.le_refl _)
  clear h hc hg
  by_cases hz : c.length = 0
  · have hz2 : ((c.length : Int) == 0) = true := by rw [hz]; rfl
    go_enter Tryz.func17, Tryz.ntmps17
    go_wp2
    go_ret
    refine ⟨((a : Int) * 7 % most).toNat, ?_, ?_, Hs.out, Hg.out⟩
    · have := Int.emod_nonneg ((a : Int) * 7) (show most ≠ 0 by omega)
      rw [Int.toNat_of_nonneg this]
      rfl
    · have := Int.emod_nonneg ((a : Int) * 7) (show most ≠ 0 by omega)
      have := Int.emod_lt_of_pos ((a : Int) * 7) (show 0 < most by omega)
      omega
  · have hz2 : ((c.length : Int) == 0) = false := beq_eq_false_iff_ne.2 (by omega)
    obtain ⟨r, hr⟩ : ∃ r, a % c.length = r := ⟨_, rfl⟩
    obtain ⟨q, hq⟩ : ∃ q, a / c.length = q := ⟨_, rfl⟩
    obtain ⟨r2, hr2⟩ : ∃ r2, (a + 1) % c.length = r2 := ⟨_, rfl⟩
    have hrl : r < c.length := by rw [← hr]; exact Nat.mod_lt _ (by omega)
    have hr2l : r2 < c.length := by rw [← hr2]; exact Nat.mod_lt _ (by omega)
    have hql : q ≤ a := by rw [← hq]; exact Nat.div_le_self _ _
    have hrI : (a : Int) % (c.length : Int) = (r : Int) := by rw [← hr]; rfl
    have hqI : (a : Int) / (c.length : Int) = (q : Int) := by rw [← hq]; rfl
    have hr2I : ((a : Int) + 1) % (c.length : Int) = (r2 : Int) := by rw [← hr2]; rfl
    obtain ⟨ad, rfl, had, k1⟩ := HC.out r hrl
    obtain ⟨ad2, hade, -, k2⟩ := HC.out r2 hr2l
    obtain rfl := Option.some.inj hade
    have b1 : c[r].toNat < 256 := UInt8.toNat_lt _
    have b2 : c[r2].toNat < 256 := UInt8.toNat_lt _
    generalize c[r].toNat = x1 at *
    generalize c[r2].toNat = x2 at *
    have hne : ¬ (c.length : Int) = 0 := by omega
    clear hr hq hr2 hade HC hz
    go_enter Tryz.func17, Tryz.ntmps17
    go_wp2
    go_quiet (fail)
    obtain ⟨V, hV⟩ : ∃ V, V = (w.setCell ⟨g, 1, none⟩ (.int .i64 ((a : Int) + 1))).drewN nq := ⟨_, rfl⟩
    have HsV : Hid (Src V g (some ad) c.length cp (a + 1) z) := by rw [hV]; exact ⟨Hs.out.blk⟩
    have HgV : Hid (w.grownBy V (some g)) := by rw [hV]; exact gr_trans Hg.out (gr_below (below_drewN (Below.refl _ _) _))
    have c0V := HsV.out.c0
    have k2V : V.cell? (ad.add r2) = some (.int .u8 (x2 : Int)) := by rw [hV]; exact k2
    rw [← hV]
    clear hV k1 k2 c0 c1 f1 Hs Hg
    have nn : ∀ x : Int, (x % most).toNat = x % most := fun x => Int.toNat_of_nonneg (Int.emod_nonneg x (by omega))
    have nl : ∀ x : Int, x % most < most := fun x => Int.emod_lt_of_pos x (by omega)
    have Hnn := (show Hid _ from nn)
    have Hnl := (show Hid _ from nl)
    clear nn nl
    by_cases hbig : 200 < most
    · go_wp2
      go_quiet (fail)
      have HsV2 : Hid (Src (V.drewN nq) g (some ad) c.length cp (a + 1) z) := ⟨HsV.out.blk⟩
      have HgV2 : Hid (w.grownBy (V.drewN nq) (some g)) := gr_trans HgV.out (gr_below (below_drewN (Below.refl _ _) _))
      go_wp2
      go_ret
      refine ⟨((((x1 : Int) + q * 37) * 251 + x2 * 13 + a) % most).toNat, ?_, ?_, HsV2.out, HgV2.out⟩
      · rw [Hnn.out]; rfl
      · rw [Hnn.out]; exact Hnl.out _
    · go_wp2
      go_ret
      refine ⟨(((x1 : Int) + q * 37) % most).toNat, ?_, ?_, HsV.out, HgV.out⟩
      · rw [Hnn.out]; rfl
      · rw [Hnn.out]; exact Hnl.out _
set_option maxRecDepth 20000 in
theorem Src.belowB {w w' : World} {g n cp a z B : Nat} {o : Option Addr} (h : Src w g o n cp a z) (hb : Below B w w') (hB : g < B) : Src w' g o n cp a z :=
  ⟨by rw [hb.block g hB]; exact h.blk⟩
set_option maxRecDepth 20000 in
theorem gr_belowB {w0 w w' : World} {g : Nat} (h : w0.grownBy w (some g)) (hb : Below w0.heap.size w w') : w0.grownBy w' (some g) :=
  ⟨hb.os.trans h.os, hb.tape.trans h.tape, hb.output.trans h.output, Nat.le_trans h.size hb.size, fun i hi hr => (hb.block i hi).trans (h.block i hi hr)⟩
set_option maxRecDepth 20000 in
theorem hp_alloc (w : World) (o : Obj) : (w.alloc o).heap[w.heap.size]? = some o := by
  show (w.heap.push o)[w.heap.size]? = some o
  simp
set_option maxRecDepth 20000 in
theorem hp_lt {w : World} {k : Nat} {o : Obj} (h : w.heap[k]? = some o) : k < w.heap.size := by
  by_cases hg : k < w.heap.size
  · exact hg
  · rw [Array.getElem?_eq_none (by omega)] at h; cases h
set_option maxRecDepth 20000 in
theorem Own.gr {B g : Nat} {v : Value} {p : List UInt8} {w w' : World} (h : Own B v p w) (hg : w.grownBy w' (some g)) (hB : g < B) : Own B v p w' := by
  obtain ⟨h1, h2⟩ := h
  refine ⟨h1, ?_⟩
  rcases h2 with h2 | ⟨k, cap, cur, e1, e2, e3, e4⟩
  · exact .inl h2
  · refine .inr ⟨k, cap, cur, e1, e2, ?_, e4⟩
    rw [hg.block k (hp_lt e3) (by intro e; have := Option.some.inj e; omega)]
    exact e3
set_option maxRecDepth 20000 in
theorem srcOne (g : Nat) (o : Option Addr) (c : List UInt8) (cp a z : Nat) (most : Int) (w : World) (h : Src w g o c.length cp a z) (hc : Code g w o c) (ha : a ≤ 1000000000000) (hl : c.length ≤ 1048576) (hm : most ≤ 4000000000) (h1 : 1 ≤ most) :
    Calls Tryz.prog 40 #[.pointer (some ⟨g, 0, none⟩), .int .i64 most] w fun e w' => ∃ b : Bool, e = .returned (.bool b) ∧ Src w' g o c.length cp (a + 1) z ∧ w.grownBy w' (some g) := by
  have hN := srcN g o c cp a z most w h hc ha hl hm h1
  clear h hc
  go_enter Tryz.func40, Tryz.ntmps40
  go_wp2_with fail
  refine hN.mono ?_
  rintro e w1 ⟨v, rfl, hv, hs, hg⟩
  go_wp2
  go_ret
  exact ⟨_, rfl, hs, hg⟩
set_option maxRecDepth 20000 in
theorem srcNew (o : Option Addr) (n cp : Nat) (w : World) (hn : n ≤ 1048576) :
    Calls Tryz.prog 15 #[.slice o n cp] w fun e w' => ∃ z, e = .returned (.pointer (some ⟨w.heap.size, 0, none⟩)) ∧ z ≤ 12 ∧ Src w' w.heap.size o n cp 0 z ∧ Below w.heap.size w w' := by
  by_cases h12 : 12 < n / 16
  · have h12i : (12 : Int) < (n : Int) / 16 := by omega
    go_enter Tryz.func15, Tryz.ntmps15
    go_wp2
    go_ret
    first | exact ⟨12, rfl, Nat.le_refl _, ⟨hp_alloc _ _⟩, (Below.refl _ _).alloc (Nat.le_refl _) _⟩ | exact ⟨rfl, 12, Nat.le_refl _, ⟨hp_alloc _ _⟩, (Below.refl _ _).alloc (Nat.le_refl _) _⟩
  · have h12i : ¬ (12 : Int) < (n : Int) / 16 := by omega
    go_enter Tryz.func15, Tryz.ntmps15
    go_wp2
    go_ret
    first | exact ⟨rfl, n / 16, by omega, ⟨hp_alloc _ _⟩, (Below.refl _ _).alloc (Nat.le_refl _) _⟩ | exact ⟨n / 16, rfl, by omega, ⟨hp_alloc _ _⟩, (Below.refl _ _).alloc (Nat.le_refl _) _⟩
end Go.Proofs.YtadoifnfgoonaaaGreatDoor
namespace Go.Proofs.YtadoifnfgoonaaaGreatDoor
open Go.RowKit Go.Lib
set_option maxRecDepth 20000 in
theorem heap_alloc_at (w : World) (o : Obj) : (w.alloc o).heap[w.heap.size]? = some o := by
  show (w.heap.push o)[w.heap.size]? = some o
  simp
set_option maxRecDepth 20000 in
theorem heap_lt {w : World} {b : Nat} {o : Obj} (h : w.heap[b]? = some o) : b < w.heap.size := by
  rw [Array.getElem?_eq_some_iff] at h; exact h.1
set_option maxRecDepth 20000 in
theorem heap_alloc_old (w : World) (o : Obj) (g : Nat) (h : g < w.heap.size) : (w.alloc o).heap[g]? = w.heap[g]? := by
  show (w.heap.push o)[g]? = w.heap[g]?
  simp [Array.getElem?_push]
  omega
set_option maxRecDepth 20000 in
theorem two_cells {w : World} {b : Nat} {x y : Value} {t : TypeId} {z : Nat × Nat} (h : w.heap[b]? = some (.cells #[x, y] t z)) : w.cell? ⟨b, 0, none⟩ = some x ∧ w.cell? ⟨b, 1, none⟩ = some y := by
  constructor <;> simp [World.cell?, h]
set_option maxRecDepth 20000 in
theorem wpL_load_row {P : Program} {w : World} {ops : Array Oper} {rest : List Oper} {o : Oper} {a : Act} {Q : Exit → Act → World → Prop} (hg : o.guard = none) (ty : TypeId) (x : Operand) (ho : o.op = .load ty x)
    (g : Nat) (cs : Array Value) (t : TypeId) (fr : Nat × Nat) (d : TypeDesc) (hx : a.eval x = .pointer (some ⟨g, 0, none⟩)) (hgp : w.heap[g]? = some (.cells cs t fr))
    (hu : P.underlying ty = some d) (hd : (match d with | .struct _ | .array _ _ => true | _ => false) = true) (hi : (P.info? ty).map (·.size) = some cs.size)
    (h : wpList P ops Q rest (a.put o.dst (.agg cs)) w) : wpList P ops Q (o :: rest) a w := by
  refine wpList_plain hg fun K' hK' => ?_
  unfold Oper.wp execOp
  simp only [ho, hx, Instr.loadAt, Instr.sureAddr, Sem.run_bind, Sem.run_pure, Result.andThen_ok, run_loadVar_row w g t ty cs fr d hgp hu hd hi]
  exact hK' _ _ h
set_option maxRecDepth 20000 in
theorem wpL_store_row {P : Program} {w : World} {ops : Array Oper} {rest : List Oper} {o : Oper} {a : Act} {Q : Exit → Act → World → Prop} (hg : o.guard = none) (ty : TypeId) (x y : Operand) (ho : o.op = .store ty x y)
    (g : Nat) (cells : Array Value) (hx : a.eval x = .pointer (some ⟨g, 0, none⟩)) (hy : a.eval y = .agg cells)
    (t : TypeId) (old : Array Value) (hgp : w.heap[g]? = some (.cells old t (0, 0))) (hi : (P.info? ty).map (·.size) = some cells.size)
    (hold : old.size = cells.size) (h1 : cells.all (·.oneCell') = true)
    (h : wpList P ops Q rest (a.put o.dst undef) (w.setRow g cells)) : wpList P ops Q (o :: rest) a w := by
  refine wpList_plain hg fun K' hK' => ?_
  exact wp_store_row ty x y ho g cells hx hy t old hgp hi hold h1 (hK' _ _ h)
set_option maxRecDepth 20000 in
theorem grown_setRow (w : World) (g : Nat) (cs : Array Value) : w.grownBy (w.setRow g cs) (some g) :=
  ⟨rfl, rfl, rfl, by simp, fun i _ hi => setRow_other w g i cs (fun e => hi (by rw [e]))⟩
end Go.Proofs.YtadoifnfgoonaaaGreatDoor
namespace Go.Proofs.YtadoifnfgoonaaaGreatDoor
open Go.RowKit Go.Lib
set_option maxRecDepth 20000 in
theorem tb_cases (c : UInt8) : c.toNat < 32 ∧ Pl.tb c = false ∨ 32 ≤ c.toNat ∧ ((c.toNat : Int) == 127) = true ∧ Pl.tb c = false ∨ 32 ≤ c.toNat ∧ ((c.toNat : Int) == 127) = false ∧ Pl.tb c = true := by
  by_cases h1 : c.toNat < 32
  · exact .inl ⟨h1, by simp [Pl.tb]; omega⟩
  · cases h3 : ((c.toNat : Int) == 127)
    · refine .inr (.inr ⟨by omega, rfl, ?_⟩)
      have := Pl.byte_ne c 127 _ rfl h3
      simp [Pl.tb, this]; omega
    · refine .inr (.inl ⟨by omega, rfl, ?_⟩)
      rw [Pl.byte_eq c 127 _ rfl h3]; rfl
set_option maxRecDepth 20000 in
theorem implTextByte (c : UInt8) (w : World) : Calls Tryz.prog 63 #[.int .u8 (c.toNat : Int)] w fun e w' => e = .returned (.bool (Pl.tb c)) ∧ w = w' := by
  have h8 : c.toNat < 256 := UInt8.toNat_lt _
  rcases tb_cases c with ⟨h, hb⟩ | ⟨h, h1, hb⟩ | ⟨h, h1, hb⟩ <;> rw [hb] <;> clear hb
  · go_enter Tryz.func63, Tryz.ntmps63
    go_wp2
    go_ret
    exact ⟨rfl, rfl⟩
  · have h3 : ((c.toNat : Int) != 127) = false := by rw [bne, h1]; rfl
    go_enter Tryz.func63, Tryz.ntmps63
    go_wp2
    go_ret
    exact ⟨rfl, rfl⟩
  · have h3 : ((c.toNat : Int) != 127) = true := by rw [bne, h1]; rfl
    go_enter Tryz.func63, Tryz.ntmps63
    go_wp2
    go_ret
    exact ⟨rfl, rfl⟩
set_option maxRecDepth 20000 in
theorem kindText : Kind 63 Pl.tb := ⟨Go.Proofs.enters_of Tryz.func63 (by kernel_rfl) rfl, implTextByte⟩
def Pl.letter (c : UInt8) : Bool := decide (65 ≤ c.toNat ∧ c.toNat ≤ 90) || decide (97 ≤ c.toNat ∧ c.toNat ≤ 122)
def Pl.digit (c : UInt8) : Bool := decide (48 ≤ c.toNat ∧ c.toNat ≤ 57)
set_option maxRecDepth 20000 in
/-- The ranges of a byte. -/
theorem range_cases (c : UInt8) : (c.toNat < 48 ∧ Pl.alnum c = false) ∨ (48 ≤ c.toNat ∧ c.toNat ≤ 57 ∧ Pl.alnum c = true) ∨ (58 ≤ c.toNat ∧ c.toNat ≤ 64 ∧ Pl.alnum c = false) ∨ (65 ≤ c.toNat ∧ c.toNat ≤ 90 ∧ Pl.alnum c = true) ∨
    (91 ≤ c.toNat ∧ c.toNat ≤ 96 ∧ Pl.alnum c = false) ∨ (97 ≤ c.toNat ∧ c.toNat ≤ 122 ∧ Pl.alnum c = true) ∨ (123 ≤ c.toNat ∧ c.toNat ≤ 127 ∧ Pl.alnum c = false) ∨ (128 ≤ c.toNat ∧ Pl.alnum c = true) := by
  unfold Pl.alnum
  by_cases h1 : c.toNat < 48
  · exact .inl ⟨h1, by simp; omega⟩
  by_cases h2 : c.toNat ≤ 57
  · exact .inr (.inl ⟨by omega, h2, by simp; omega⟩)
  by_cases h3 : c.toNat ≤ 64
  · exact .inr (.inr (.inl ⟨by omega, h3, by simp; omega⟩))
  by_cases h4 : c.toNat ≤ 90
  · exact .inr (.inr (.inr (.inl ⟨by omega, h4, by simp; omega⟩)))
  by_cases h5 : c.toNat ≤ 96
  · exact .inr (.inr (.inr (.inr (.inl ⟨by omega, h5, by simp; omega⟩))))
  by_cases h6 : c.toNat ≤ 122
  · exact .inr (.inr (.inr (.inr (.inr (.inl ⟨by omega, h6, by simp; omega⟩)))))
  by_cases h7 : c.toNat ≤ 127
  · exact .inr (.inr (.inr (.inr (.inr (.inr (.inl ⟨by omega, h7, by simp; omega⟩))))))
  · exact .inr (.inr (.inr (.inr (.inr (.inr (.inr ⟨by omega, by simp; omega⟩))))))
set_option maxRecDepth 20000 in
theorem implLetter (c : UInt8) (w : World) : Calls Tryz.prog 95 #[.int .u8 (c.toNat : Int)] w fun e w' => e = .returned (.bool (Pl.letter c)) ∧ w = w' := by
  have h8 : c.toNat < 256 := UInt8.toNat_lt _
  rcases range_cases c with ⟨h0, ha⟩ | ⟨h0, h1, ha⟩ | ⟨h0, h1, ha⟩ | ⟨h0, h1, ha⟩ | ⟨h0, h1, ha⟩ | ⟨h0, h1, ha⟩ | ⟨h0, h1, ha⟩ | ⟨h0, ha⟩ <;> clear ha
  all_goals
    first | rw [show Pl.letter c = true from by simp [Pl.letter]; omega] | rw [show Pl.letter c = false from by simp [Pl.letter]; omega]
    go_enter Tryz.func95, Tryz.ntmps95
    go_wp2
    go_ret
    first | exact ⟨rfl, rfl⟩ | exact ⟨congrArg (fun b => Ending.returned (.bool b)) (by simp; omega), rfl⟩
set_option maxRecDepth 20000 in
theorem implDigit (c : UInt8) (w : World) : Calls Tryz.prog 96 #[.int .u8 (c.toNat : Int)] w fun e w' => e = .returned (.bool (Pl.digit c)) ∧ w = w' := by
  have h8 : c.toNat < 256 := UInt8.toNat_lt _
  by_cases h0 : 48 ≤ c.toNat
  · rw [show Pl.digit c = decide ((c.toNat : Int) ≤ 57) from by unfold Pl.digit; by_cases h : c.toNat ≤ 57 <;> simp [h] <;> omega]
    go_enter Tryz.func96, Tryz.ntmps96
    go_wp2
    go_ret
    exact ⟨rfl, rfl⟩
  · rw [show Pl.digit c = false from by simp [Pl.digit]; omega]
    go_enter Tryz.func96, Tryz.ntmps96
    go_wp2
    go_ret
    exact ⟨rfl, rfl⟩
set_option maxRecDepth 20000 in
theorem libIndexByte (c : UInt8) (w : World) : Calls Tryz.prog 97 #[.string ⟨#[33, 35, 36, 37, 38, 39, 42, 43, 45, 47, 61, 63, 94, 95, 123, 124, 125, 126, 96]⟩, .int .u8 (c.toNat : Int)] w fun e w' => e = .returned (.int .i64 (indexByte Pl.signs c)) ∧ w = w' := by
  refine (Tryz.strings_IndexByte _ _ w).mono ?_
  rintro e w' ⟨rfl, rfl⟩
  refine ⟨?_, rfl⟩
  have : (c.toNat : Int).toNat.toUInt8 = c := by simp
  rw [this]
  rfl
set_option maxRecDepth 20000 in
set_option maxHeartbeats 1000000 in
theorem implAtomByte (c : UInt8) (w : World) : Calls Tryz.prog 66 #[.int .u8 (c.toNat : Int)] w fun e w' => e = .returned (.bool (Pl.atom c)) ∧ w = w' := by
  have h8 : c.toNat < 256 := UInt8.toNat_lt _
  have hx := fun w => libIndexByte c w
  have hL := fun w => implLetter c w
  have hD := fun w => implDigit c w
  unfold Pl.atom
  generalize indexByte Pl.signs c = i at hx
  rcases range_cases c with ⟨h0, ha⟩ | ⟨h0, h1, ha⟩ | ⟨h0, h1, ha⟩ | ⟨h0, h1, ha⟩ | ⟨h0, h1, ha⟩ | ⟨h0, h1, ha⟩ | ⟨h0, h1, ha⟩ | ⟨h0, ha⟩ <;> rw [ha] <;> clear ha <;> (try rw [Bool.false_or]) <;> (try rw [Bool.true_or])
  all_goals
    first | simp only [show Pl.letter c = true from by simp [Pl.letter]; omega] at hL | simp only [show Pl.letter c = false from by simp [Pl.letter]; omega] at hL
    first | simp only [show Pl.digit c = true from by simp [Pl.digit]; omega] at hD | simp only [show Pl.digit c = false from by simp [Pl.digit]; omega] at hD
    go_enter Tryz.func66, Tryz.ntmps66
    go_wp2_with first | (go_at_call 95; go_must (refine (hL _).mono ?_; rintro e w2 ⟨rfl, rfl⟩)) | (go_at_call 96; go_must (refine (hD _).mono ?_; rintro e w2 ⟨rfl, rfl⟩)) | (go_at_call 97; go_must (refine (hx _).mono ?_; rintro e w2 ⟨rfl, rfl⟩))
    go_ret
    first | exact ⟨rfl, rfl⟩ | exact ⟨congrArg (fun b => Ending.returned (.bool b)) (by simp; omega), rfl⟩
set_option maxRecDepth 20000 in
theorem kindAtom : Kind 66 Pl.atom := ⟨Go.Proofs.enters_of Tryz.func66 (by kernel_rfl) rfl, implAtomByte⟩
end Go.Proofs.YtadoifnfgoonaaaGreatDoor
