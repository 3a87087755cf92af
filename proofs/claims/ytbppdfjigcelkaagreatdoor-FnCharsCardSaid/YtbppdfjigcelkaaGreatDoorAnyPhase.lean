
/- The walks' base: a long text, a text whose bytes are all of a kind, the copy of a text. -/

/- A source of draws: its methods n and one; its making. -/

/- A source of draws: words and bytes. -/

/- A source of draws: long texts, names of fields; the draws of Lines. -/

/- A region that draws its order, by an invariant: one case an operation, whatever the order. Laws of no program. -/

/- A region that draws its order, by what its operations yield: one case an operation, whatever the order. Laws of no program. -/

/- A region that draws its order and ends in operations that wait for all others: one case an operation, then the end by itself. Laws of no program. -/
import Derived.Test.YtbppdfjigcelkaaGreatDoorChecked
import Derived.Test.YtbppdfjigcelkaaGreatDoorBytes
import Derived.Test.YtbppdfjigcelkaaGreatDoorShelf
import Derived.Shelf.Abstract
import Derived.WalkKit
import Derived.WalkLawsBesides
import Derived.WalkSpells
import Derived.Laws.OwnMore
import Derived.Laws.Pointers
import Derived.Lib.QuietBelow
import Derived.Deep.QuietTactic
import Derived.BigQuiet
import Derived.Deep.RegionWith
import Derived.WalkSmall
import Derived.RegionTactic
namespace Go.Proofs.YtbppdfjigcelkaaGreatDoor
open Go.RowKit Go.Lib
set_option maxRecDepth 20000 in
theorem Tryz.info5 : (Tryz.prog.info? 5).map (fun i => (i.zero, i.size, i.bytes)) = some (some (.int .u8 0), 1, 1) := by kernel_rfl
set_option maxRecDepth 20000 in
theorem implTooLong (s : ByteArray) (w : World) (_hs : s.size ≤ 1100000) :
    Calls Tryz.prog 23 #[.string s] w fun e w' => e = .returned (.bool (decide ((100000 : Int) < (s.size : Int)))) ∧ w = w' := by
  go_enter Tryz.func23, Tryz.ntmps23
  go_wp2
  go_ret
  exact ⟨rfl, rfl⟩
/-- A function value that tells a byte's kind. -/
structure Kind (f : FuncId) (K : UInt8 → Bool) : Prop where
  enters : ∀ (args : Array Value) (w : World), (callFunc f args).run Tryz.prog w = .ok (.enter f args) w
  calls : ∀ (c : UInt8) (w : World), Calls Tryz.prog f #[.int .u8 (c.toNat : Int)] w fun e w' => e = .returned (.bool (K c)) ∧ w = w'
end Go.Proofs.YtbppdfjigcelkaaGreatDoor
namespace Go.Proofs.YtbppdfjigcelkaaGreatDoor
open Go.RowKit Go.Lib
/-- Bytes that were handed in, in blocks below B. -/
def Code (B : Nat) (w : World) (o : Option Addr) (c : List UInt8) : Prop := ∀ k (h : k < c.length), ∃ a, o = some a ∧ a.block < B ∧ w.cell? (a.add k) = some (.int .u8 (c[k].toNat : Int))
/-- A source of draws in memory. -/
structure Src (w : World) (g : Nat) (o : Option Addr) (n cp a z : Nat) : Prop where
  blk : w.heap[g]? = some (.cells #[.slice o n cp, .int .i64 a, .int .i64 z] 44)
set_option maxRecDepth 20000 in
theorem Src.c0 {w : World} {g n cp a z : Nat} {o : Option Addr} (h : Src w g o n cp a z) : w.cell? ⟨g, 0, none⟩ = some (.slice o n cp) := by simp [World.cell?, h.blk]
set_option maxRecDepth 20000 in
theorem Src.c1 {w : World} {g n cp a z : Nat} {o : Option Addr} (h : Src w g o n cp a z) : w.cell? ⟨g, 1, none⟩ = some (.int .i64 a) := by simp [World.cell?, h.blk]
set_option maxRecDepth 20000 in
theorem Src.c2 {w : World} {g n cp a z : Nat} {o : Option Addr} (h : Src w g o n cp a z) : w.cell? ⟨g, 2, none⟩ = some (.int .i64 z) := by simp [World.cell?, h.blk]
set_option maxRecDepth 20000 in
theorem Src.f1 {w : World} {g n cp a z : Nat} {o : Option Addr} (h : Src w g o n cp a z) : w.frozen? ⟨g, 1, none⟩ = false := by simp [World.frozen?, h.blk]
set_option maxRecDepth 20000 in
theorem Src.lt {w : World} {g n cp a z : Nat} {o : Option Addr} (h : Src w g o n cp a z) : g < w.heap.size := by
  have h := h.blk
  by_cases hg : g < w.heap.size
  · exact hg
  · rw [Array.getElem?_eq_none (by omega)] at h; cases h
set_option maxRecDepth 20000 in
theorem Src.below {w w' : World} {g n cp a z : Nat} {o : Option Addr} (h : Src w g o n cp a z) (hb : Below w.heap.size w w') : Src w' g o n cp a z :=
  ⟨by rw [hb.block g h.lt]; exact h.blk⟩
set_option maxRecDepth 20000 in
theorem Src.set1 {w : World} {g n cp a z : Nat} {o : Option Addr} (h : Src w g o n cp a z) (m : Int) (k : Nat) (hm : m = k) : Src (w.setCell ⟨g, 1, none⟩ (.int .i64 m)) g o n cp k z := by
  subst hm
  exact ⟨by simp [World.setCell, Array.getElem?_modify, h.blk]⟩
set_option maxRecDepth 20000 in
theorem gr_refl (w : World) (r : Option Nat) : w.grownBy w r := ⟨rfl, rfl, rfl, Nat.le_refl _, fun _ _ _ => rfl⟩
set_option maxRecDepth 20000 in
theorem gr_trans {a b c : World} {r : Option Nat} (h : a.grownBy b r) (k : b.grownBy c r) : a.grownBy c r :=
  ⟨k.os.trans h.os, k.tape.trans h.tape, k.output.trans h.output, Nat.le_trans h.size k.size, fun i hi hr => (k.block i (Nat.lt_of_lt_of_le hi h.size) hr).trans (h.block i hi hr)⟩
set_option maxRecDepth 20000 in
theorem gr_below {w w' : World} {r : Option Nat} (h : Below w.heap.size w w') : w.grownBy w' r := ⟨h.os, h.tape, h.output, h.size, fun k hk _ => h.block k hk⟩
set_option maxRecDepth 20000 in
theorem gr_set (w : World) (g j : Nat) (v : Value) : w.grownBy (w.setCell ⟨g, j, none⟩ v) (some g) := by
  refine ⟨rfl, rfl, rfl, by simp [World.setCell], ?_⟩
  intro k hk hr
  have : g ≠ k := fun e => hr (by rw [e])
  simp [World.setCell, Array.getElem?_modify, this]
set_option maxRecDepth 20000 in
theorem gr_cell {w w' : World} {g : Nat} (h : w.grownBy w' (some g)) {a : Addr} {v : Value} (ha : a.block ≠ g) (hc : w.cell? a = some v) : w'.cell? a = some v := by
  have hlt : a.block < w.heap.size := World.block_lt_of_cell? _ _ hc
  unfold World.cell? at hc ⊢
  rw [h.block a.block hlt (by intro e; exact ha (Option.some.inj e))]
  exact hc
set_option maxRecDepth 20000 in
theorem addr_block (a : Addr) (k : Nat) : (a.add k).block = a.block := by unfold Addr.add; split <;> rfl
set_option maxRecDepth 20000 in
theorem Code.grown {B : Nat} {w w' : World} {o : Option Addr} {c : List UInt8} {g : Nat} (h : Code B w o c) (hg : w.grownBy w' (some g)) (hB : B ≤ g) : Code B w' o c := by
  intro k hk
  obtain ⟨a, rfl, ha, hc⟩ := h k hk
  exact ⟨a, rfl, ha, gr_cell hg (by rw [addr_block]; omega) hc⟩
set_option maxRecDepth 20000 in
set_option maxHeartbeats 2000000 in
theorem srcN (g : Nat) (o : Option Addr) (c : List UInt8) (cp a z : Nat) (most : Int) (w : World) (h : Src w g o c.length cp a z) (hc : Code g w o c) (ha : a ≤ 1000000000000) (hl : c.length ≤ 1048576) (hm : most ≤ 4000000000) (h1 : 1 ≤ most) :
    Calls Tryz.prog 17 #[.pointer (some ⟨g, 0, none⟩), .int .i64 most] w fun e w' => ∃ v : Nat, e = .returned (.int .i64 v) ∧ (v : Int) < most ∧ Src w' g o c.length cp (a + 1) z ∧ w.grownBy w' (some g) := by
  have c0 := h.c0
  have c1 := h.c1
  have f1 := h.f1
  have Hs : Hid (Src (w.setCell ⟨g, 1, none⟩ (.int .i64 ((a : Int) + 1))) g o c.length cp (a + 1) z) := h.set1 _ _ (by omega)
  have hg := gr_set w g 1 (.int .i64 ((a : Int) + 1))
  have Hg : Hid (w.grownBy (w.setCell ⟨g, 1, none⟩ (.int .i64 ((a : Int) + 1))) (some g)) := hg
  have HC : Hid (Code g (w.setCell ⟨g, 1, none⟩ (.int .i64 ((a : Int) + 1))) o c) := hc.grown hg (Nat.le_refl _)
  clear h hc hg
  by_cases hz : c.length = 0
  · have hz2 : ((c.length : Int) == 0) = true := by rw [hz]; rfl
    go_enter Tryz.func17, Tryz.ntmps17
    go_wp2
    go_ret
    refine ⟨((a : Int) * 7 % most).toNat, ?_, ?_, Hs.out, Hg.out⟩
    · have := Int.emod_nonneg ((a : Int) * 7) (show most ≠ 0 by omega)
      rw [Int.toNat_of_nonneg this]
      rfl
    · have := Int.emod_nonneg ((a : Int) * 7) (show most ≠ 0 by omega)
      have := Int.emod_lt_of_pos ((a : Int) * 7) (show 0 < most by omega)
      omega
  · have hz2 : ((c.length : Int) == 0) = false := beq_eq_false_iff_ne.2 (by omega)
    obtain ⟨r, hr⟩ : ∃ r, a % c.length = r := ⟨_, rfl⟩
    obtain ⟨q, hq⟩ : ∃ q, a / c.length = q := ⟨_, rfl⟩
    obtain ⟨r2, hr2⟩ : ∃ r2, (a + 1) % c.length = r2 := ⟨_, rfl⟩
    have hrl : r < c.length := by rw [← hr]; exact Nat.mod_lt _ (by omega)
    have hr2l : r2 < c.length := by rw [← hr2]; exact Nat.mod_lt _ (by omega)
    have hql : q ≤ a := by rw [← hq]; exact Nat.div_le_self _ _
    have hrI : (a : Int) % (c.length : Int) = (r : Int) := by rw [← hr]; rfl
    have hqI : (a : Int) / (c.length : Int) = (q : Int) := by rw [← hq]; rfl
    have hr2I : ((a : Int) + 1) % (c.length : Int) = (r2 : Int) := by rw [← hr2]; rfl
    obtain ⟨ad, rfl, had, k1⟩ := HC.out r hrl
    obtain ⟨ad2, hade, -, k2⟩ := HC.out r2 hr2l
    obtain rfl := Option.some.inj hade
    have b1 : c[r].toNat < 256 := UInt8.toNat_lt _
    have b2 : c[r2].toNat < 256 := UInt8.toNat_lt _
    generalize c[r].toNat = x1 at *
    generalize c[r2].toNat = x2 at *
    have hne : ¬ (c.length : Int) = 0 := by omega
    clear hr hq hr2 hade HC hz
    go_enter Tryz.func17, Tryz.ntmps17
    go_wp2
    go_quiet (fail)
    obtain ⟨V, hV⟩ : ∃ V, V = (w.setCell ⟨g, 1, none⟩ (.int .i64 ((a : Int) + 1))).drewN nq := ⟨_, rfl⟩
    have HsV : Hid (Src V g (some ad) c.length cp (a + 1) z) := by rw [hV]; exact ⟨Hs.out.blk⟩
    have HgV : Hid (w.grownBy V (some g)) := by rw [hV]; exact gr_trans Hg.out (gr_below (below_drewN (Below.refl _ _) _))
    have c0V := HsV.out.c0
    have k2V : V.cell? (ad.add r2) = some (.int .u8 (x2 : Int)) := by rw [hV]; exact k2
    rw [← hV]
    clear hV k1 k2 c0 c1 f1 Hs Hg
    have nn : ∀ x : Int, (x % most).toNat = x % most := fun x => Int.toNat_of_nonneg (Int.emod_nonneg x (by omega))
    have nl : ∀ x : Int, x % most < most := fun x => Int.emod_lt_of_pos x (by omega)
    have Hnn := (show Hid _ from nn)
    have Hnl := (show Hid _ from nl)
    clear nn nl
    by_cases hbig : 200 < most
    · go_wp2
      go_quiet (fail)
      have HsV2 : Hid (Src (V.drewN nq) g (some ad) c.length cp (a + 1) z) := ⟨HsV.out.blk⟩
      have HgV2 : Hid (w.grownBy (V.drewN nq) (some g)) := gr_trans HgV.out (gr_below (below_drewN (Below.refl _ _) _))
      go_wp2
      go_ret
      refine ⟨((((x1 : Int) + q * 37) * 251 + x2 * 13 + a) % most).toNat, ?_, ?_, HsV2.out, HgV2.out⟩
      · rw [Hnn.out]; rfl
      · rw [Hnn.out]; exact Hnl.out _
    · go_wp2
      go_ret
      refine ⟨(((x1 : Int) + q * 37) % most).toNat, ?_, ?_, HsV.out, HgV.out⟩
      · rw [Hnn.out]; rfl
      · rw [Hnn.out]; exact Hnl.out _
set_option maxRecDepth 20000 in
theorem Src.belowB {w w' : World} {g n cp a z B : Nat} {o : Option Addr} (h : Src w g o n cp a z) (hb : Below B w w') (hB : g < B) : Src w' g o n cp a z :=
  ⟨by rw [hb.block g hB]; exact h.blk⟩
set_option maxRecDepth 20000 in
theorem gr_belowB {w0 w w' : World} {g : Nat} (h : w0.grownBy w (some g)) (hb : Below w0.heap.size w w') : w0.grownBy w' (some g) :=
  ⟨hb.os.trans h.os, hb.tape.trans h.tape, hb.output.trans h.output, Nat.le_trans h.size hb.size, fun i hi hr => (hb.block i hi).trans (h.block i hi hr)⟩
set_option maxRecDepth 20000 in
theorem hp_alloc (w : World) (o : Obj) : (w.alloc o).heap[w.heap.size]? = some o := by
  show (w.heap.push o)[w.heap.size]? = some o
  simp
set_option maxRecDepth 20000 in
theorem hp_lt {w : World} {k : Nat} {o : Obj} (h : w.heap[k]? = some o) : k < w.heap.size := by
  by_cases hg : k < w.heap.size
  · exact hg
  · rw [Array.getElem?_eq_none (by omega)] at h; cases h
set_option maxRecDepth 20000 in
theorem Own.gr {B g : Nat} {v : Value} {p : List UInt8} {w w' : World} (h : Own B v p w) (hg : w.grownBy w' (some g)) (hB : g < B) : Own B v p w' := by
  obtain ⟨h1, h2⟩ := h
  refine ⟨h1, ?_⟩
  rcases h2 with h2 | ⟨k, cap, cur, e1, e2, e3, e4⟩
  · exact .inl h2
  · refine .inr ⟨k, cap, cur, e1, e2, ?_, e4⟩
    rw [hg.block k (hp_lt e3) (by intro e; have := Option.some.inj e; omega)]
    exact e3
set_option maxRecDepth 20000 in
theorem srcOne (g : Nat) (o : Option Addr) (c : List UInt8) (cp a z : Nat) (most : Int) (w : World) (h : Src w g o c.length cp a z) (hc : Code g w o c) (ha : a ≤ 1000000000000) (hl : c.length ≤ 1048576) (hm : most ≤ 4000000000) (h1 : 1 ≤ most) :
    Calls Tryz.prog 18 #[.pointer (some ⟨g, 0, none⟩), .int .i64 most] w fun e w' => ∃ b : Bool, e = .returned (.bool b) ∧ Src w' g o c.length cp (a + 1) z ∧ w.grownBy w' (some g) := by
  have hN := srcN g o c cp a z most w h hc ha hl hm h1
  clear h hc
  go_enter Tryz.func18, Tryz.ntmps18
  go_wp2_with fail
  refine hN.mono ?_
  rintro e w1 ⟨v, rfl, hv, hs, hg⟩
  go_wp2
  go_ret
  exact ⟨_, rfl, hs, hg⟩
set_option maxRecDepth 20000 in
theorem srcNew (o : Option Addr) (n cp : Nat) (w : World) (hn : n ≤ 1048576) :
    Calls Tryz.prog 15 #[.slice o n cp] w fun e w' => ∃ z, e = .returned (.pointer (some ⟨w.heap.size, 0, none⟩)) ∧ z ≤ 12 ∧ Src w' w.heap.size o n cp 0 z ∧ Below w.heap.size w w' := by
  by_cases h12 : 12 < n / 16
  · have h12i : (12 : Int) < (n : Int) / 16 := by omega
    go_enter Tryz.func15, Tryz.ntmps15
    go_wp2
    go_ret
    first | exact ⟨12, rfl, Nat.le_refl _, ⟨hp_alloc _ _⟩, (Below.refl _ _).alloc (Nat.le_refl _) _⟩ | exact ⟨rfl, 12, Nat.le_refl _, ⟨hp_alloc _ _⟩, (Below.refl _ _).alloc (Nat.le_refl _) _⟩
  · have h12i : ¬ (12 : Int) < (n : Int) / 16 := by omega
    go_enter Tryz.func15, Tryz.ntmps15
    go_wp2
    go_ret
    first | exact ⟨rfl, n / 16, by omega, ⟨hp_alloc _ _⟩, (Below.refl _ _).alloc (Nat.le_refl _) _⟩ | exact ⟨n / 16, rfl, by omega, ⟨hp_alloc _ _⟩, (Below.refl _ _).alloc (Nat.le_refl _) _⟩
end Go.Proofs.YtbppdfjigcelkaaGreatDoor
namespace Go.Proofs.YtbppdfjigcelkaaGreatDoor
open Go.RowKit Go.Lib
set_option maxRecDepth 20000 in
theorem by_byte (n : Int) (h0 : 0 ≤ n) (h1 : n < 256) : ∃ b : UInt8, (b.toNat : Int) = n := ⟨UInt8.ofNat n.toNat, by simp [UInt8.toNat_ofNat']; omega⟩
set_option maxRecDepth 10000 in
set_option maxHeartbeats 2000000 in
theorem srcBytes (g : Nat) (o : Option Addr) (c : List UInt8) (cp a z n : Nat) (w : World) (h : Src w g o c.length cp a z) (hc : Code g w o c) (ha : a ≤ 900000000000) (hl : c.length ≤ 1048576) (hn : n ≤ 1000) :
    Calls Tryz.prog 34 #[.pointer (some ⟨g, 0, none⟩), .int .i64 n] w fun e w' => ∃ (t : ByteArray) (a' : Nat), e = .returned (.string t) ∧ t.size ≤ 3 * n ∧ a' ≤ a + 1 + 2 * n ∧ Src w' g o c.length cp a' z ∧ w.grownBy w' (some g) := by
  obtain ⟨i0, hi, hy0, hy1, hy2⟩ := info_parts Tryz.info5
  have hgl := h.lt
  have HC : Hid (Code g w o c) := hc
  have hbA : Below w.heap.size w (w.alloc (.cells #[] 5)) := (Below.refl _ _).alloc (Nat.le_refl _) _
  have Hs0 : Hid (Src (w.alloc (.cells #[] 5)) g o c.length cp a z) := h.below hbA
  have Hg0 : Hid (w.grownBy (w.alloc (.cells #[] 5)) (some g)) := gr_below hbA
  have Hown0 : Hid (Own w.heap.size (.slice (some ⟨w.heap.size, 0, none⟩) 0 0) [] (w.alloc (.cells #[] 5))) := Own.made w.heap.size w (Nat.le_refl _)
  clear h hc hbA
  have hN := srcN g o c cp a z 6 _ Hs0.out (HC.out.grown Hg0.out (Nat.le_refl _)) (by omega) hl (by omega) (by omega)
  go_enter Tryz.func34, Tryz.ntmps34
  go_wp2_with fail
  refine hN.mono ?_
  rintro e w1 ⟨v, rfl, hv, hs1, hg1⟩
  have Hs1 : Hid (Src w1 g o c.length cp (a + 1) z) := hs1
  have Hg1 : Hid (w.grownBy w1 (some g)) := gr_trans Hg0.out hg1
  have Hown1 : Hid (Own w.heap.size (.slice (some ⟨w.heap.size, 0, none⟩) 0 0) [] w1) := Own.gr Hown0.out hg1 hgl
  clear hN hs1 hg1 Hs0 Hg0 Hown0
  go_wp2
  go_loopw [5, 7] (fun u i wr => ∃ (k : Nat) (p : List UInt8) (a' : Nat), k ≤ n ∧ i = .int .i64 k ∧ p.length ≤ 3 * k ∧ a' ≤ a + 1 + 2 * k ∧ Hid (Src wr g o c.length cp a' z) ∧ Hid (w.grownBy wr (some g)) ∧ Own w.heap.size u p wr) (fun _ i _ => n - (Lib.intOf i).toNat)
  case atStart => exact ⟨0, [], a + 1, Nat.zero_le _, rfl, by simp, by omega, Hs1, Hg1, Hown1.out⟩
  case round =>
    clear Hs1 Hg1 Hown1
    obtain ⟨k, p, a', hk, rfl, hpk, hak, Hs, Hg, hown⟩ := hrel
    by_cases hlt : k < n
    · have hN := fun m h1 h2 => srcN g o c cp a' z m wr Hs.out (HC.out.grown Hg.out (Nat.le_refl _)) (by omega) hl h1 h2
      have hO := srcOne g o c cp a' z 12 wr Hs.out (HC.out.grown Hg.out (Nat.le_refl _)) (by omega) hl (by omega) (by omega)
      have HN := (show Hid _ from hN)
      clear hN
      by_cases h0 : v = 0
      · have e0 : ((v : Int) == 0) = true := by rw [h0]; rfl
        clear h0
        go_wp2_with fail
        refine (HN.out 256 (by omega) (by omega)).mono ?_
        rintro e w2 ⟨v2, rfl, hv2, hs2, hg2⟩
        have Hs2 : Hid (Src w2 g o c.length cp (a' + 1) z) := hs2
        have Hg2 : Hid (w.grownBy w2 (some g)) := gr_trans Hg.out hg2
        have hown2 := hown.gr hg2 hgl
        clear hs2 hg2 hown HN hO
        obtain ⟨bb, hbb⟩ := by_byte (v2 : Int) (by omega) (by omega)
        have Hbb : Hid (((bb.toNat : Nat) : Int) = (v2 : Int)) := hbb
        clear hbb
        go_wp2_with (at_builtin; go_must (refine wp_app (W := w2) rfl _ _ 22 rfl i0 Tryz.underlying22 hi hy0 hy1 hy2 w.heap.size u5 p rfl hown2 _ [bb] (by simp [byteCells, Hbb.out]) 1 1 rfl rfl (by simp; omega) Hg2.out.size (Below.refl _ _) ?_; intro v4 w4 hown4 hb4))
        have Hs4 : Hid (Src w4 g o c.length cp (a' + 1) z) := Hs2.out.belowB hb4 hgl
        have Hg4 : Hid (w.grownBy w4 (some g)) := gr_belowB Hg2.out hb4
        go_roundw
        case rel => exact ⟨k + 1, _, (a' + 1), by omega, by go_num, by simp; omega, by omega, Hs4, Hg4, hown4⟩
        case measure => simp [Lib.intOf]; omega
      by_cases h1 : v = 1
      · have e0 : ((v : Int) == 0) = false := beq_eq_false_iff_ne.2 (by omega)
        have e1 : ((v : Int) == 1) = true := by rw [h1]; rfl
        clear h0 h1
        go_wp2_with fail
        refine (HN.out 9 (by omega) (by omega)).mono ?_
        rintro e w2 ⟨v2, rfl, hv2, hs2, hg2⟩
        have Hs2 : Hid (Src w2 g o c.length cp (a' + 1) z) := hs2
        have Hg2 : Hid (w.grownBy w2 (some g)) := gr_trans Hg.out hg2
        have hown2 := hown.gr hg2 hgl
        clear hs2 hg2 hown HN hO
        have hv3 : v2 < 9 := by omega
        go_wp2_with (at_builtin; go_must (refine wp_app (W := w2) rfl _ _ 22 rfl i0 Tryz.underlying22 hi hy0 hy1 hy2 w.heap.size u5 p rfl hown2 _ [_] rfl 1 1 rfl rfl (by simp; omega) Hg2.out.size (Below.refl _ _) ?_; intro v4 w4 hown4 hb4))
        have Hs4 : Hid (Src w4 g o c.length cp (a' + 1) z) := Hs2.out.belowB hb4 hgl
        have Hg4 : Hid (w.grownBy w4 (some g)) := gr_belowB Hg2.out hb4
        go_roundw
        case rel => exact ⟨k + 1, _, (a' + 1), by omega, by go_num, by simp; omega, by omega, Hs4, Hg4, hown4⟩
        case measure => simp [Lib.intOf]; omega
      by_cases h2 : v = 2
      · have e0 : ((v : Int) == 0) = false := beq_eq_false_iff_ne.2 (by omega)
        have e1 : ((v : Int) == 1) = false := beq_eq_false_iff_ne.2 (by omega)
        have e2 : ((v : Int) == 2) = true := by rw [h2]; rfl
        clear h0 h1 h2
        go_wp2_with fail
        refine hO.mono ?_
        rintro e w2 ⟨b2, rfl, hs2, hg2⟩
        have Hs2 : Hid (Src w2 g o c.length cp (a' + 1) z) := hs2
        have Hg2 : Hid (w.grownBy w2 (some g)) := gr_trans Hg.out hg2
        have hown2 := hown.gr hg2 hgl
        clear hs2 hg2 hown HN hO
        have sub : ∀ (u : Value) (q : List UInt8) (wx : World), Hid (Src wx g o c.length cp (a' + 1) z) → Hid (w.grownBy wx (some g)) → True := fun _ _ _ _ _ => trivial
        clear sub
        cases b2
        · have hN3 := srcN g o c cp (a' + 1) z 95 w2 Hs2.out (HC.out.grown Hg2.out (Nat.le_refl _)) (by omega) hl (by omega) (by omega)
          go_wp2_with fail
          refine hN3.mono ?_
          rintro e w3 ⟨v3, rfl, hv3, hs3, hg3⟩
          have Hs3 : Hid (Src w3 g o c.length cp (a' + 1 + 1) z) := hs3
          have Hg3 : Hid (w.grownBy w3 (some g)) := gr_trans Hg2.out hg3
          have hown3 := hown2.gr hg3 hgl
          clear hs3 hg3 hown2 hN3
          obtain ⟨bb, hbb⟩ := by_byte (32 + v3 : Int) (by omega) (by omega)
          have Hbb : Hid (((bb.toNat : Nat) : Int) = (32 + v3 : Int)) := hbb
          clear hbb
          go_wp2_with (at_builtin; go_must (refine wp_app (W := w3) rfl _ _ 22 rfl i0 Tryz.underlying22 hi hy0 hy1 hy2 w.heap.size u5 p rfl hown3 _ [bb] (by simp [byteCells, Hbb.out]) 1 1 rfl rfl (by simp; omega) Hg3.out.size (Below.refl _ _) ?_; intro v4 w4 hown4 hb4))
          have Hs4 : Hid (Src w4 g o c.length cp (a' + 1 + 1) z) := Hs3.out.belowB hb4 hgl
          have Hg4 : Hid (w.grownBy w4 (some g)) := gr_belowB Hg3.out hb4
          go_roundw
          case rel => exact ⟨k + 1, _, (a' + 1 + 1), by omega, by go_num, by simp; omega, by omega, Hs4, Hg4, hown4⟩
          case measure => simp [Lib.intOf]; omega
        · go_wp2_with (at_builtin; go_must (refine wp_app (W := w2) rfl _ _ 22 rfl i0 Tryz.underlying22 hi hy0 hy1 hy2 w.heap.size u5 p rfl hown2 _ [13, 10] rfl 2 2 rfl rfl (by simp; omega) Hg2.out.size (Below.refl _ _) ?_; intro v4 w4 hown4 hb4))
          have Hs4 : Hid (Src w4 g o c.length cp (a' + 1) z) := Hs2.out.belowB hb4 hgl
          have Hg4 : Hid (w.grownBy w4 (some g)) := gr_belowB Hg2.out hb4
          clear hb4 Hs2 Hg2 hown2
          have hN3 := srcN g o c cp (a' + 1) z 95 w4 Hs4.out (HC.out.grown Hg4.out (Nat.le_refl _)) (by omega) hl (by omega) (by omega)
          refine hN3.mono ?_
          rintro e w3 ⟨v3, rfl, hv3, hs3, hg3⟩
          have Hs3 : Hid (Src w3 g o c.length cp (a' + 1 + 1) z) := hs3
          have Hg3 : Hid (w.grownBy w3 (some g)) := gr_trans Hg4.out hg3
          have hown3 := hown4.gr hg3 hgl
          clear hs3 hg3 hown4 hN3
          obtain ⟨bb, hbb⟩ := by_byte (32 + v3 : Int) (by omega) (by omega)
          have Hbb : Hid (((bb.toNat : Nat) : Int) = (32 + v3 : Int)) := hbb
          clear hbb
          go_wp2_with (at_builtin; go_must (refine wp_app (W := w3) rfl _ _ 22 rfl i0 Tryz.underlying22 hi hy0 hy1 hy2 w.heap.size v4 (p ++ [13, 10]) rfl hown3 _ [bb] (by simp [byteCells, Hbb.out]) 1 1 rfl rfl (by simp; omega) Hg3.out.size (Below.refl _ _) ?_; intro v5 w5 hown5 hb5))
          have Hs4 : Hid (Src w5 g o c.length cp (a' + 1 + 1) z) := Hs3.out.belowB hb5 hgl
          have Hg4 : Hid (w.grownBy w5 (some g)) := gr_belowB Hg3.out hb5
          go_roundw
          case rel => exact ⟨k + 1, _, (a' + 1 + 1), by omega, by go_num, by simp; omega, by omega, Hs4, Hg4, hown5⟩
          case measure => simp [Lib.intOf]; omega
      · have e0 : ((v : Int) == 0) = false := beq_eq_false_iff_ne.2 (by omega)
        have e1 : ((v : Int) == 1) = false := beq_eq_false_iff_ne.2 (by omega)
        have e2 : ((v : Int) == 2) = false := beq_eq_false_iff_ne.2 (by omega)
        go_wp2_with fail
        refine (HN.out 23 (by omega) (by omega)).mono ?_
        rintro e w2 ⟨v2, rfl, hv2, hs2, hg2⟩
        have Hs2 : Hid (Src w2 g o c.length cp (a' + 1) z) := hs2
        have Hg2 : Hid (w.grownBy w2 (some g)) := gr_trans Hg.out hg2
        have hown2 := hown.gr hg2 hgl
        clear hs2 hg2 hown HN hO
        have hv3 : v2 < 23 := by omega
        go_wp2_with (at_builtin; go_must (refine wp_app (W := w2) rfl _ _ 22 rfl i0 Tryz.underlying22 hi hy0 hy1 hy2 w.heap.size u5 p rfl hown2 _ [_] rfl 1 1 rfl rfl (by simp; omega) Hg2.out.size (Below.refl _ _) ?_; intro v4 w4 hown4 hb4))
        have Hs4 : Hid (Src w4 g o c.length cp (a' + 1) z) := Hs2.out.belowB hb4 hgl
        have Hg4 : Hid (w.grownBy w4 (some g)) := gr_belowB Hg2.out hb4
        go_roundw
        case rel => exact ⟨k + 1, _, (a' + 1), by omega, by go_num, by simp; omega, by omega, Hs4, Hg4, hown4⟩
        case measure => simp [Lib.intOf]; omega
    · have hbk := hown.back (P := Tryz.prog) 22 9 Tryz.underlying22 Tryz.underlying5 Tryz.underlying9
      have hps : (⟨p.toArray⟩ : ByteArray).size ≤ 3 * n := by show p.toArray.size ≤ _; rw [List.size_toArray]; omega
      go_wp2
      go_ret
      exact ⟨_, a', rfl, hps, by omega, Hs.out, Hg.out⟩
end Go.Proofs.YtbppdfjigcelkaaGreatDoor
namespace Go.Proofs.YtbppdfjigcelkaaGreatDoor
open Go.RowKit Go.Lib
set_option maxRecDepth 20000 in
theorem Code.mono {B B' : Nat} {w : World} {o : Option Addr} {c : List UInt8} (h : Code B w o c) (hB : B ≤ B') : Code B' w o c := by
  intro k hk
  obtain ⟨a, rfl, ha, hc⟩ := h k hk
  exact ⟨a, rfl, by omega, hc⟩
set_option maxRecDepth 20000 in
theorem Code.below {B : Nat} {w w' : World} {o : Option Addr} {c : List UInt8} (h : Code B w o c) (hb : Below B w w') : Code B w' o c := by
  intro k hk
  obtain ⟨a, rfl, ha, hc⟩ := h k hk
  exact ⟨a, rfl, ha, (hb.cell (by rw [addr_block]; exact ha)).trans hc⟩
set_option maxRecDepth 20000 in
theorem gr_new {w w1 w' : World} (hb : Below w.heap.size w w1) (hg : w1.grownBy w' (some w.heap.size)) : Below w.heap.size w w' :=
  ⟨hg.os.trans hb.os, hg.tape.trans hb.tape, hg.output.trans hb.output, Nat.le_trans hb.size hg.size, fun i hi => (hg.block i (by have := hb.size; omega) (by intro e; have := Option.some.inj e; omega)).trans (hb.block i hi)⟩
/-- A text of at most M bytes. -/
def strOk (M : Nat) : Value → Bool
  | .string t => decide (t.size ≤ M)
  | _ => false
set_option maxRecDepth 20000 in
theorem table_at {w w3 : World} {cs : Array Value} {g v M : Nat} (hg : (w.alloc (.cells cs 9)).grownBy w3 (some g)) (hgl : g < w.heap.size) (hv : v < cs.size) (hcs : cs.toList.all (strOk M) = true) :
    ∃ t : ByteArray, w3.cell? ⟨w.heap.size, v, none⟩ = some (.string t) ∧ t.size ≤ M := by
  have hm : strOk M cs[v] = true := List.all_eq_true.1 hcs _ (Array.mem_toList_iff.2 (Array.getElem_mem hv))
  have hc : (w.alloc (.cells cs 9)).cell? ⟨w.heap.size, v, none⟩ = some cs[v] := by simp [hv]
  have h3 := gr_cell hg (show w.heap.size ≠ g by omega) hc
  cases hx : cs[v] with
  | string t =>
    rw [hx] at h3 hm
    exact ⟨t, h3, by simpa [strOk] using hm⟩
  | _ => rw [hx] at hm; cases hm
end Go.Proofs.YtbppdfjigcelkaaGreatDoor
namespace Go.Proofs.YtbppdfjigcelkaaGreatDoor
open Go.RowKit
section
variable {P : Program} {ops : Array Oper} {Q : Exit → Act → World → Prop} {md : Region.Mode}
set_option maxRecDepth 20000 in
theorem wpAny_inv (S : Nat → Array Bool → Act → World → Prop)
    (h0 : ∀ L a w, S 0 L a w → Region.ready md ops L = [] ∧ Q .normal a w)
    (h1 : ∀ n L a w, S (n + 1) L a w → (Region.ready md ops L = [] → Q .normal a w) ∧ ∀ i ∈ Region.ready md ops L, wpOp P ops Q i (S n (L.setIfInBounds i true)) a w) :
    ∀ n L a w, S n L a w → wpAny P md ops Q n L a w
  | 0, L, a, w, h => h0 L a w h
  | n + 1, L, a, w, h => ⟨(h1 n L a w h).1, fun i hi => wpOp_mono (fun a w => wpAny_inv S h0 h1 n _ a w) ((h1 n L a w h).2 i hi)⟩
set_option maxRecDepth 20000 in
theorem mem_ready {L : Array Bool} {i : Nat} (h : i ∈ Region.ready md ops L) : i < ops.size ∧ L.getD i true = false := by
  unfold Region.ready at h
  rw [List.mem_filter, List.mem_range, Bool.and_eq_true] at h
  exact ⟨h.1, by simpa using h.2.1⟩
set_option maxRecDepth 20000 in
theorem ready_dep {L : Array Bool} {i : Nat} {o : Oper} (h : i ∈ Region.ready md ops L) (ho : ops[i]? = some o) (k : Nat) (hk : (o.after.toList.any fun e => e.on == k && Region.binds md e) = true) : L.getD k false = true := by
  unfold Region.ready at h
  rw [List.mem_filter, Bool.and_eq_true, ho] at h
  have h2 : (o.after.all fun e => !Region.binds md e || L.getD e.on false) = true := h.2.2
  rw [List.any_eq_true] at hk
  obtain ⟨e, he, hb⟩ := hk
  rw [Bool.and_eq_true, beq_iff_eq] at hb
  have h3 := Array.all_eq_true'.1 h2 e (Array.mem_toList_iff.1 he)
  rw [hb.2, hb.1] at h3
  simpa using h3
/-- No operation waits for one behind it. -/
def afterLow (ops : Array Oper) : Bool := (List.range ops.size).all fun i => ((ops[i]?).map fun o => o.after.toList.all fun e => decide (e.on < i)).getD false
set_option maxRecDepth 20000 in
theorem getD_false {L : Array Bool} {i : Nat} (h : i < L.size) : L.getD i true = L.getD i false := by simp [Array.getD, h]
set_option maxRecDepth 20000 in
theorem all_done {L : Array Bool} (hs : L.size = ops.size) (hA : afterLow ops = true) (hr : Region.ready md ops L = []) : ∀ m i, i < m → i < ops.size → L.getD i false = true
  | 0, i, h, _ => by omega
  | m + 1, i, h, hi => by
    by_cases hm : i < m
    · exact all_done hs hA hr m i hm hi
    · cases hd : L.getD i false with
      | true => rfl
      | false =>
        exfalso
        have hin : i ∈ Region.ready md ops L := by
          unfold Region.ready
          rw [List.mem_filter, List.mem_range, Bool.and_eq_true]
          refine ⟨hi, by rw [getD_false (by omega), hd]; rfl, ?_⟩
          have ha := List.all_eq_true.1 hA i (List.mem_range.2 hi)
          obtain ⟨o, ho⟩ : ∃ o, ops[i]? = some o := ⟨ops[i], by simp⟩
          rw [ho] at ha ⊢
          have ha2 : (o.after.toList.all fun e => decide (e.on < i)) = true := ha
          show (o.after.all fun e => !Region.binds md e || L.getD e.on false) = true
          refine Array.all_eq_true'.2 fun e he => ?_
          have hlt := List.all_eq_true.1 ha2 e (Array.mem_toList_iff.2 he)
          rw [decide_eq_true_eq] at hlt
          rw [all_done hs hA hr m e.on (by omega) (by omega), Bool.or_true]
        rw [hr] at hin
        cases hin
def left (L : Array Bool) : Nat := L.toList.count false
set_option maxRecDepth 20000 in
theorem left_set {L : Array Bool} {i n : Nat} (h : L.getD i true = false) (hn : left L = n + 1) : left (L.setIfInBounds i true) = n := by
  have hi : i < L.size := by
    by_cases hi : i < L.size
    · exact hi
    · simp [Array.getD, hi] at h
  have hv : L[i] = false := by simpa [Array.getD, hi] using h
  unfold left at hn ⊢
  rw [Array.toList_setIfInBounds, List.count_set (by simpa using hi), hn]
  simp [hv]
set_option maxRecDepth 20000 in
theorem left_zero {L : Array Bool} (h : left L = 0) (i : Nat) (hi : i < L.size) : L.getD i true = true := by
  unfold left at h
  have := List.count_eq_zero.1 h
  have hm : L[i] ∈ L.toList := by simp
  cases hv : L[i] with
  | true => simp [Array.getD, hi, hv]
  | false => rw [hv] at hm; exact absurd hm this
set_option maxRecDepth 20000 in
theorem ready_zero {L : Array Bool} (hs : L.size = ops.size) (h : left L = 0) : Region.ready md ops L = [] := by
  unfold Region.ready
  rw [List.filter_eq_nil_iff]
  intro i hi
  rw [left_zero h i (by rw [hs]; exact List.mem_range.1 hi)]
  simp
set_option maxRecDepth 20000 in
theorem done_set {L : Array Bool} {i j : Nat} (h : j ≠ i) : (L.setIfInBounds i true).getD j false = L.getD j false := by
  simp only [Array.getD, Array.size_setIfInBounds]
  split
  · rename_i hj
    show (L.setIfInBounds i true)[j]'(by simpa using hj) = L[j]
    rw [Array.getElem_setIfInBounds hj, if_neg (Ne.symm h)]
  · rfl
set_option maxRecDepth 20000 in
theorem wpAny_by (S : Nat → Array Bool → Act → World → Prop) (hlow : afterLow ops = true) (hS : ∀ n L a w, S n L a w → L.size = ops.size ∧ left L = n)
    (hend : ∀ n L a w, S n L a w → (∀ i, i < ops.size → L.getD i false = true) → Q .normal a w)
    (hstep : ∀ n L a w, S (n + 1) L a w → ∀ i ∈ Region.ready md ops L, wpOp P ops Q i (S n (L.setIfInBounds i true)) a w) :
    ∀ n L a w, S n L a w → wpAny P md ops Q n L a w :=
  wpAny_inv S
    (fun L a w h => ⟨ready_zero (hS _ _ _ _ h).1 (hS _ _ _ _ h).2, hend _ _ _ _ h fun i hi => by
      have hs := (hS _ _ _ _ h).1
      rw [← getD_false (by omega)]
      exact left_zero (hS _ _ _ _ h).2 i (by omega)⟩)
    (fun n L a w h => ⟨fun hr => hend _ _ _ _ h fun i hi => all_done (hS _ _ _ _ h).1 hlow hr _ i (Nat.lt_succ_self i) hi, hstep n L a w h⟩)
end
end Go.Proofs.YtbppdfjigcelkaaGreatDoor
namespace Go.Proofs.YtbppdfjigcelkaaGreatDoor
open Go.RowKit
/-- A register's value put in. -/
def put (x : Nat → Value) (d : Nat) (v : Value) (j : Nat) : Value := if j = d then v else x j
section
variable {P : Program} {ops : Array Oper} {Q : Exit → Act → World → Prop} {md : Region.Mode}
structure ValS (ops : Array Oper) (dst : Nat → Nat) (A : (Nat → Value) → Act) (F : Nat → Value → World → Prop) (R : World → World → Prop) (W : World) (n : Nat) (L : Array Bool) (a : Act) (w : World) : Prop where
  size : L.size = ops.size
  left : Go.Proofs.YtbppdfjigcelkaaGreatDoor.left L = n
  gr : R W w
  val : ∃ x, a = A x ∧ ∀ j, L.getD j false = true → F j (x (dst j)) w
set_option maxRecDepth 20000 in
theorem wpAny_vals (dst : Nat → Nat) (A : (Nat → Value) → Act) (F : Nat → Value → World → Prop) (R : World → World → Prop) (W : World)
    (hlow : afterLow ops = true) (hdst : ∀ i j, i < ops.size → j < ops.size → j ≠ i → dst j ≠ dst i) (htr : ∀ a b c, R a b → R b c → R a c) (hF : ∀ j v w w', F j v w → R w w' → F j v w')
    (hend : ∀ x w, R W w → (∀ i, i < ops.size → F i (x (dst i)) w) → Q .normal (A x) w)
    (hstep : ∀ x L w i, R W w → i ∈ Region.ready md ops L → (∀ j, L.getD j false = true → F j (x (dst j)) w) → wpOp P ops Q i (fun a' w' => ∃ v, a' = A (put x (dst i) v) ∧ F i v w' ∧ R w w') (A x) w)
    (n : Nat) (L : Array Bool) (a : Act) (w : World) (hs : L.size = ops.size) (hl : left L = n) (h0 : (L.toList.all fun b => !b) = true) (hR : R W w) (x : Nat → Value) (ha : a = A x) : wpAny P md ops Q n L a w := by
  refine wpAny_by (ValS ops dst A F R W) hlow (fun n L a w h => ⟨h.size, h.left⟩) ?_ ?_ n L a w ⟨hs, hl, hR, x, ha, fun j hj => ?_⟩
  · intro n L a w h hall
    obtain ⟨x, rfl, hx⟩ := h.val
    exact hend x w h.gr fun i hi => hx i (hall i hi)
  · intro n L a w h i hi
    obtain ⟨x, rfl, hx⟩ := h.val
    have hr := mem_ready hi
    refine wpOp_mono ?_ (hstep x L w i h.gr hi hx)
    rintro a' w' ⟨v, rfl, hv, hw⟩
    refine ⟨by simpa using h.size, left_set hr.2 h.left, htr _ _ _ h.gr hw, put x (dst i) v, rfl, fun j hj => ?_⟩
    by_cases hji : j = i
    · subst hji
      unfold put
      rw [if_pos rfl]
      exact hv
    · rw [done_set hji] at hj
      have hjs : j < ops.size := by
        rcases Nat.lt_or_ge j L.size with h1 | h1
        · rw [← h.size]; exact h1
        · rw [Array.getD_eq_getD_getElem?, Array.getElem?_eq_none h1] at hj; cases hj
      unfold put
      rw [if_neg (hdst i j hr.1 hjs hji)]
      exact hF j _ _ _ (hx j hj) hw
  · exfalso
    rcases Nat.lt_or_ge j L.size with h1 | h1
    · have := List.all_eq_true.1 h0 L[j] (by simp)
      simp [Array.getD, h1] at hj
      rw [hj] at this
      cases this
    · rw [Array.getD_eq_getD_getElem?, Array.getElem?_eq_none h1] at hj; cases hj
end
end Go.Proofs.YtbppdfjigcelkaaGreatDoor
namespace Go.Proofs.YtbppdfjigcelkaaGreatDoor
open Go.RowKit
section
variable {P : Program} {ops : Array Oper} {Q : Exit → Act → World → Prop} {md : Region.Mode}
/-- No operation waits for one behind it, in this mode. -/
def afterLowM (md : Region.Mode) (ops : Array Oper) : Bool := (List.range ops.size).all fun i => ((ops[i]?).map fun o => o.after.toList.all fun e => !Region.binds md e || decide (e.on < i)).getD false
set_option maxRecDepth 20000 in
theorem all_doneM {L : Array Bool} (hs : L.size = ops.size) (hA : afterLowM md ops = true) (hr : Region.ready md ops L = []) : ∀ m i, i < m → i < ops.size → L.getD i false = true
  | 0, i, h, _ => by omega
  | m + 1, i, h, hi => by
    by_cases hm : i < m
    · exact all_doneM hs hA hr m i hm hi
    · cases hd : L.getD i false with
      | true => rfl
      | false =>
        exfalso
        have hin : i ∈ Region.ready md ops L := by
          unfold Region.ready
          rw [List.mem_filter, List.mem_range, Bool.and_eq_true]
          refine ⟨hi, by rw [getD_false (by omega), hd]; rfl, ?_⟩
          have ha := List.all_eq_true.1 hA i (List.mem_range.2 hi)
          obtain ⟨o, ho⟩ : ∃ o, ops[i]? = some o := ⟨ops[i], by simp⟩
          rw [ho] at ha ⊢
          have ha2 : (o.after.toList.all fun e => !Region.binds md e || decide (e.on < i)) = true := ha
          show (o.after.all fun e => !Region.binds md e || L.getD e.on false) = true
          refine Array.all_eq_true'.2 fun e he => ?_
          have hlt := List.all_eq_true.1 ha2 e (Array.mem_toList_iff.2 he)
          rw [Bool.or_eq_true, decide_eq_true_eq] at hlt
          rcases hlt with hlt | hlt
          · rw [hlt, Bool.true_or]
          · rw [all_doneM hs hA hr m e.on (by omega) (by omega), Bool.or_true]
        rw [hr] at hin
        cases hin
def depOn (md : Region.Mode) (ops : Array Oper) (k j : Nat) : Bool := ((ops[k]?).map fun o => o.after.toList.any fun e => e.on == j && Region.binds md e).getD false
def ClosedL (md : Region.Mode) (ops : Array Oper) (L : Array Bool) : Prop := ∀ k j, L.getD k false = true → depOn md ops k j = true → L.getD j false = true
set_option maxRecDepth 20000 in
theorem ready_dep2 {L : Array Bool} {i : Nat} (h : i ∈ Region.ready md ops L) (j : Nat) (hd : depOn md ops i j = true) : L.getD j false = true := by
  have hi := (mem_ready h).1
  have ho : ops[i]? = some ops[i] := by simp
  unfold depOn at hd
  rw [ho] at hd
  exact ready_dep h ho j hd
set_option maxRecDepth 20000 in
theorem ClosedL.set {L : Array Bool} {i : Nat} (hc : ClosedL md ops L) (h : i ∈ Region.ready md ops L) : ClosedL md ops (L.setIfInBounds i true) := by
  intro k j hk hd
  by_cases hj : j = i
  · subst hj
    have := mem_ready h
    have hi : j < L.size := by
      by_cases hi : j < L.size
      · exact hi
      · have h2 := this.2
        simp [Array.getD, hi] at h2
    simp [Array.getD, hi]
  · rw [done_set hj]
    by_cases hk2 : k = i
    · subst hk2
      exact ready_dep2 h j hd
    · rw [done_set hk2] at hk
      exact hc k j hk hd
def closeDown (md : Region.Mode) (ops : Array Oper) : Nat → List Nat → List Nat
  | 0, M => M
  | j + 1, M => closeDown md ops j (if M.any (fun k => depOn md ops k j) then j :: M else M)
set_option maxRecDepth 20000 in
theorem closeDown_done {L : Array Bool} {i : Nat} (hc : ClosedL md ops L) (hi : i ∈ Region.ready md ops L) : ∀ (n : Nat) (M : List Nat), (∀ k ∈ M, k = i ∨ L.getD k false = true) → ∀ k ∈ closeDown md ops n M, k = i ∨ L.getD k false = true
  | 0, M, h, k, hk => h k hk
  | j + 1, M, h, k, hk => by
    refine closeDown_done hc hi j _ ?_ k hk
    intro q hq
    split at hq
    · rename_i ha
      rcases List.mem_cons.1 hq with rfl | hq
      · right
        obtain ⟨p, hp, hd⟩ := List.any_eq_true.1 ha
        rcases h p hp with rfl | hp2
        · exact ready_dep2 hi _ hd
        · exact hc _ _ hp2 hd
      · exact h q hq
    · exact h q hq
/-- Each operation from l on waits for all that come before l. -/
def waitsAll (md : Region.Mode) (ops : Array Oper) (l : Nat) : Bool := (List.range ops.size).all fun i => decide (i < l) || (List.range l).all fun j => (closeDown md ops i [i]).contains j
set_option maxRecDepth 20000 in
theorem waits_done {L : Array Bool} {i l : Nat} (hw : waitsAll md ops l = true) (hc : ClosedL md ops L) (hi : i ∈ Region.ready md ops L) (hl : l ≤ i) (j : Nat) (hj : j < l) : L.getD j false = true := by
  have h1 := List.all_eq_true.1 hw i (List.mem_range.2 (mem_ready hi).1)
  rw [Bool.or_eq_true, decide_eq_true_eq] at h1
  rcases h1 with h1 | h1
  · omega
  · have h2 := List.all_eq_true.1 h1 j (List.mem_range.2 hj)
    have h3 := closeDown_done hc hi i [i] (fun k hk => .inl (by simpa using hk)) j (by simpa using h2)
    rcases h3 with h3 | h3
    · omega
    · exact h3
set_option maxRecDepth 20000 in
theorem left_pos {L : Array Bool} {j : Nat} (hj : j < L.size) (h : L.getD j false = false) : 0 < left L := by
  unfold left
  rw [List.count_pos_iff]
  have : L[j] = false := by simpa [Array.getD, hj] using h
  rw [← this]
  simp
set_option maxRecDepth 20000 in
theorem fin_eq {L Lf : Array Bool} {l : Nat} (hs : L.size = Lf.size) (hf : ∀ j, j < Lf.size → Lf.getD j false = decide (j < l)) (h1 : ∀ j, j < l → L.getD j false = true) (h2 : ∀ j, l ≤ j → L.getD j false = false) : L = Lf := by
  refine Array.ext hs fun j hj hj2 => ?_
  have e1 : L.getD j false = L[j] := by simp [Array.getD, hj]
  have e2 : Lf.getD j false = Lf[j] := by simp [Array.getD, hj2]
  rw [← e1, ← e2, hf j hj2]
  by_cases h : j < l
  · rw [h1 j h, decide_eq_true h]
  · rw [h2 j (by omega), decide_eq_false h]
set_option maxRecDepth 20000 in
theorem wpAny_phase (l m : Nat) (Lf : Array Bool) (dst : Nat → Nat) (A : (Nat → Value) → Act) (F : Nat → Value → World → Prop) (G : Nat → World → Prop) (R : World → World → Prop)
    (hm : ops.size = l + m) (hLs : Lf.size = ops.size) (hLf : ∀ j, j < Lf.size → Lf.getD j false = decide (j < l)) (hln : left Lf = m)
    (hlow : afterLowM md ops = true) (hwait : waitsAll md ops l = true) (hdst : ∀ i j, i < l → j < l → j ≠ i → dst j ≠ dst i) (hF : ∀ j v w w', F j v w → R w w' → F j v w')
    (hend : ∀ x w, G l w → (∀ i, i < l → F i (x (dst i)) w) → wpAny P md ops Q m Lf (A x) w)
    (hstep : ∀ k x L w i, i < l → k < l → G k w → i ∈ Region.ready md ops L → (∀ j, j < l → L.getD j false = true → F j (x (dst j)) w) → wpOp P ops Q i (fun a' w' => ∃ v, a' = A (put x (dst i) v) ∧ F i v w' ∧ R w w' ∧ G (k + 1) w') (A x) w) :
    ∀ (n : Nat) (L : Array Bool) (k : Nat) (x : Nat → Value) (w : World), L.size = ops.size → left L = n → k + n = ops.size → (∀ j, l ≤ j → L.getD j false = false) → ClosedL md ops L → G k w → (∀ j, j < l → L.getD j false = true → F j (x (dst j)) w) → wpAny P md ops Q n L (A x) w := by
  intro n
  induction n with
  | zero =>
    intro L k x w hs hl hk hno hc hG hx
    have hall : ∀ j, j < l → L.getD j false = true := by
      intro j hj
      cases h : L.getD j false with
      | true => rfl
      | false =>
        have := left_pos (by omega) h
        omega
    have e := fin_eq (by omega) hLf hall hno
    have hm0 : m = 0 := by rw [← hln, ← e]; exact hl
    have hkl : k = l := by omega
    subst hkl
    rw [e]
    have := hend x w hG (fun i hi => hx i hi (hall i hi))
    rw [hm0] at this
    exact this
  | succ n ih =>
    intro L k x w hs hl hk hno hc hG hx
    by_cases hall : ∀ j, j < l → L.getD j false = true
    · have e := fin_eq (by omega) hLf hall hno
      have hm0 : m = n + 1 := by rw [← hln, ← e]; exact hl
      have hkl : k = l := by omega
      subst hkl
      rw [e]
      have := hend x w hG (fun i hi => hx i hi (hall i hi))
      rw [hm0] at this
      exact this
    · refine ⟨fun hr => ?_, fun i hi => ?_⟩
      · exact absurd (fun j hj => all_doneM hs hlow hr _ j (Nat.lt_succ_self j) (by omega)) hall
      · have hil : i < l := by
          rcases Nat.lt_or_ge i l with h | h
          · exact h
          · exact absurd (fun j hj => waits_done hwait hc hi h j hj) hall
        have hr := mem_ready hi
        have hkl : k < l := by
          rcases Nat.lt_or_ge k l with h | h
          · exact h
          · exfalso
            have hn : n + 1 ≤ m := by omega
            refine hall fun j hj => ?_
            cases hd : L.getD j false with
            | true => rfl
            | false =>
              exfalso
              have h1 : left (L.setIfInBounds j true) = n := left_set (by rw [getD_false (by omega)]; exact hd) hl
              have h2 : m ≤ left (L.setIfInBounds j true) := by
                rw [← hln]
                unfold left
                have key : ∀ (a b : List Bool), a.length = b.length → (∀ i : Nat, a[i]? = some false → b[i]? = some false) → a.count false ≤ b.count false := by
                  intro a
                  induction a with
                  | nil => intro b _ _; simp
                  | cons p t iht =>
                    intro b hlen hab
                    cases b with
                    | nil => simp at hlen
                    | cons q s =>
                      have h3 := iht s (by simpa using hlen) (fun i hi => by have := hab (i + 1); simpa using this (by simpa using hi))
                      have h4 := hab 0
                      cases p <;> cases q <;> simp at h4 ⊢ <;> omega
                refine key _ _ (by simp; omega) fun i hi => ?_
                have hil : i < Lf.size := by
                  have := (List.getElem?_eq_some_iff.1 hi).1
                  simpa using this
                have e2 : Lf.getD i false = false := by
                  have := (List.getElem?_eq_some_iff.1 hi).2
                  simpa [Array.getD, hil] using this
                rw [hLf i hil, decide_eq_false_iff_not] at e2
                have e3 := hno i (by omega)
                have hij : i ≠ j := by omega
                rw [← done_set (i := j) hij] at e3
                have hil2 : i < (L.setIfInBounds j true).size := by simp; omega
                generalize L.setIfInBounds j true = M at *
                have e4 : M[i] = false := by simpa [Array.getD, hil2] using e3
                rw [List.getElem?_eq_getElem (by simpa using hil2), Array.getElem_toList, e4]
              omega
        refine wpOp_mono ?_ (hstep k x L w i hil hkl hG hi hx)
        rintro a' w' ⟨v, rfl, hv, hw, hG'⟩
        refine ih _ (k + 1) (put x (dst i) v) w' (by simpa using hs) (left_set hr.2 hl) (by omega) ?_ (hc.set hi) hG' ?_
        · intro j hj
          rw [done_set (by omega)]
          exact hno j hj
        · intro j hj hd
          by_cases hji : j = i
          · subst hji
            unfold put
            rw [if_pos rfl]
            exact hv
          · rw [done_set hji] at hd
            unfold put
            rw [if_neg (hdst i j hil hj hji)]
            exact hF j _ _ _ (hx j hj hd) hw
end
end Go.Proofs.YtbppdfjigcelkaaGreatDoor
