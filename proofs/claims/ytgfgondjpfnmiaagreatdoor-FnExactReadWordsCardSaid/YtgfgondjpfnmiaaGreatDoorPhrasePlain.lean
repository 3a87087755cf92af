
/- The walks' base: a long text, a text whose bytes are all of a kind, the copy of a text. -/

/- Lists of texts that were handed in; the law's helpers over them. -/

/- Lists of numbers that were handed in; the law's helpers over them, and over texts. -/

/- Results that lie in a block: laws of no program. -/

/- Lists of texts and of numbers between two blocks; laws of the law's helpers over them, for the texts that tools/gen/structs.py writes. -/

/- Lists of texts that a call has made by appends. -/

/- The specification's cut of a text at a byte, and its number. -/

/- Plain mathematics of Phrase: lists of bytes alone; no program. -/
import Derived.Test.YtgfgondjpfnmiaaGreatDoorChecked
import Derived.Test.YtgfgondjpfnmiaaGreatDoorBytes
import Derived.Test.YtgfgondjpfnmiaaGreatDoorShelf
import Derived.Shelf.Abstract
import Derived.WalkKit
import Derived.WalkLawsBesides
import Derived.WalkSpells
import Derived.Laws.OwnMore
import Derived.Laws.MakeOwn
import Derived.Deep.RegionWith
import Derived.Below
import Derived.Maps.OwnSet
import Derived.Deep.OwnRows
import Derived.Lib.QuietBelow
import Derived.Deep.QuietTactic
import Derived.BigQuiet
import Derived.Lib.SplitLaws
namespace Go.Proofs.YtgfgondjpfnmiaaGreatDoor
open Go.RowKit Go.Lib
set_option maxRecDepth 20000 in
theorem Tryz.info5 : (Tryz.prog.info? 5).map (fun i => (i.zero, i.size, i.bytes)) = some (some (.int .u8 0), 1, 1) := by kernel_rfl
set_option maxRecDepth 20000 in
theorem implTooLong (s : ByteArray) (w : World) (_hs : s.size ≤ 1100000) :
    Calls Tryz.prog 11 #[.string s] w fun e w' => e = .returned (.bool (decide ((100000 : Int) < (s.size : Int)))) ∧ w = w' := by
  go_enter Tryz.func11, Tryz.ntmps11
  go_wp2
  go_ret
  exact ⟨rfl, rfl⟩
/-- A function value that tells a byte's kind. -/
structure Kind (f : FuncId) (K : UInt8 → Bool) : Prop where
  enters : ∀ (args : Array Value) (w : World), (callFunc f args).run Tryz.prog w = .ok (.enter f args) w
  calls : ∀ (c : UInt8) (w : World), Calls Tryz.prog f #[.int .u8 (c.toNat : Int)] w fun e w' => e = .returned (.bool (K c)) ∧ w = w'
end Go.Proofs.YtgfgondjpfnmiaaGreatDoor
namespace Go.Proofs.YtgfgondjpfnmiaaGreatDoor
open Go.RowKit Go.Lib Go.Maps
def Tx (B : Nat) (w : World) (o : Option Addr) (ps : List ByteArray) : Prop := ∀ k (h : k < ps.length), ∃ a, o = some a ∧ a.block < B ∧ w.cell? (a.add k) = some (.string ps[k])
set_option maxRecDepth 20000 in
theorem mkHid {p : Prop} (h : p) : Hid p := h
set_option maxRecDepth 20000 in
theorem Tx.below {B : Nat} {w w' : World} {o : Option Addr} {ps : List ByteArray} (h : Tx B w o ps) (hb : Below B w w') : Tx B w' o ps := by
  intro k hk
  obtain ⟨a, rfl, ha, hc⟩ := h k hk
  refine ⟨a, rfl, ha, ?_⟩
  rw [← hc]
  have e : (a.add k).block = a.block := by unfold Addr.add; split <;> rfl
  exact hb.cell (by rw [e]; exact ha)
set_option maxRecDepth 20000 in
theorem Tx.mono {B B' : Nat} {w : World} {o : Option Addr} {ps : List ByteArray} (h : Tx B w o ps) (hB : B ≤ B') : Tx B' w o ps := by
  intro k hk
  obtain ⟨a, rfl, ha, hc⟩ := h k hk
  exact ⟨a, rfl, by omega, hc⟩
set_option maxRecDepth 20000 in
theorem Tryz.info9 : (Tryz.prog.info? 9).map (fun i => (i.zero, i.size, i.bytes)) = some (some (.string ByteArray.empty), 1, 16) := by kernel_rfl
def szT : List ByteArray → Nat
  | [] => 0
  | t :: r => t.size + szT r
set_option maxRecDepth 20000 in
theorem szT_drop (F : List ByteArray) (k : Nat) (h : k < F.length) : szT (F.drop k) = F[k].size + szT (F.drop (k + 1)) := by
  rw [List.drop_eq_getElem_cons h]; rfl
set_option maxRecDepth 20000 in
theorem szT_mem : ∀ (F : List ByteArray) (t : ByteArray), t ∈ F → t.size ≤ szT F
  | [], _, h => absurd h (List.not_mem_nil)
  | a :: r, t, h => by
    rcases List.mem_cons.1 h with rfl | h
    · simp [szT]
    · have := szT_mem r t h; simp [szT]; omega
end Go.Proofs.YtgfgondjpfnmiaaGreatDoor
namespace Go.Proofs.YtgfgondjpfnmiaaGreatDoor
open Go.RowKit Go.Lib Go.Maps
/-- The slice of numbers at o, in blocks below B. -/
def Ints (B : Nat) (w : World) (o : Option Addr) (ps : List Int) : Prop := ∀ k (h : k < ps.length), ∃ a, o = some a ∧ a.block < B ∧ w.cell? (a.add k) = some (.int .i64 ps[k])
set_option maxRecDepth 20000 in
theorem Ints.below {B : Nat} {w w' : World} {o : Option Addr} {ps : List Int} (h : Ints B w o ps) (hb : Below B w w') : Ints B w' o ps := by
  intro k hk
  obtain ⟨a, rfl, ha, hc⟩ := h k hk
  refine ⟨a, rfl, ha, ?_⟩
  rw [← hc]
  have e : (a.add k).block = a.block := by unfold Addr.add; split <;> rfl
  exact hb.cell (by rw [e]; exact ha)
set_option maxRecDepth 20000 in
theorem Ints.mono {B B' : Nat} {w : World} {o : Option Addr} {ps : List Int} (h : Ints B w o ps) (hB : B ≤ B') : Ints B' w o ps := by
  intro k hk
  obtain ⟨a, rfl, ha, hc⟩ := h k hk
  exact ⟨a, rfl, by omega, hc⟩
set_option maxRecDepth 20000 in
theorem Tryz.info2 : (Tryz.prog.info? 2).map (fun i => (i.zero, i.size, i.bytes)) = some (some (.int .i64 0), 1, 8) := by kernel_rfl
set_option maxRecDepth 20000 in
set_option maxHeartbeats 400000 in
theorem lawEqInts (a b : Addr) (F : List Int) (cap cap' : Nat) (w : World) (hF : Ints w.heap.size w (some a) F) (hG : Ints w.heap.size w (some b) F) (hlen : F.length ≤ 1048576) :
    Calls Tryz.prog 6 #[.slice (some a) F.length cap, .slice (some b) F.length cap'] w fun e w' => e = .returned (.bool true) ∧ Below w.heap.size w w' := by
  have HF : Hid (Ints w.heap.size w (some a) F) := hF
  have HG : Hid (Ints w.heap.size w (some b) F) := hG
  clear hF hG
  go_enter Tryz.func6, Tryz.ntmps6
  go_wp2
  go_loopw [5] (fun i wr => ∃ k : Nat, k ≤ F.length ∧ i = .int .i64 k ∧ Below w.heap.size w wr) (fun i _ => F.length - (Lib.intOf i).toNat)
  case atStart => exact ⟨0, Nat.zero_le _, rfl, Below.refl _ _⟩
  case round =>
    obtain ⟨k, hk, rfl, hb0⟩ := hrel
    by_cases hlt : k < F.length
    · obtain ⟨a', ea, ha, hc0⟩ := (HF.out.below hb0) k hlt
      obtain ⟨b', eb, hb, hd0⟩ := (HG.out.below hb0) k hlt
      cases ea
      cases eb
      generalize F[k] = f at hc0 hd0
      go_wp2
      go_region
      all_goals
        go_wp2
        go_roundw
        case rel => exact ⟨k + 1, by omega, by go_num, hb0.drew⟩
        case measure => simp [Lib.intOf]; omega
    · go_wp2
      go_ret
      exact ⟨rfl, hb0⟩
end Go.Proofs.YtgfgondjpfnmiaaGreatDoor
namespace Go.Proofs.YtgfgondjpfnmiaaGreatDoor
open Go.RowKit Go.Lib
set_option maxRecDepth 20000 in
theorem heap_alloc_at (w : World) (o : Obj) : (w.alloc o).heap[w.heap.size]? = some o := by
  show (w.heap.push o)[w.heap.size]? = some o
  simp
set_option maxRecDepth 20000 in
theorem heap_lt {w : World} {b : Nat} {o : Obj} (h : w.heap[b]? = some o) : b < w.heap.size := by
  rw [Array.getElem?_eq_some_iff] at h; exact h.1
set_option maxRecDepth 20000 in
theorem heap_alloc_old (w : World) (o : Obj) (g : Nat) (h : g < w.heap.size) : (w.alloc o).heap[g]? = w.heap[g]? := by
  show (w.heap.push o)[g]? = w.heap[g]?
  simp [Array.getElem?_push]
  omega
set_option maxRecDepth 20000 in
theorem two_cells {w : World} {b : Nat} {x y : Value} {t : TypeId} {z : Nat × Nat} (h : w.heap[b]? = some (.cells #[x, y] t z)) : w.cell? ⟨b, 0, none⟩ = some x ∧ w.cell? ⟨b, 1, none⟩ = some y := by
  constructor <;> simp [World.cell?, h]
set_option maxRecDepth 20000 in
theorem wpL_load_row {P : Program} {w : World} {ops : Array Oper} {rest : List Oper} {o : Oper} {a : Act} {Q : Exit → Act → World → Prop} (hg : o.guard = none) (ty : TypeId) (x : Operand) (ho : o.op = .load ty x)
    (g : Nat) (cs : Array Value) (t : TypeId) (fr : Nat × Nat) (d : TypeDesc) (hx : a.eval x = .pointer (some ⟨g, 0, none⟩)) (hgp : w.heap[g]? = some (.cells cs t fr))
    (hu : P.underlying ty = some d) (hd : (match d with | .struct _ | .array _ _ => true | _ => false) = true) (hi : (P.info? ty).map (·.size) = some cs.size)
    (h : wpList P ops Q rest (a.put o.dst (.agg cs)) w) : wpList P ops Q (o :: rest) a w := by
  refine wpList_plain hg fun K' hK' => ?_
  unfold Oper.wp execOp
  simp only [ho, hx, Instr.loadAt, Instr.sureAddr, Sem.run_bind, Sem.run_pure, Result.andThen_ok, run_loadVar_row w g t ty cs fr d hgp hu hd hi]
  exact hK' _ _ h
set_option maxRecDepth 20000 in
theorem wpL_store_row {P : Program} {w : World} {ops : Array Oper} {rest : List Oper} {o : Oper} {a : Act} {Q : Exit → Act → World → Prop} (hg : o.guard = none) (ty : TypeId) (x y : Operand) (ho : o.op = .store ty x y)
    (g : Nat) (cells : Array Value) (hx : a.eval x = .pointer (some ⟨g, 0, none⟩)) (hy : a.eval y = .agg cells)
    (t : TypeId) (old : Array Value) (hgp : w.heap[g]? = some (.cells old t (0, 0))) (hi : (P.info? ty).map (·.size) = some cells.size)
    (hold : old.size = cells.size) (h1 : cells.all (·.oneCell') = true)
    (h : wpList P ops Q rest (a.put o.dst undef) (w.setRow g cells)) : wpList P ops Q (o :: rest) a w := by
  refine wpList_plain hg fun K' hK' => ?_
  exact wp_store_row ty x y ho g cells hx hy t old hgp hi hold h1 (hK' _ _ h)
set_option maxRecDepth 20000 in
theorem grown_setRow (w : World) (g : Nat) (cs : Array Value) : w.grownBy (w.setRow g cs) (some g) :=
  ⟨rfl, rfl, rfl, by simp, fun i _ hi => setRow_other w g i cs (fun e => hi (by rw [e]))⟩
end Go.Proofs.YtgfgondjpfnmiaaGreatDoor
namespace Go.Proofs.YtgfgondjpfnmiaaGreatDoor
open Go.RowKit Go.Lib Go.Maps
set_option maxRecDepth 20000 in
theorem add_blockG (a : Addr) (n : Nat) : (a.add n).block = a.block := by unfold Addr.add; split <;> rfl
/-- The blocks from lo on and below hi are the same. -/
def Same (lo hi : Nat) (w w' : World) : Prop := ∀ k, lo ≤ k → k < hi → w'.heap[k]? = w.heap[k]?
set_option maxRecDepth 20000 in
theorem Same.cell {lo hi : Nat} {w w' : World} (h : Same lo hi w w') {p : Addr} (h1 : lo ≤ p.block) (h2 : p.block < hi) : w'.cell? p = w.cell? p := World.cell?_of_block (w := w) (h p.block h1 h2)
set_option maxRecDepth 20000 in
theorem Same.of_below {lo hi B : Nat} {w w' : World} (h : Below B w w') (hB : hi ≤ B) : Same lo hi w w' := fun k _ h2 => h.block k (Nat.lt_of_lt_of_le h2 hB)
set_option maxRecDepth 20000 in
theorem Same.gr {lo hi g : Nat} {w w' : World} (h : w.grownBy w' (some g)) (hg : g < lo) (hh : hi ≤ w.heap.size) : Same lo hi w w' := fun k h1 h2 => h.block k (Nat.lt_of_lt_of_le h2 hh) (by intro e; cases e; omega)
set_option maxRecDepth 20000 in
theorem grG_trans {a b c : World} {r : Option Nat} (h : a.grownBy b r) (k : b.grownBy c r) : a.grownBy c r :=
  ⟨k.os.trans h.os, k.tape.trans h.tape, k.output.trans h.output, Nat.le_trans h.size k.size, fun i hi hr => (k.block i (Nat.lt_of_lt_of_le hi h.size) hr).trans (h.block i hi hr)⟩
set_option maxRecDepth 20000 in
theorem hp_setG (w : World) (g j k : Nat) (v : Value) (h : g ≠ k) : (w.setCell ⟨g, j, none⟩ v).heap[k]? = w.heap[k]? := by
  simp [World.setCell, Array.getElem?_modify, h]
set_option maxRecDepth 20000 in
theorem grG_set (w : World) (g j : Nat) (v : Value) : w.grownBy (w.setCell ⟨g, j, none⟩ v) (some g) :=
  ⟨rfl, rfl, rfl, by simp [World.setCell], fun k _ hr => hp_setG _ _ _ _ _ (fun e => hr (by rw [e]))⟩
/-- All blocks from lo on are cells, and none of them is frozen. -/
def Soft (lo : Nat) (w : World) : Prop := ∀ k, lo ≤ k → k < w.heap.size → ∃ cs t, w.heap[k]? = some (.cells cs t (0, 0))
set_option maxRecDepth 20000 in
theorem Soft.refl (w : World) : Soft w.heap.size w := fun k h1 h2 => by omega
set_option maxRecDepth 20000 in
theorem Soft.alloc {lo : Nat} {w : World} (h : Soft lo w) (cs : Array Value) (t : TypeId) : Soft lo (w.alloc (.cells cs t)) := by
  intro k h1 h2
  by_cases hk : k < w.heap.size
  · rw [heap_alloc_old _ _ _ hk]
    exact h k h1 hk
  · rw [World.size_alloc] at h2
    have : k = w.heap.size := by omega
    rw [this]
    exact ⟨cs, t, heap_alloc_at _ _⟩
set_option maxRecDepth 20000 in
theorem Soft.set {lo : Nat} {w : World} (h : Soft lo w) (g j : Nat) (v : Value) : Soft lo (w.setCell ⟨g, j, none⟩ v) := by
  intro k h1 h2
  have h3 : k < w.heap.size := by simpa [World.setCell] using h2
  obtain ⟨cs, t, e⟩ := h k h1 h3
  by_cases hg : g = k
  · subst hg
    exact ⟨_, t, by simp [World.setCell, Array.getElem?_modify, e]; rfl⟩
  · rw [hp_setG _ _ _ _ _ hg]
    exact ⟨cs, t, e⟩
set_option maxRecDepth 20000 in
theorem Soft.setRow {lo : Nat} {w : World} (h : Soft lo w) (g : Nat) (cs : Array Value) : Soft lo (w.setRow g cs) := by
  intro k h1 h2
  have h3 : k < w.heap.size := by simpa using h2
  obtain ⟨c0, t, e⟩ := h k h1 h3
  by_cases hg : k = g
  · subst hg
    exact ⟨cs, t, setRow_heap _ _ _ _ _ _ e⟩
  · rw [setRow_other w g k cs hg]
    exact ⟨c0, t, e⟩
set_option maxRecDepth 20000 in
theorem Soft.call {lo : Nat} {w w' : World} (h : Soft lo w) (hb : Below w.heap.size w w') (h' : Soft w.heap.size w') : Soft lo w' := by
  intro k h1 h2
  by_cases hk : k < w.heap.size
  · rw [hb.block k hk]
    exact h k h1 hk
  · exact h' k (by omega) h2
set_option maxRecDepth 20000 in
theorem three_blocks {w V : World} {G : Nat} {o1 o2 o3 : Obj} (hG : w.heap.size = G) (hV : V = ((w.alloc o1).alloc o2).alloc o3) : Below G w V ∧ G + 3 ≤ V.heap.size ∧ V.heap[G]? = some o1 ∧ V.heap[G + 1]? = some o2 ∧ V.heap[G + 1 + 1]? = some o3 := by
  subst hV hG
  refine ⟨(((Below.refl _ _).alloc (Nat.le_refl _) _).alloc (by simp) _).alloc (by simp; omega) _, by simp, ?_, ?_, ?_⟩
  · rw [heap_alloc_old _ _ _ (by simp; omega), heap_alloc_old _ _ _ (by simp)]
    exact heap_alloc_at _ _
  · rw [heap_alloc_old _ _ _ (by simp)]
    have := heap_alloc_at (w.alloc o1) o2
    rw [World.size_alloc] at this
    exact this
  · have := heap_alloc_at ((w.alloc o1).alloc o2) o3
    rw [World.size_alloc, World.size_alloc] at this
    exact this
set_option maxRecDepth 20000 in
theorem two_blocks {w V : World} {o1 o2 : Obj} (hV : V = (w.alloc o1).alloc o2) : Below w.heap.size w V ∧ w.heap.size + 2 ≤ V.heap.size ∧ V.heap[w.heap.size]? = some o1 ∧ V.heap[w.heap.size + 1]? = some o2 := by
  subst hV
  refine ⟨((Below.refl _ _).alloc (Nat.le_refl _) _).alloc (by simp) _, by simp, ?_, ?_⟩
  · rw [heap_alloc_old _ _ _ (by simp)]
    exact heap_alloc_at _ _
  · have := heap_alloc_at (w.alloc o1) o2
    rw [World.size_alloc] at this
    exact this
set_option maxRecDepth 20000 in
theorem prod_le {n b : Nat} (h : n ≤ 1048576) (hb : b ≤ 400) : n * b ≤ 140737488351232 := Nat.le_trans (Nat.mul_le_mul h hb) (by decide)
def TxL (lo hi : Nat) (w : World) (o : Option Addr) (F : List ByteArray) : Prop := ∀ i (h : i < F.length), ∃ a, o = some a ∧ lo ≤ a.block ∧ a.block < hi ∧ w.cell? (a.add i) = some (.string F[i])
def InL (lo hi : Nat) (w : World) (o : Option Addr) (F : List Int) : Prop := ∀ i (h : i < F.length), ∃ a, o = some a ∧ lo ≤ a.block ∧ a.block < hi ∧ w.cell? (a.add i) = some (.int .i64 F[i])
set_option maxRecDepth 20000 in
theorem TxL.same {lo hi : Nat} {w w' : World} {o : Option Addr} {F : List ByteArray} (h : TxL lo hi w o F) (hs : Same lo hi w w') : TxL lo hi w' o F := by
  intro i hi
  obtain ⟨a, ho, h1, h2, h3⟩ := h i hi
  exact ⟨a, ho, h1, h2, (hs.cell (by rw [add_blockG]; exact h1) (by rw [add_blockG]; exact h2)).trans h3⟩
set_option maxRecDepth 20000 in
theorem InL.same {lo hi : Nat} {w w' : World} {o : Option Addr} {F : List Int} (h : InL lo hi w o F) (hs : Same lo hi w w') : InL lo hi w' o F := by
  intro i hi
  obtain ⟨a, ho, h1, h2, h3⟩ := h i hi
  exact ⟨a, ho, h1, h2, (hs.cell (by rw [add_blockG]; exact h1) (by rw [add_blockG]; exact h2)).trans h3⟩
set_option maxRecDepth 20000 in
theorem TxL.mono {lo lo' hi hi' : Nat} {w : World} {o : Option Addr} {F : List ByteArray} (h : TxL lo hi w o F) (hl : lo' ≤ lo) (hh : hi ≤ hi') : TxL lo' hi' w o F := by
  intro i hi
  obtain ⟨a, ho, h1, h2, h3⟩ := h i hi
  exact ⟨a, ho, Nat.le_trans hl h1, Nat.lt_of_lt_of_le h2 hh, h3⟩
set_option maxRecDepth 20000 in
theorem InL.mono {lo lo' hi hi' : Nat} {w : World} {o : Option Addr} {F : List Int} (h : InL lo hi w o F) (hl : lo' ≤ lo) (hh : hi ≤ hi') : InL lo' hi' w o F := by
  intro i hi
  obtain ⟨a, ho, h1, h2, h3⟩ := h i hi
  exact ⟨a, ho, Nat.le_trans hl h1, Nat.lt_of_lt_of_le h2 hh, h3⟩
set_option maxRecDepth 20000 in
theorem TxL.below {lo hi B : Nat} {w w' : World} {o : Option Addr} {F : List ByteArray} (h : TxL lo hi w o F) (hb : Below B w w') (hB : hi ≤ B) : TxL lo hi w' o F := h.same (Same.of_below hb hB)
set_option maxRecDepth 20000 in
theorem InL.below {lo hi B : Nat} {w w' : World} {o : Option Addr} {F : List Int} (h : InL lo hi w o F) (hb : Below B w w') (hB : hi ≤ B) : InL lo hi w' o F := h.same (Same.of_below hb hB)
set_option maxRecDepth 20000 in
theorem TxL.tx {lo hi : Nat} {w : World} {o : Option Addr} {F : List ByteArray} (h : TxL lo hi w o F) : Tx hi w o F := fun i hi => let ⟨a, ho, _, h2, h3⟩ := h i hi; ⟨a, ho, h2, h3⟩
set_option maxRecDepth 20000 in
theorem InL.ints {lo hi : Nat} {w : World} {o : Option Addr} {F : List Int} (h : InL lo hi w o F) : Ints hi w o F := fun i hi => let ⟨a, ho, _, h2, h3⟩ := h i hi; ⟨a, ho, h2, h3⟩
set_option maxRecDepth 20000 in
set_option maxHeartbeats 400000 in
theorem lawEqSInt (a b : Option Addr) (F : List Int) (cap cap' lo lo' : Nat) (w : World) (hF : InL lo w.heap.size w a F) (hG : InL lo' w.heap.size w b F) (hlen : F.length ≤ 1048576) :
    Calls Tryz.prog 6 #[.slice a F.length cap, .slice b F.length cap'] w fun e w' => e = .returned (.bool true) ∧ Below w.heap.size w w' := by
  have HF := mkHid hF.ints
  have HG := mkHid hG.ints
  clear hF hG
  go_enter Tryz.func6, Tryz.ntmps6
  go_wp2
  go_loopw [5] (fun i wr => ∃ k : Nat, k ≤ F.length ∧ i = .int .i64 k ∧ Below w.heap.size w wr) (fun i _ => F.length - (Lib.intOf i).toNat)
  case atStart => exact ⟨0, Nat.zero_le _, rfl, Below.refl _ _⟩
  case round =>
    obtain ⟨k, hk, rfl, hb0⟩ := hrel
    by_cases hlt : k < F.length
    · obtain ⟨a', ea, ha, hc0⟩ := (HF.out.below hb0) k hlt
      obtain ⟨b', eb, hb, hd0⟩ := (HG.out.below hb0) k hlt
      subst ea eb
      generalize F[k] = f at hc0 hd0
      go_wp2
      go_region
      all_goals
        go_wp2
        go_roundw
        case rel => exact ⟨k + 1, by omega, by go_num, hb0.drew⟩
        case measure => simp [Lib.intOf]; omega
    · go_wp2
      go_ret
      exact ⟨rfl, hb0⟩
end Go.Proofs.YtgfgondjpfnmiaaGreatDoor
namespace Go.Proofs.YtgfgondjpfnmiaaGreatDoor
open Go.RowKit Go.Lib Go.Maps
def strCellsX (P : List ByteArray) : List Value := P.map .string
/-- The slice v, whose array is among the blocks from B on, holds just the texts P. -/
def OwnX (B : Nat) (v : Value) (P : List ByteArray) (w : World) : Prop := w.ownsRow B 9 1 v P.length (strCellsX P)
set_option maxRecDepth 20000 in
theorem OwnX.nil (B : Nat) (w : World) : OwnX B (.slice none 0 0) [] w := World.ownsRow_nil w B 9 1
set_option maxRecDepth 20000 in
theorem OwnX.shape {B : Nat} {v : Value} {P : List ByteArray} {w : World} (h : OwnX B v P w) : ∃ o cap, v = .slice o P.length cap := by
  rcases h.2 with ⟨rfl, h0⟩ | ⟨g, cap, cur, rfl, -⟩
  · exact ⟨none, 0, by rw [h0]⟩
  · exact ⟨_, cap, rfl⟩
set_option maxRecDepth 20000 in
theorem OwnX.txL {B : Nat} {o : Option Addr} {cap : Nat} {P : List ByteArray} {w : World} (h : OwnX B (.slice o P.length cap) P w) : TxL B w.heap.size w o P := by
  intro i hi
  have hl := World.ownsRow.lt h
  rcases h.2 with ⟨h1, h0⟩ | ⟨g, cap', cur, h1, hB, -⟩
  · omega
  · simp only [Value.slice.injEq] at h1
    obtain ⟨rfl, -⟩ := h1
    exact ⟨_, rfl, hB, (hl g rfl).2, World.ownsRow.cells h (g := g) rfl i _ (by simp [strCellsX, hi])⟩
set_option maxRecDepth 20000 in
theorem OwnX.keep {B : Nat} {v : Value} {P : List ByteArray} {w w' : World} {row : Option Nat} (h : OwnX B v P w) (hg : w.grownBy w' row) (hne : v.ownBlock = none ∨ v.ownBlock ≠ row) : OwnX B v P w' := World.ownsRow.kept h hg hne
set_option maxRecDepth 20000 in
theorem OwnX.below {B : Nat} {v : Value} {P : List ByteArray} {w w' : World} (h : OwnX B v P w) (hb : Below w.heap.size w w') : OwnX B v P w' := World.ownsRow.kept h (row := none) ⟨hb.os, hb.tape, hb.output, hb.size, fun k hk _ => hb.block k hk⟩ (by
  cases hv : v.ownBlock with
  | none => exact .inl rfl
  | some k => exact .inr (by simp))
set_option maxRecDepth 20000 in
theorem Tryz.info9X : (Tryz.prog.info? 9).map (fun i => (i.zero, i.size, i.bytes)) = some (some (.string ⟨#[]⟩), 1, 16) := by kernel_rfl
set_option maxRecDepth 20000 in
theorem wp_appX {w : World} {ops : Array Oper} {rest : List Oper} {o : Oper} {a : Act} {Q : Exit → Act → World → Prop} (hgd : o.guard = none) (s x : Operand)
    (ho : o.op = .call { callee := .builtin .append, args := #[s, x], argTypes := #[37, 37] })
    (B : Nat) (v : Value) (C : List ByteArray) (hs : a.eval s = v) (hown : OwnX B v C w) (u : ByteArray)
    (c : Nat) (hx : a.eval x = .slice (some ⟨w.heap.size, 0, none⟩) 1 c) (hlen : C.length ≤ 1000000) (hB : B ≤ w.heap.size)
    (h : ∀ v' w', OwnX B v' (C ++ [u]) w' → (w.alloc (.cells #[.string u] 9)).grownBy w' v.ownBlock → wpList Tryz.prog ops Q rest (a.put o.dst v') w') : wpList Tryz.prog ops Q (o :: rest) a (w.alloc (.cells #[.string u] 9)) := by
  obtain ⟨i0, hi0, hz0, hz1, hz2⟩ := info_parts Tryz.info9X
  unfold OwnX at hown
  refine wpList_append_own _ hgd s x 37 ho B 9 i0 (.string ⟨#[]⟩) 1 16 Tryz.underlying37 hi0 hz0 hz1 hz2 rfl (by decide) v C.length (strCellsX C) hs (World.ownsRow.alloc hown _) ⟨w.heap.size, 0, none⟩ 1 c [.string u] hx
    rfl ?_ ?_ (by unfold maxLen; omega) (by omega) (by simp; omega) ?_
  · intro j y hj
    rw [add_off]
    match j, hj with
    | 0, hj => simp at hj; subst hj; simp
  · intro y hy
    simp at hy
    subst hy
    rfl
  · intro v' w' h1 h2 _
    refine h v' w' ?_ h2
    unfold OwnX strCellsX
    rw [List.map_append, List.length_append]
    exact h1
set_option maxRecDepth 20000 in
theorem OwnX.made (B : Nat) (w : World) (hB : B ≤ w.heap.size) : OwnX B (.slice (some ⟨w.heap.size, 0, none⟩) 0 0) [] (w.alloc (.cells #[] 9)) :=
  ⟨rfl, .inr ⟨w.heap.size, 0, #[], rfl, hB, heap_alloc_at _ _, Nat.le_refl _, Nat.zero_le _, rfl, rfl⟩⟩
end Go.Proofs.YtgfgondjpfnmiaaGreatDoor
namespace Go.Proofs.YtgfgondjpfnmiaaGreatDoor
open Go.RowKit Go.Lib Go.Maps
namespace Cu
def cut (d : UInt8) : List UInt8 → List UInt8 → List (List UInt8)
  | acc, [] => [acc]
  | acc, c :: r => if c = d then acc :: cut d [] r else cut d (acc ++ [c]) r
def mk (l : List UInt8) : ByteArray := ⟨l.toArray⟩
set_option maxRecDepth 20000 in
theorem cut_len (d : UInt8) : ∀ (l acc : List UInt8), (cut d acc l).length ≤ l.length + 1
  | [], _ => by simp [cut]
  | c :: r, acc => by
    rw [cut]
    split
    · have := cut_len d r []
      simp only [List.length_cons]
      omega
    · have := cut_len d r (acc ++ [c])
      simp only [List.length_cons]
      omega
set_option maxRecDepth 20000 in
theorem cut_ne (d : UInt8) : ∀ (l acc : List UInt8), cut d acc l ≠ []
  | [], _ => by simp [cut]
  | c :: r, acc => by
    rw [cut]
    split
    · simp
    · exact cut_ne d r _
set_option maxRecDepth 20000 in
theorem cut_mem (d : UInt8) : ∀ (l acc p : List UInt8), p ∈ cut d acc l → p.length ≤ acc.length + l.length
  | [], acc, p, h => by
    rw [cut, List.mem_singleton] at h
    rw [h]
    simp
  | c :: r, acc, p, h => by
    rw [cut] at h
    split at h
    · rcases List.mem_cons.1 h with h | h
      · rw [h]; simp
      · have := cut_mem d r [] p h
        simp only [List.length_cons, List.length_nil] at this ⊢
        omega
    · have := cut_mem d r _ p h
      simp only [List.length_cons, List.length_append, List.length_nil] at this ⊢
      omega
set_option maxRecDepth 20000 in
theorem ex_mk (s : ByteArray) (a b : Nat) : s.extract a b = mk ((s.data.toList.drop a).take (b - a)) := by
  unfold mk
  apply ByteArray.ext
  apply Array.toList_inj.1
  rw [ByteArray.data_extract, Array.toList_extract, List.extract_eq_take_drop]
def digit (c : UInt8) : Bool := decide (48 ≤ c.toNat) && decide (c.toNat ≤ 57)
def val : Nat → List UInt8 → Nat
  | n, [] => n
  | n, c :: r => val (n * 10 + (c.toNat - 48)) r
def numI (l : List UInt8) : Int := if l.all digit then (val 0 l : Nat) else -1
def num10 (l : List UInt8) : Int := if l.length = 0 ∨ 10 < l.length then -1 else numI l
set_option maxRecDepth 20000 in
theorem val_lt : ∀ (l : List UInt8) (n : Nat), l.all digit = true → val n l < (n + 1) * 10 ^ l.length
  | [], n, _ => by
    show n < (n + 1) * 10 ^ 0
    omega
  | c :: r, n, h => by
    rw [List.all_cons, Bool.and_eq_true] at h
    obtain ⟨h1, h2⟩ := h
    unfold digit at h1
    simp only [Bool.and_eq_true, decide_eq_true_eq] at h1
    have := val_lt r (n * 10 + (c.toNat - 48)) h2
    show val (n * 10 + (c.toNat - 48)) r < (n + 1) * 10 ^ (r.length + 1)
    rw [Nat.pow_succ]
    refine Nat.lt_of_lt_of_le this ?_
    rw [Nat.mul_comm (10 ^ r.length) 10, ← Nat.mul_assoc]
    exact Nat.mul_le_mul_right _ (by omega)
end Cu
set_option maxRecDepth 20000 in
set_option maxHeartbeats 4000000 in
theorem specCut (s : ByteArray) (d : UInt8) (w : World) (hs : s.size ≤ 900000) :
    Calls Tryz.prog 18 #[.string s, .int .u8 (d.toNat : Int)] w fun e w' => ∃ y : Value, e = .returned y ∧ Hid (OwnX w.heap.size y ((Cu.cut d [] s.data.toList).map Cu.mk) w') ∧ Below w.heap.size w w' := by
  have hll : Hid (s.data.toList.length = s.size) := by simp [Hid]
  have hd8 : d.toNat < 256 := UInt8.toNat_lt _
  obtain ⟨W, hW⟩ : ∃ W, W = w.alloc (.cells #[] 9) := ⟨_, rfl⟩
  have hbW : Hid (Below w.heap.size w W) := by rw [hW]; exact (Below.refl _ _).alloc (Nat.le_refl _) _
  have hown0 : Hid (OwnX w.heap.size (.slice (some ⟨w.heap.size, 0, none⟩) 0 0) [] W) := by rw [hW]; exact OwnX.made _ w (Nat.le_refl _)
  have hWs : W.heap.size = w.heap.size + 1 := by rw [hW]; simp
  have HW := mkHid hW
  clear hW
  obtain ⟨P, hP⟩ : ∃ P, (Cu.cut d [] s.data.toList).map Cu.mk = P := ⟨_, rfl⟩
  rw [hP]
  have HP : Hid ([] ++ (Cu.cut d ((s.data.toList.drop 0).take (0 - 0)) (s.data.toList.drop 0)).map Cu.mk = P) := hP
  clear hP
  go_enter Tryz.func18, Tryz.ntmps18
  go_wp2
  rw [← HW.out]
  clear HW
  go_loopw [5, 6, 7] (fun yv fv iv wr => ∃ (i f : Nat) (C : List ByteArray), i ≤ s.size ∧ f ≤ i ∧ iv = .int .i64 i ∧ fv = .int .i64 f ∧ C.length ≤ i ∧ Hid (C ++ (Cu.cut d ((s.data.toList.drop f).take (i - f)) (s.data.toList.drop i)).map Cu.mk = P) ∧ Hid (OwnX w.heap.size yv C wr) ∧ Hid (Below w.heap.size w wr) ∧ w.heap.size ≤ wr.heap.size) (fun _ _ iv _ => s.size - (Lib.intOf iv).toNat)
  case atStart => exact ⟨0, 0, [], Nat.zero_le _, Nat.le_refl _, rfl, rfl, Nat.le_refl _, HP, hown0, hbW, by omega⟩
  case round =>
    clear HP hown0 hbW
    obtain ⟨i, f, C, hi, hfi, rfl, rfl, hCl, hz, hown, hB, hsz⟩ := hrel
    by_cases hlt : i < s.size
    · have hli : i < s.data.toList.length := by rw [hll.out]; exact hlt
      have hst := hz.out
      rw [List.drop_eq_getElem_cons hli, Cu.cut, show s.data.toList[i]'hli = s[i] from rfl] at hst
      have h8 : s[i].toNat < 256 := UInt8.toNat_lt _
      by_cases hc : s[i] = d
      · have hb3 : (s[i].toNat == d.toNat) = true := by rw [hc]; simp
        have hb : ((s[i].toNat : Int) == (d.toNat : Int)) = true := by rw [hc]; simp
        rw [if_pos hc, List.map_cons] at hst
        have hpc : Cu.mk ((s.data.toList.drop f).take (i - f)) = s.extract f i := (Cu.ex_mk s f i).symm
        rw [hpc] at hst
        obtain ⟨pc, hpce⟩ : ∃ pc, s.extract f i = pc := ⟨_, rfl⟩
        have hst2 : Hid ((C ++ [pc]) ++ (Cu.cut d ((s.data.toList.drop (i + 1)).take (i + 1 - (i + 1))) (s.data.toList.drop (i + 1))).map Cu.mk = P) := by
          show _ = _
          rw [Nat.sub_self, List.take_zero, List.append_assoc, ← hpce]
          exact hst
        have hnb : Hid (∀ k, u5.ownBlock = some k → w.heap.size ≤ k) := fun k hk => (World.ownsRow.lt hown.out k hk).1
        have hfI : (0 : Int) ≤ (f : Int) ∧ (f : Int) ≤ (i : Int) ∧ (i : Int) ≤ (s.size : Int) := ⟨by omega, by omega, by omega⟩
        clear hst hz hpc hc
        go_wp2_with (first | (at_builtin; (refine wp_appX rfl _ _ rfl w.heap.size u5 C rfl hown.out pc 1 (by rfl) (by omega) hsz ?_; intro y5 w6 hown5 hg5; refine Hid.out ?_)) | fail)
        have hB6 : Hid (Below w.heap.size w w6) := (hB.out.alloc (by omega) (.cells #[.string pc] 9)).grown hg5 (by simp; omega) (fun k hk => hnb.out k hk)
        replace hown5 := mkHid hown5
        have hs6 : w.heap.size ≤ w6.heap.size := hB6.out.size
        clear hg5 hnb hown hB hpce
        refine mkHid ?_
        go_wp2
        go_roundw
        case rel => exact ⟨i + 1, i + 1, C ++ [pc], by omega, Nat.le_refl _, by go_num, by go_num, by simp; omega, hst2, hown5, hB6, hs6⟩
        case measure => simp [Lib.intOf]; omega
      · have hb2 : ¬ s[i].toNat = d.toNat := fun e => hc (UInt8.toNat_inj.1 e)
        have hb3 : (s[i].toNat == d.toNat) = false := by simpa using hb2
        have hb4 : ¬ ((s[i].toNat : Int) = (d.toNat : Int)) := by omega
        have hb : ((s[i].toNat : Int) == (d.toNat : Int)) = false := by
          rw [beq_eq_false_iff_ne]
          intro e
          exact hc (UInt8.toNat_inj.1 (by omega))
        rw [if_neg hc] at hst
        have hst2 : Hid (C ++ (Cu.cut d ((s.data.toList.drop f).take (i + 1 - f)) (s.data.toList.drop (i + 1))).map Cu.mk = P) := by
          show _ = _
          rw [← hst]
          congr 3
          rw [show i + 1 - f = (i - f) + 1 by omega, List.take_succ_eq_append_getElem (by rw [List.length_drop, hll.out]; omega), List.getElem_drop]
          congr 2
          have : f + (i - f) = i := by omega
          simp only [this]
          rfl
        clear hst hz hc
        go_wp2
        go_roundw
        case rel => exact ⟨i + 1, f, C, by omega, by omega, by go_num, rfl, by omega, hst2, hown, hB, hsz⟩
        case measure => simp [Lib.intOf]; omega
    · have hst := hz.out
      rw [show s.data.toList.drop i = [] from List.drop_eq_nil_of_le (by rw [hll.out]; omega), Cu.cut, List.map_cons, List.map_nil] at hst
      have hie : i = s.size := by omega
      have hpc : Cu.mk ((s.data.toList.drop f).take (i - f)) = s.extract f i := (Cu.ex_mk s f i).symm
      rw [hpc] at hst
      have hst2 : Hid (C ++ [s.extract f s.size] = P) := by show _ = _; rw [← hst, hie]
      have hnb : Hid (∀ k, u5.ownBlock = some k → w.heap.size ≤ k) := fun k hk => (World.ownsRow.lt hown.out k hk).1
      have hCl2 : C.length ≤ s.size := by omega
      have hff : f ≤ s.size := by omega
      have hfI : (0 : Int) ≤ (f : Int) ∧ (f : Int) ≤ (s.size : Int) := ⟨by omega, by omega⟩
      clear hst hz hpc hie
      go_wp2_with (first | (at_builtin; (refine wp_appX rfl _ _ rfl w.heap.size u5 C rfl hown.out (s.extract f s.size) 1 (by rfl) (by omega) hsz ?_; intro y5 w6 hown5 hg5; refine Hid.out ?_)) | fail)
      rw [hst2.out] at hown5
      have hB6 : Hid (Below w.heap.size w w6) := (hB.out.alloc (by omega) (.cells #[.string (s.extract f s.size)] 9)).grown hg5 (by simp; omega) (fun k hk => hnb.out k hk)
      replace hown5 := mkHid hown5
      clear hg5 hnb hown hB
      refine mkHid ?_
      go_wp2
      go_ret
      exact ⟨_, rfl, hown5, hB6.out⟩
end Go.Proofs.YtgfgondjpfnmiaaGreatDoor
namespace Go.Proofs.YtgfgondjpfnmiaaGreatDoor
open Go.Lib
namespace Pl
/-- A byte that may stand in a phrase. -/
def tb (c : UInt8) : Bool := decide (32 ≤ c.toNat) && !(c == 127)
def signs : List UInt8 := [33, 35, 36, 37, 38, 39, 42, 43, 45, 47, 61, 63, 94, 95, 123, 124, 125, 126, 96]
def signs0 : List UInt8 := [33, 35, 36, 37, 38, 39, 42, 43, 45, 47, 61, 63, 94, 95, 123, 124, 125, 126]
def alnum (c : UInt8) : Bool := decide (65 ≤ c.toNat ∧ c.toNat ≤ 90) || (decide (97 ≤ c.toNat ∧ c.toNat ≤ 122) || (decide (48 ≤ c.toNat ∧ c.toNat ≤ 57) || decide (128 ≤ c.toNat)))
/-- A byte of an atom. -/
def atom (c : UInt8) : Bool := alnum c || decide (0 ≤ indexByte signs c)
def atom' (c : UInt8) : Bool := alnum c || (c == 96 || (decide (32 < c.toNat) && (decide (c.toNat < 127) && decide (0 ≤ indexByte signs0 c))))
set_option maxRecDepth 20000 in
theorem atom_all : ∀ n, n < 256 → atom (UInt8.ofNat n) = atom' (UInt8.ofNat n) := by decide +kernel
set_option maxRecDepth 20000 in
theorem atom_eq (c : UInt8) : atom' c = atom c := by
  have := atom_all c.toNat (UInt8.toNat_lt c)
  rw [UInt8.ofNat_toNat] at this
  exact this.symm
set_option maxRecDepth 20000 in
theorem atom_blank : atom 32 = false := by decide +kernel
set_option maxRecDepth 20000 in
theorem atom_point : atom 46 = false := by decide +kernel

/-- Are these atoms with one byte d between each two? The flag: an atom has begun. -/
def scan (d : UInt8) : Bool → List UInt8 → Bool
  | was, [] => was
  | was, c :: r => if atom c then scan d true r else if c == d && was then scan d false r else false
/-- Cut at each d. -/
def sp (d : UInt8) : List UInt8 → List (List UInt8)
  | [] => [[]]
  | c :: r => if c = d then [] :: sp d r else match sp d r with | h :: t => (c :: h) :: t | [] => [[c]]
def okA (p : List UInt8) : Bool := !p.isEmpty && p.all atom
set_option maxRecDepth 20000 in
theorem sp_ne (d : UInt8) (l : List UInt8) : ∃ h t, sp d l = h :: t := by
  cases l with
  | nil => exact ⟨[], [], rfl⟩
  | cons c r =>
    unfold sp
    split
    · exact ⟨_, _, rfl⟩
    · cases sp d r with
      | nil => exact ⟨_, _, rfl⟩
      | cons h t => exact ⟨_, _, rfl⟩
set_option maxRecDepth 20000 in
theorem scan_sp (d : UInt8) (hd : atom d = false) : ∀ (l h : List UInt8) (t : List (List UInt8)), sp d l = h :: t → scan d true l = (h.all atom && t.all okA) ∧ scan d false l = (okA h && t.all okA)
  | [], h, t, e => by
    simp only [sp, List.cons.injEq] at e
    obtain ⟨rfl, rfl⟩ := e
    exact ⟨rfl, rfl⟩
  | c :: r, h, t, e => by
    obtain ⟨h', t', e'⟩ := sp_ne d r
    obtain ⟨i1, i2⟩ := scan_sp d hd r h' t' e'
    by_cases hc : c = d
    · subst hc
      rw [sp, if_pos rfl, List.cons.injEq] at e
      obtain ⟨rfl, rfl⟩ := e
      constructor
      · rw [scan, if_neg (by rw [hd]; simp), if_pos (by simp), i2, e']
        rfl
      · rw [scan, if_neg (by rw [hd]; simp), if_neg (by simp)]
        rfl
    · rw [sp, if_neg hc, e'] at e
      simp only [List.cons.injEq] at e
      obtain ⟨rfl, rfl⟩ := e
      by_cases ha : atom c = true
      · constructor
        · rw [scan, if_pos ha, i1, List.all_cons, ha, Bool.true_and]
        · rw [scan, if_pos ha, i1, okA, List.all_cons, ha, Bool.true_and]
          rfl
      · rw [Bool.not_eq_true] at ha
        have hn : (c == d) = false := by simpa using hc
        constructor
        · rw [scan, if_neg (by rw [ha]; simp), hn, List.all_cons, ha]
          rfl
        · rw [scan, if_neg (by rw [ha]; simp), hn, okA, List.all_cons, ha]
          simp
set_option maxRecDepth 20000 in
theorem scan_all (d : UInt8) (hd : atom d = false) (l : List UInt8) : (sp d l).all okA = scan d false l := by
  obtain ⟨h, t, e⟩ := sp_ne d l
  rw [(scan_sp d hd l h t e).2, e, List.all_cons]
set_option maxRecDepth 20000 in
/-- The library's cut is ours. -/
theorem split_sp (d : UInt8) : ∀ l : List UInt8, splitK [d] 0 (count l [d]) l = sp d l
  | [] => by rw [count_miss (by simp [index])]; rfl
  | c :: r => by
    have ih := split_sp d r
    by_cases hc : c = d
    · subst hc
      have hix : index (c :: r) [c] = 0 := by rw [index]; simp [List.isPrefixOf]
      rw [count_cons_eq, Nat.add_comm, splitK, hix, if_neg (by decide), sp, if_pos rfl, ← ih]
      rfl
    · have hp : ([d] : List UInt8).isPrefixOf (c :: r) = false := by simp [List.isPrefixOf, Ne.symm hc]
      have hix : index (c :: r) [d] = if index r [d] == -1 then -1 else index r [d] + 1 := by rw [index, hp]; simp
      rw [count_cons_ne c d r hc, sp, if_neg hc, ← ih]
      by_cases hm : index r [d] = -1
      · rw [count_miss hm]
        rfl
      · have hge := index_ge r [d]
        obtain ⟨j, hj⟩ : ∃ j : Nat, index r [d] = j := ⟨(index r [d]).toNat, by omega⟩
        have hne : (index r [d] == -1) = false := by rw [hj]; simp
        rw [hne] at hix
        simp only [Bool.false_eq_true, if_false] at hix
        have hne2 : (index (c :: r) [d] == -1) = false := by rw [hix, hj]; simp; omega
        obtain ⟨k, hk⟩ : ∃ k, count r [d] = k + 1 := ⟨count (r.drop (j + 1)) [d], by rw [count_hit (by simp) hj]; simp; omega⟩
        rw [hk, splitK, splitK, hne, hne2, hix, hj]
        have e1 : ((j : Int) + 1).toNat = j + 1 := by omega
        simp only [Bool.false_eq_true, if_false, e1, Int.toNat_natCast, Nat.add_zero, List.take_succ_cons, List.length_cons, List.length_nil]
        rfl
/-- Quoted. -/
def qs : List UInt8 → List UInt8
  | [] => []
  | c :: r => if c == 34 || c == 92 then 92 :: c :: qs r else c :: qs r
set_option maxRecDepth 20000 in
theorem qs_esc (l p x : List UInt8) (k : Nat) (hk : k < l.length) (h : (l[k] == 34 || l[k] == 92) = true) (hp : p ++ qs (l.drop k) = x) : (p ++ [92] ++ [l[k]]) ++ qs (l.drop (k + 1)) = x := by
  rw [drop_cons l k hk, qs, if_pos h] at hp
  simpa using hp
set_option maxRecDepth 20000 in
theorem qs_plain (l p x : List UInt8) (k : Nat) (hk : k < l.length) (h : (l[k] == 34 || l[k] == 92) = false) (hp : p ++ qs (l.drop k) = x) : (p ++ [l[k]]) ++ qs (l.drop (k + 1)) = x := by
  rw [drop_cons l k hk, qs, if_neg (by rw [h]; simp)] at hp
  simpa using hp
set_option maxRecDepth 20000 in
theorem qs_done (l p x : List UInt8) (k : Nat) (hk : l.length ≤ k) (hp : p ++ qs (l.drop k) = x) : p = x := by
  rw [List.drop_eq_nil_of_le hk] at hp
  simpa [qs] using hp
def phrase (l : List UInt8) : List UInt8 := if l.all tb then (if scan 32 false l then l else 34 :: qs l ++ [34]) else []
end Pl
end Go.Proofs.YtgfgondjpfnmiaaGreatDoor
