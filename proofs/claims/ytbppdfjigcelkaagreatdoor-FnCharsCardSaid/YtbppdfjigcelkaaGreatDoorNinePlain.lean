
/- Draws out of tables of texts: what an operation of a drawn region yields. -/

/- Lists of texts that were handed in; the law's helpers over them. -/

/- Lists of numbers that were handed in; the law's helpers over them, and over texts. -/

/- Results that lie in a block: laws of no program. -/

/- Lists of texts and of numbers between two blocks; laws of the law's helpers over them, for the texts that tools/gen/structs.py writes. -/

/- Lists of numbers (int64) that a call has made: appended to, marked, the marks asked for. -/

/- An append of one number, of one text. -/

/- Lists of texts that a call has made by appends. -/

/- Rows that stay; what an append or a store leaves of a source. -/

/- A source of draws: what operations on a store are made of. -/

/- Plain mathematics of the set latin9: the eight bytes that are not the points of their numbers, from both sides. -/
import Derived.Test.YtbppdfjigcelkaaGreatDoorAnyPhase
import Derived.Laws.OwnMore
import Derived.Laws.MakeOwn
import Derived.Deep.RegionWith
import Derived.WalkKit
import Derived.WalkLawsBesides
import Derived.WalkSpells
import Derived.Below
import Derived.Maps.OwnSet
import Derived.Deep.OwnRows
import Derived.Lib.QuietBelow
import Derived.Deep.QuietTactic
import Derived.BigQuiet
import Derived.Maps.AppendAt
import Derived.Maps.RangeWalk
import Derived.Maps.Ext
namespace Go.Proofs.YtbppdfjigcelkaaGreatDoor
open Go.RowKit Go.Lib
def tabM (M B n : Nat) (v : Value) (w : World) : Prop := ∃ b, v = .slice (some ⟨b, 0, none⟩) n n ∧ B ≤ b ∧ ∀ k, k < n → ∃ t : ByteArray, w.cell? ⟨b, k, none⟩ = some (.string t) ∧ t.size ≤ M
def ptrM (M B : Nat) (v : Value) (w : World) : Prop := ∃ (b k : Nat) (t : ByteArray), v = .pointer (some ⟨b, k, none⟩) ∧ B ≤ b ∧ w.cell? ⟨b, k, none⟩ = some (.string t) ∧ t.size ≤ M
def txtM (M : Nat) (v : Value) : Prop := ∃ t : ByteArray, v = .string t ∧ t.size ≤ M
def numM (lo hi : Nat) (v : Value) : Prop := ∃ k : Nat, v = .int .i64 k ∧ lo ≤ k ∧ k < hi
set_option maxRecDepth 20000 in
theorem tabM.gr {M B n g : Nat} {v : Value} {w w' : World} (h : tabM M B n v w) (hg : w.grownBy w' (some g)) (hB : g < B) : tabM M B n v w' := by
  obtain ⟨b, rfl, hb, hc⟩ := h
  refine ⟨b, rfl, hb, fun k hk => ?_⟩
  obtain ⟨t, h1, h2⟩ := hc k hk
  exact ⟨t, gr_cell hg (show b ≠ g by omega) h1, h2⟩
set_option maxRecDepth 20000 in
theorem ptrM.gr {M B g : Nat} {v : Value} {w w' : World} (h : ptrM M B v w) (hg : w.grownBy w' (some g)) (hB : g < B) : ptrM M B v w' := by
  obtain ⟨b, k, t, rfl, hb, h1, h2⟩ := h
  exact ⟨b, k, t, rfl, hb, gr_cell hg (show b ≠ g by omega) h1, h2⟩
set_option maxRecDepth 20000 in
theorem tabM_get {M : Nat} {w : World} {cs : Array Value} {k : Nat} (hk : k < cs.size) (hcs : cs.toList.all (strOk M) = true) : ∃ t : ByteArray, (w.alloc (.cells cs 9)).cell? ⟨w.heap.size, k, none⟩ = some (.string t) ∧ t.size ≤ M := by
  have hm : strOk M cs[k] = true := List.all_eq_true.1 hcs _ (Array.mem_toList_iff.2 (Array.getElem_mem hk))
  have hc : (w.alloc (.cells cs 9)).cell? ⟨w.heap.size, k, none⟩ = some cs[k] := by simp [hk]
  cases hx : cs[k] with
  | string t =>
    rw [hx] at hc hm
    exact ⟨t, hc, by simpa [strOk] using hm⟩
  | _ => rw [hx] at hm; cases hm
/-- The source is somewhere behind, and nothing but it has turned. -/
def GoneBy (W : World) (g : Nat) (o : Option Addr) (cl cp a0 z : Nat) (k : Nat) (w : World) : Prop := W.grownBy w (some g) ∧ ∃ a', a' ≤ a0 + k ∧ Src w g o cl cp a' z
set_option maxRecDepth 20000 in
theorem GoneBy.still {W : World} {g cl cp a0 z k : Nat} {o : Option Addr} {w w' : World} (h : GoneBy W g o cl cp a0 z k w) (hb : Below w.heap.size w w') : GoneBy W g o cl cp a0 z (k + 1) w' := by
  obtain ⟨h1, a', h2, h3⟩ := h
  exact ⟨gr_trans h1 (gr_below hb), a', by omega, h3.below hb⟩
end Go.Proofs.YtbppdfjigcelkaaGreatDoor
namespace Go.Proofs.YtbppdfjigcelkaaGreatDoor
open Go.RowKit Go.Lib Go.Maps
def Tx (B : Nat) (w : World) (o : Option Addr) (ps : List ByteArray) : Prop := ∀ k (h : k < ps.length), ∃ a, o = some a ∧ a.block < B ∧ w.cell? (a.add k) = some (.string ps[k])
set_option maxRecDepth 20000 in
theorem mkHid {p : Prop} (h : p) : Hid p := h
set_option maxRecDepth 20000 in
theorem Tx.below {B : Nat} {w w' : World} {o : Option Addr} {ps : List ByteArray} (h : Tx B w o ps) (hb : Below B w w') : Tx B w' o ps := by
  intro k hk
  obtain ⟨a, rfl, ha, hc⟩ := h k hk
  refine ⟨a, rfl, ha, ?_⟩
  rw [← hc]
  have e : (a.add k).block = a.block := by unfold Addr.add; split <;> rfl
  exact hb.cell (by rw [e]; exact ha)
set_option maxRecDepth 20000 in
theorem Tx.mono {B B' : Nat} {w : World} {o : Option Addr} {ps : List ByteArray} (h : Tx B w o ps) (hB : B ≤ B') : Tx B' w o ps := by
  intro k hk
  obtain ⟨a, rfl, ha, hc⟩ := h k hk
  exact ⟨a, rfl, by omega, hc⟩
set_option maxRecDepth 20000 in
theorem Tryz.info9 : (Tryz.prog.info? 9).map (fun i => (i.zero, i.size, i.bytes)) = some (some (.string ByteArray.empty), 1, 16) := by kernel_rfl
def szT : List ByteArray → Nat
  | [] => 0
  | t :: r => t.size + szT r
set_option maxRecDepth 20000 in
theorem szT_drop (F : List ByteArray) (k : Nat) (h : k < F.length) : szT (F.drop k) = F[k].size + szT (F.drop (k + 1)) := by
  rw [List.drop_eq_getElem_cons h]; rfl
set_option maxRecDepth 20000 in
theorem szT_mem : ∀ (F : List ByteArray) (t : ByteArray), t ∈ F → t.size ≤ szT F
  | [], _, h => absurd h (List.not_mem_nil)
  | a :: r, t, h => by
    rcases List.mem_cons.1 h with rfl | h
    · simp [szT]
    · have := szT_mem r t h; simp [szT]; omega
end Go.Proofs.YtbppdfjigcelkaaGreatDoor
namespace Go.Proofs.YtbppdfjigcelkaaGreatDoor
open Go.RowKit Go.Lib Go.Maps
/-- The slice of numbers at o, in blocks below B. -/
def Ints (B : Nat) (w : World) (o : Option Addr) (ps : List Int) : Prop := ∀ k (h : k < ps.length), ∃ a, o = some a ∧ a.block < B ∧ w.cell? (a.add k) = some (.int .i64 ps[k])
set_option maxRecDepth 20000 in
theorem Ints.below {B : Nat} {w w' : World} {o : Option Addr} {ps : List Int} (h : Ints B w o ps) (hb : Below B w w') : Ints B w' o ps := by
  intro k hk
  obtain ⟨a, rfl, ha, hc⟩ := h k hk
  refine ⟨a, rfl, ha, ?_⟩
  rw [← hc]
  have e : (a.add k).block = a.block := by unfold Addr.add; split <;> rfl
  exact hb.cell (by rw [e]; exact ha)
set_option maxRecDepth 20000 in
theorem Ints.mono {B B' : Nat} {w : World} {o : Option Addr} {ps : List Int} (h : Ints B w o ps) (hB : B ≤ B') : Ints B' w o ps := by
  intro k hk
  obtain ⟨a, rfl, ha, hc⟩ := h k hk
  exact ⟨a, rfl, by omega, hc⟩
set_option maxRecDepth 20000 in
theorem Tryz.info2 : (Tryz.prog.info? 2).map (fun i => (i.zero, i.size, i.bytes)) = some (some (.int .i64 0), 1, 8) := by kernel_rfl
end Go.Proofs.YtbppdfjigcelkaaGreatDoor
namespace Go.Proofs.YtbppdfjigcelkaaGreatDoor
open Go.RowKit Go.Lib
set_option maxRecDepth 20000 in
theorem heap_alloc_at (w : World) (o : Obj) : (w.alloc o).heap[w.heap.size]? = some o := by
  show (w.heap.push o)[w.heap.size]? = some o
  simp
set_option maxRecDepth 20000 in
theorem heap_lt {w : World} {b : Nat} {o : Obj} (h : w.heap[b]? = some o) : b < w.heap.size := by
  rw [Array.getElem?_eq_some_iff] at h; exact h.1
set_option maxRecDepth 20000 in
theorem heap_alloc_old (w : World) (o : Obj) (g : Nat) (h : g < w.heap.size) : (w.alloc o).heap[g]? = w.heap[g]? := by
  show (w.heap.push o)[g]? = w.heap[g]?
  simp [Array.getElem?_push]
  omega
set_option maxRecDepth 20000 in
theorem two_cells {w : World} {b : Nat} {x y : Value} {t : TypeId} {z : Nat × Nat} (h : w.heap[b]? = some (.cells #[x, y] t z)) : w.cell? ⟨b, 0, none⟩ = some x ∧ w.cell? ⟨b, 1, none⟩ = some y := by
  constructor <;> simp [World.cell?, h]
set_option maxRecDepth 20000 in
theorem wpL_load_row {P : Program} {w : World} {ops : Array Oper} {rest : List Oper} {o : Oper} {a : Act} {Q : Exit → Act → World → Prop} (hg : o.guard = none) (ty : TypeId) (x : Operand) (ho : o.op = .load ty x)
    (g : Nat) (cs : Array Value) (t : TypeId) (fr : Nat × Nat) (d : TypeDesc) (hx : a.eval x = .pointer (some ⟨g, 0, none⟩)) (hgp : w.heap[g]? = some (.cells cs t fr))
    (hu : P.underlying ty = some d) (hd : (match d with | .struct _ | .array _ _ => true | _ => false) = true) (hi : (P.info? ty).map (·.size) = some cs.size)
    (h : wpList P ops Q rest (a.put o.dst (.agg cs)) w) : wpList P ops Q (o :: rest) a w := by
  refine wpList_plain hg fun K' hK' => ?_
  unfold Oper.wp execOp
  simp only [ho, hx, Instr.loadAt, Instr.sureAddr, Sem.run_bind, Sem.run_pure, Result.andThen_ok, run_loadVar_row w g t ty cs fr d hgp hu hd hi]
  exact hK' _ _ h
set_option maxRecDepth 20000 in
theorem wpL_store_row {P : Program} {w : World} {ops : Array Oper} {rest : List Oper} {o : Oper} {a : Act} {Q : Exit → Act → World → Prop} (hg : o.guard = none) (ty : TypeId) (x y : Operand) (ho : o.op = .store ty x y)
    (g : Nat) (cells : Array Value) (hx : a.eval x = .pointer (some ⟨g, 0, none⟩)) (hy : a.eval y = .agg cells)
    (t : TypeId) (old : Array Value) (hgp : w.heap[g]? = some (.cells old t (0, 0))) (hi : (P.info? ty).map (·.size) = some cells.size)
    (hold : old.size = cells.size) (h1 : cells.all (·.oneCell') = true)
    (h : wpList P ops Q rest (a.put o.dst undef) (w.setRow g cells)) : wpList P ops Q (o :: rest) a w := by
  refine wpList_plain hg fun K' hK' => ?_
  exact wp_store_row ty x y ho g cells hx hy t old hgp hi hold h1 (hK' _ _ h)
set_option maxRecDepth 20000 in
theorem grown_setRow (w : World) (g : Nat) (cs : Array Value) : w.grownBy (w.setRow g cs) (some g) :=
  ⟨rfl, rfl, rfl, by simp, fun i _ hi => setRow_other w g i cs (fun e => hi (by rw [e]))⟩
end Go.Proofs.YtbppdfjigcelkaaGreatDoor
namespace Go.Proofs.YtbppdfjigcelkaaGreatDoor
open Go.RowKit Go.Lib Go.Maps
set_option maxRecDepth 20000 in
theorem add_blockG (a : Addr) (n : Nat) : (a.add n).block = a.block := by unfold Addr.add; split <;> rfl
/-- The blocks from lo on and below hi are the same. -/
def Same (lo hi : Nat) (w w' : World) : Prop := ∀ k, lo ≤ k → k < hi → w'.heap[k]? = w.heap[k]?
set_option maxRecDepth 20000 in
theorem Same.cell {lo hi : Nat} {w w' : World} (h : Same lo hi w w') {p : Addr} (h1 : lo ≤ p.block) (h2 : p.block < hi) : w'.cell? p = w.cell? p := World.cell?_of_block (w := w) (h p.block h1 h2)
set_option maxRecDepth 20000 in
theorem Same.of_below {lo hi B : Nat} {w w' : World} (h : Below B w w') (hB : hi ≤ B) : Same lo hi w w' := fun k _ h2 => h.block k (Nat.lt_of_lt_of_le h2 hB)
set_option maxRecDepth 20000 in
theorem Same.gr {lo hi g : Nat} {w w' : World} (h : w.grownBy w' (some g)) (hg : g < lo) (hh : hi ≤ w.heap.size) : Same lo hi w w' := fun k h1 h2 => h.block k (Nat.lt_of_lt_of_le h2 hh) (by intro e; cases e; omega)
set_option maxRecDepth 20000 in
theorem grG_trans {a b c : World} {r : Option Nat} (h : a.grownBy b r) (k : b.grownBy c r) : a.grownBy c r :=
  ⟨k.os.trans h.os, k.tape.trans h.tape, k.output.trans h.output, Nat.le_trans h.size k.size, fun i hi hr => (k.block i (Nat.lt_of_lt_of_le hi h.size) hr).trans (h.block i hi hr)⟩
set_option maxRecDepth 20000 in
theorem hp_setG (w : World) (g j k : Nat) (v : Value) (h : g ≠ k) : (w.setCell ⟨g, j, none⟩ v).heap[k]? = w.heap[k]? := by
  simp [World.setCell, Array.getElem?_modify, h]
set_option maxRecDepth 20000 in
theorem grG_set (w : World) (g j : Nat) (v : Value) : w.grownBy (w.setCell ⟨g, j, none⟩ v) (some g) :=
  ⟨rfl, rfl, rfl, by simp [World.setCell], fun k _ hr => hp_setG _ _ _ _ _ (fun e => hr (by rw [e]))⟩
/-- All blocks from lo on are cells, and none of them is frozen. -/
def Soft (lo : Nat) (w : World) : Prop := ∀ k, lo ≤ k → k < w.heap.size → ∃ cs t, w.heap[k]? = some (.cells cs t (0, 0))
set_option maxRecDepth 20000 in
theorem Soft.refl (w : World) : Soft w.heap.size w := fun k h1 h2 => by omega
set_option maxRecDepth 20000 in
theorem Soft.alloc {lo : Nat} {w : World} (h : Soft lo w) (cs : Array Value) (t : TypeId) : Soft lo (w.alloc (.cells cs t)) := by
  intro k h1 h2
  by_cases hk : k < w.heap.size
  · rw [heap_alloc_old _ _ _ hk]
    exact h k h1 hk
  · rw [World.size_alloc] at h2
    have : k = w.heap.size := by omega
    rw [this]
    exact ⟨cs, t, heap_alloc_at _ _⟩
set_option maxRecDepth 20000 in
theorem Soft.set {lo : Nat} {w : World} (h : Soft lo w) (g j : Nat) (v : Value) : Soft lo (w.setCell ⟨g, j, none⟩ v) := by
  intro k h1 h2
  have h3 : k < w.heap.size := by simpa [World.setCell] using h2
  obtain ⟨cs, t, e⟩ := h k h1 h3
  by_cases hg : g = k
  · subst hg
    exact ⟨_, t, by simp [World.setCell, Array.getElem?_modify, e]; rfl⟩
  · rw [hp_setG _ _ _ _ _ hg]
    exact ⟨cs, t, e⟩
set_option maxRecDepth 20000 in
theorem Soft.setRow {lo : Nat} {w : World} (h : Soft lo w) (g : Nat) (cs : Array Value) : Soft lo (w.setRow g cs) := by
  intro k h1 h2
  have h3 : k < w.heap.size := by simpa using h2
  obtain ⟨c0, t, e⟩ := h k h1 h3
  by_cases hg : k = g
  · subst hg
    exact ⟨cs, t, setRow_heap _ _ _ _ _ _ e⟩
  · rw [setRow_other w g k cs hg]
    exact ⟨c0, t, e⟩
set_option maxRecDepth 20000 in
theorem Soft.call {lo : Nat} {w w' : World} (h : Soft lo w) (hb : Below w.heap.size w w') (h' : Soft w.heap.size w') : Soft lo w' := by
  intro k h1 h2
  by_cases hk : k < w.heap.size
  · rw [hb.block k hk]
    exact h k h1 hk
  · exact h' k (by omega) h2
set_option maxRecDepth 20000 in
theorem three_blocks {w V : World} {G : Nat} {o1 o2 o3 : Obj} (hG : w.heap.size = G) (hV : V = ((w.alloc o1).alloc o2).alloc o3) : Below G w V ∧ G + 3 ≤ V.heap.size ∧ V.heap[G]? = some o1 ∧ V.heap[G + 1]? = some o2 ∧ V.heap[G + 1 + 1]? = some o3 := by
  subst hV hG
  refine ⟨(((Below.refl _ _).alloc (Nat.le_refl _) _).alloc (by simp) _).alloc (by simp; omega) _, by simp, ?_, ?_, ?_⟩
  · rw [heap_alloc_old _ _ _ (by simp; omega), heap_alloc_old _ _ _ (by simp)]
    exact heap_alloc_at _ _
  · rw [heap_alloc_old _ _ _ (by simp)]
    have := heap_alloc_at (w.alloc o1) o2
    rw [World.size_alloc] at this
    exact this
  · have := heap_alloc_at ((w.alloc o1).alloc o2) o3
    rw [World.size_alloc, World.size_alloc] at this
    exact this
set_option maxRecDepth 20000 in
theorem two_blocks {w V : World} {o1 o2 : Obj} (hV : V = (w.alloc o1).alloc o2) : Below w.heap.size w V ∧ w.heap.size + 2 ≤ V.heap.size ∧ V.heap[w.heap.size]? = some o1 ∧ V.heap[w.heap.size + 1]? = some o2 := by
  subst hV
  refine ⟨((Below.refl _ _).alloc (Nat.le_refl _) _).alloc (by simp) _, by simp, ?_, ?_⟩
  · rw [heap_alloc_old _ _ _ (by simp)]
    exact heap_alloc_at _ _
  · have := heap_alloc_at (w.alloc o1) o2
    rw [World.size_alloc] at this
    exact this
set_option maxRecDepth 20000 in
theorem prod_le {n b : Nat} (h : n ≤ 1048576) (hb : b ≤ 400) : n * b ≤ 140737488351232 := Nat.le_trans (Nat.mul_le_mul h hb) (by decide)
def TxL (lo hi : Nat) (w : World) (o : Option Addr) (F : List ByteArray) : Prop := ∀ i (h : i < F.length), ∃ a, o = some a ∧ lo ≤ a.block ∧ a.block < hi ∧ w.cell? (a.add i) = some (.string F[i])
def InL (lo hi : Nat) (w : World) (o : Option Addr) (F : List Int) : Prop := ∀ i (h : i < F.length), ∃ a, o = some a ∧ lo ≤ a.block ∧ a.block < hi ∧ w.cell? (a.add i) = some (.int .i64 F[i])
set_option maxRecDepth 20000 in
theorem TxL.same {lo hi : Nat} {w w' : World} {o : Option Addr} {F : List ByteArray} (h : TxL lo hi w o F) (hs : Same lo hi w w') : TxL lo hi w' o F := by
  intro i hi
  obtain ⟨a, ho, h1, h2, h3⟩ := h i hi
  exact ⟨a, ho, h1, h2, (hs.cell (by rw [add_blockG]; exact h1) (by rw [add_blockG]; exact h2)).trans h3⟩
set_option maxRecDepth 20000 in
theorem InL.same {lo hi : Nat} {w w' : World} {o : Option Addr} {F : List Int} (h : InL lo hi w o F) (hs : Same lo hi w w') : InL lo hi w' o F := by
  intro i hi
  obtain ⟨a, ho, h1, h2, h3⟩ := h i hi
  exact ⟨a, ho, h1, h2, (hs.cell (by rw [add_blockG]; exact h1) (by rw [add_blockG]; exact h2)).trans h3⟩
set_option maxRecDepth 20000 in
theorem TxL.mono {lo lo' hi hi' : Nat} {w : World} {o : Option Addr} {F : List ByteArray} (h : TxL lo hi w o F) (hl : lo' ≤ lo) (hh : hi ≤ hi') : TxL lo' hi' w o F := by
  intro i hi
  obtain ⟨a, ho, h1, h2, h3⟩ := h i hi
  exact ⟨a, ho, Nat.le_trans hl h1, Nat.lt_of_lt_of_le h2 hh, h3⟩
set_option maxRecDepth 20000 in
theorem InL.mono {lo lo' hi hi' : Nat} {w : World} {o : Option Addr} {F : List Int} (h : InL lo hi w o F) (hl : lo' ≤ lo) (hh : hi ≤ hi') : InL lo' hi' w o F := by
  intro i hi
  obtain ⟨a, ho, h1, h2, h3⟩ := h i hi
  exact ⟨a, ho, Nat.le_trans hl h1, Nat.lt_of_lt_of_le h2 hh, h3⟩
set_option maxRecDepth 20000 in
theorem TxL.below {lo hi B : Nat} {w w' : World} {o : Option Addr} {F : List ByteArray} (h : TxL lo hi w o F) (hb : Below B w w') (hB : hi ≤ B) : TxL lo hi w' o F := h.same (Same.of_below hb hB)
set_option maxRecDepth 20000 in
theorem InL.below {lo hi B : Nat} {w w' : World} {o : Option Addr} {F : List Int} (h : InL lo hi w o F) (hb : Below B w w') (hB : hi ≤ B) : InL lo hi w' o F := h.same (Same.of_below hb hB)
set_option maxRecDepth 20000 in
theorem TxL.tx {lo hi : Nat} {w : World} {o : Option Addr} {F : List ByteArray} (h : TxL lo hi w o F) : Tx hi w o F := fun i hi => let ⟨a, ho, _, h2, h3⟩ := h i hi; ⟨a, ho, h2, h3⟩
set_option maxRecDepth 20000 in
theorem InL.ints {lo hi : Nat} {w : World} {o : Option Addr} {F : List Int} (h : InL lo hi w o F) : Ints hi w o F := fun i hi => let ⟨a, ho, _, h2, h3⟩ := h i hi; ⟨a, ho, h2, h3⟩
end Go.Proofs.YtbppdfjigcelkaaGreatDoor
namespace Go.Proofs.YtbppdfjigcelkaaGreatDoor
open Go.RowKit Go.Lib Go.Maps
def numCells (P : List Int) : List Value := P.map (.int .i64)
/-- The slice v, whose array is among the blocks from B on, holds just the numbers P. -/
def OwnN (B : Nat) (v : Value) (P : List Int) (w : World) : Prop := w.ownsRow B 2 1 v P.length (numCells P)
set_option maxRecDepth 20000 in
theorem OwnN.nil (B : Nat) (w : World) : OwnN B (.slice none 0 0) [] w := World.ownsRow_nil w B 2 1
set_option maxRecDepth 20000 in
theorem OwnN.shape {B : Nat} {v : Value} {P : List Int} {w : World} (h : OwnN B v P w) : ∃ o cap, v = .slice o P.length cap := by
  rcases h.2 with ⟨rfl, h0⟩ | ⟨g, cap, cur, rfl, -⟩
  · exact ⟨none, 0, by rw [h0]⟩
  · exact ⟨_, cap, rfl⟩
set_option maxRecDepth 20000 in
theorem OwnN.inL {B : Nat} {o : Option Addr} {cap : Nat} {P : List Int} {w : World} (h : OwnN B (.slice o P.length cap) P w) : InL B w.heap.size w o P := by
  intro i hi
  have hl := World.ownsRow.lt h
  rcases h.2 with ⟨h1, h0⟩ | ⟨g, cap', cur, h1, hB, -⟩
  · omega
  · simp only [Value.slice.injEq] at h1
    obtain ⟨rfl, -⟩ := h1
    exact ⟨_, rfl, hB, (hl g rfl).2, World.ownsRow.cells h (g := g) rfl i _ (by simp [numCells, hi])⟩
set_option maxRecDepth 20000 in
theorem OwnN.keep {B : Nat} {v : Value} {P : List Int} {w w' : World} {row : Option Nat} (h : OwnN B v P w) (hg : w.grownBy w' row) (hne : v.ownBlock = none ∨ v.ownBlock ≠ row) : OwnN B v P w' := World.ownsRow.kept h hg hne
set_option maxRecDepth 20000 in
theorem OwnN.below {B : Nat} {v : Value} {P : List Int} {w w' : World} (h : OwnN B v P w) (hb : Below w.heap.size w w') : OwnN B v P w' := World.ownsRow.kept h (row := none) ⟨hb.os, hb.tape, hb.output, hb.size, fun k hk _ => hb.block k hk⟩ (by
  cases hv : v.ownBlock with
  | none => exact .inl rfl
  | some k => exact .inr (by simp))
/-- The numbers from k on. -/
def numsFrom (k n : Nat) : List Int := (List.range n).map fun j => ((k + j : Nat) : Int)
set_option maxRecDepth 20000 in
theorem nums_len (k n : Nat) : (numsFrom k n).length = n := by simp [numsFrom]
set_option maxRecDepth 20000 in
theorem nums_get (k n j : Nat) (h : j < (numsFrom k n).length) : (numsFrom k n)[j] = ((k + j : Nat) : Int) := by simp [numsFrom]
set_option maxRecDepth 20000 in
theorem nums_set (k : Nat) (P : List Int) (i : Nat) (h : i < P.length) : (numsFrom k i ++ P.drop i).set i ((k + i : Nat) : Int) = numsFrom k (i + 1) ++ P.drop (i + 1) := by
  rw [List.drop_eq_getElem_cons h]
  have e : numsFrom k (i + 1) = numsFrom k i ++ [((k + i : Nat) : Int)] := by simp [numsFrom, List.range_succ]
  rw [e, List.set_append, if_neg (by rw [nums_len]; omega), nums_len, Nat.sub_self, List.set_cons_zero, List.append_assoc]
  rfl
end Go.Proofs.YtbppdfjigcelkaaGreatDoor
namespace Go.Proofs.YtbppdfjigcelkaaGreatDoor
open Go.RowKit Go.Lib Go.Maps
set_option maxRecDepth 20000 in
/-- An append of one number. -/
theorem wp_appN {w : World} {ops : Array Oper} {rest : List Oper} {o : Oper} {a : Act} {Q : Exit → Act → World → Prop} (hgd : o.guard = none) (s x : Operand)
    (ho : o.op = .call { callee := .builtin .append, args := #[s, x], argTypes := #[23, 23] })
    (B : Nat) (v : Value) (C : List Int) (hs : a.eval s = v) (hown : OwnN B v C w) (u : Int)
    (c : Nat) (hx : a.eval x = .slice (some ⟨w.heap.size, 0, none⟩) 1 c) (hlen : C.length ≤ 1000000) (hB : B ≤ w.heap.size)
    (h : ∀ v' w', OwnN B v' (C ++ [u]) w' → (w.alloc (.cells #[.int .i64 u] 2)).grownBy w' v.ownBlock → wpList Tryz.prog ops Q rest (a.put o.dst v') w') : wpList Tryz.prog ops Q (o :: rest) a (w.alloc (.cells #[.int .i64 u] 2)) := by
  obtain ⟨i0, hi0, hz0, hz1, hz2⟩ := info_parts Tryz.info2
  unfold OwnN at hown
  refine wpList_append_own _ hgd s x 23 ho B 2 i0 (.int .i64 0) 1 8 Tryz.underlying23 hi0 hz0 hz1 hz2 rfl (by decide) v C.length (numCells C) hs (World.ownsRow.alloc hown _) ⟨w.heap.size, 0, none⟩ 1 c [.int .i64 u] hx
    rfl ?_ ?_ (by unfold maxLen; omega) (by omega) (by simp; omega) ?_
  · intro j y hj
    rw [add_off]
    match j, hj with
    | 0, hj => simp at hj; subst hj; simp
  · intro y hy
    simp at hy
    subst hy
    rfl
  · intro v' w' h1 h2 _
    refine h v' w' ?_ h2
    unfold OwnN numCells
    rw [List.map_append, List.length_append]
    exact h1
end Go.Proofs.YtbppdfjigcelkaaGreatDoor
namespace Go.Proofs.YtbppdfjigcelkaaGreatDoor
open Go.RowKit Go.Lib Go.Maps
def strCellsX (P : List ByteArray) : List Value := P.map .string
/-- The slice v, whose array is among the blocks from B on, holds just the texts P. -/
def OwnX (B : Nat) (v : Value) (P : List ByteArray) (w : World) : Prop := w.ownsRow B 9 1 v P.length (strCellsX P)
set_option maxRecDepth 20000 in
theorem OwnX.nil (B : Nat) (w : World) : OwnX B (.slice none 0 0) [] w := World.ownsRow_nil w B 9 1
set_option maxRecDepth 20000 in
theorem OwnX.shape {B : Nat} {v : Value} {P : List ByteArray} {w : World} (h : OwnX B v P w) : ∃ o cap, v = .slice o P.length cap := by
  rcases h.2 with ⟨rfl, h0⟩ | ⟨g, cap, cur, rfl, -⟩
  · exact ⟨none, 0, by rw [h0]⟩
  · exact ⟨_, cap, rfl⟩
set_option maxRecDepth 20000 in
theorem OwnX.txL {B : Nat} {o : Option Addr} {cap : Nat} {P : List ByteArray} {w : World} (h : OwnX B (.slice o P.length cap) P w) : TxL B w.heap.size w o P := by
  intro i hi
  have hl := World.ownsRow.lt h
  rcases h.2 with ⟨h1, h0⟩ | ⟨g, cap', cur, h1, hB, -⟩
  · omega
  · simp only [Value.slice.injEq] at h1
    obtain ⟨rfl, -⟩ := h1
    exact ⟨_, rfl, hB, (hl g rfl).2, World.ownsRow.cells h (g := g) rfl i _ (by simp [strCellsX, hi])⟩
set_option maxRecDepth 20000 in
theorem OwnX.keep {B : Nat} {v : Value} {P : List ByteArray} {w w' : World} {row : Option Nat} (h : OwnX B v P w) (hg : w.grownBy w' row) (hne : v.ownBlock = none ∨ v.ownBlock ≠ row) : OwnX B v P w' := World.ownsRow.kept h hg hne
set_option maxRecDepth 20000 in
theorem OwnX.below {B : Nat} {v : Value} {P : List ByteArray} {w w' : World} (h : OwnX B v P w) (hb : Below w.heap.size w w') : OwnX B v P w' := World.ownsRow.kept h (row := none) ⟨hb.os, hb.tape, hb.output, hb.size, fun k hk _ => hb.block k hk⟩ (by
  cases hv : v.ownBlock with
  | none => exact .inl rfl
  | some k => exact .inr (by simp))
set_option maxRecDepth 20000 in
theorem Tryz.info9X : (Tryz.prog.info? 9).map (fun i => (i.zero, i.size, i.bytes)) = some (some (.string ⟨#[]⟩), 1, 16) := by kernel_rfl
set_option maxRecDepth 20000 in
theorem wp_appX {w : World} {ops : Array Oper} {rest : List Oper} {o : Oper} {a : Act} {Q : Exit → Act → World → Prop} (hgd : o.guard = none) (s x : Operand)
    (ho : o.op = .call { callee := .builtin .append, args := #[s, x], argTypes := #[64, 64] })
    (B : Nat) (v : Value) (C : List ByteArray) (hs : a.eval s = v) (hown : OwnX B v C w) (u : ByteArray)
    (c : Nat) (hx : a.eval x = .slice (some ⟨w.heap.size, 0, none⟩) 1 c) (hlen : C.length ≤ 1000000) (hB : B ≤ w.heap.size)
    (h : ∀ v' w', OwnX B v' (C ++ [u]) w' → (w.alloc (.cells #[.string u] 9)).grownBy w' v.ownBlock → wpList Tryz.prog ops Q rest (a.put o.dst v') w') : wpList Tryz.prog ops Q (o :: rest) a (w.alloc (.cells #[.string u] 9)) := by
  obtain ⟨i0, hi0, hz0, hz1, hz2⟩ := info_parts Tryz.info9X
  unfold OwnX at hown
  refine wpList_append_own _ hgd s x 64 ho B 9 i0 (.string ⟨#[]⟩) 1 16 Tryz.underlying64 hi0 hz0 hz1 hz2 rfl (by decide) v C.length (strCellsX C) hs (World.ownsRow.alloc hown _) ⟨w.heap.size, 0, none⟩ 1 c [.string u] hx
    rfl ?_ ?_ (by unfold maxLen; omega) (by omega) (by simp; omega) ?_
  · intro j y hj
    rw [add_off]
    match j, hj with
    | 0, hj => simp at hj; subst hj; simp
  · intro y hy
    simp at hy
    subst hy
    rfl
  · intro v' w' h1 h2 _
    refine h v' w' ?_ h2
    unfold OwnX strCellsX
    rw [List.map_append, List.length_append]
    exact h1
set_option maxRecDepth 20000 in
theorem OwnX.made (B : Nat) (w : World) (hB : B ≤ w.heap.size) : OwnX B (.slice (some ⟨w.heap.size, 0, none⟩) 0 0) [] (w.alloc (.cells #[] 9)) :=
  ⟨rfl, .inr ⟨w.heap.size, 0, #[], rfl, hB, heap_alloc_at _ _, Nat.le_refl _, Nat.zero_le _, rfl, rfl⟩⟩
end Go.Proofs.YtbppdfjigcelkaaGreatDoor
namespace Go.Proofs.YtbppdfjigcelkaaGreatDoor
open Go.RowKit Go.Lib Go.Maps
set_option maxRecDepth 20000 in
theorem own_apartA {w : World} {B B' s s' n n' : Nat} {e e' : TypeId} {v v' : Value} {xs xs' : List Value} (h : w.ownsRow B e s v n xs) (h' : w.ownsRow B' e' s' v' n' xs') (he : e ≠ e') : v.ownBlock = none ∨ v.ownBlock ≠ v'.ownBlock := by
  rcases h.2 with ⟨rfl, -⟩ | ⟨g, cap, cur, rfl, -, hg, -⟩
  · exact .inl rfl
  · right
    rcases h'.2 with ⟨rfl, -⟩ | ⟨g', cap', cur', rfl, -, hg', -⟩
    · simp [Value.ownBlock]
    · intro e1
      simp only [Value.ownBlock, Option.some.injEq] at e1
      rw [e1, hg'] at hg
      simp only [Option.some.injEq, Obj.cells.injEq] at hg
      exact he hg.2.1.symm
set_option maxRecDepth 20000 in
/-- A row stands where its block does. -/
theorem row_stay {B s n : Nat} {e : TypeId} {v : Value} {xs : List Value} {w w' : World} (h : w.ownsRow B e s v n xs) (hk : ∀ k, v.ownBlock = some k → w'.heap[k]? = w.heap[k]?) : w'.ownsRow B e s v n xs := by
  obtain ⟨h1, h2⟩ := h
  refine ⟨h1, ?_⟩
  rcases h2 with h2 | ⟨k, cap, cur, rfl, e2, e3, e4⟩
  · exact .inl h2
  · exact .inr ⟨k, cap, cur, rfl, e2, (hk k rfl).trans e3, e4⟩
set_option maxRecDepth 20000 in
theorem row_same {B s n : Nat} {e : TypeId} {v : Value} {xs : List Value} {w w' : World} (h : w.ownsRow B e s v n xs) (hs : Same B w.heap.size w w') : w'.ownsRow B e s v n xs :=
  row_stay h fun k hk => hs k (World.ownsRow.lt h k hk).1 (World.ownsRow.lt h k hk).2
set_option maxRecDepth 20000 in
theorem gr_row {w0 w w' : World} {g : Nat} {v : Value} (h : w0.grownBy w (some g)) (hg : w.grownBy w' v.ownBlock) (hv : ∀ k, v.ownBlock = some k → w0.heap.size ≤ k) : w0.grownBy w' (some g) :=
  ⟨hg.os.trans h.os, hg.tape.trans h.tape, hg.output.trans h.output, Nat.le_trans h.size hg.size, fun i hi hr => (hg.block i (Nat.lt_of_lt_of_le hi h.size) (fun e => by have := hv i e.symm; omega)).trans (h.block i hi hr)⟩
set_option maxRecDepth 20000 in
theorem Src.row {w w' : World} {g n cp a z : Nat} {o : Option Addr} {v : Value} (h : Src w g o n cp a z) (hg : w.grownBy w' v.ownBlock) (hv : ∀ k, v.ownBlock = some k → k ≠ g) : Src w' g o n cp a z :=
  ⟨by rw [hg.block g h.lt (fun e => hv g e.symm rfl)]; exact h.blk⟩
set_option maxRecDepth 20000 in
theorem gr_setC {w0 w : World} {g b j : Nat} {v : Value} (h : w0.grownBy w (some g)) (hb : w0.heap.size ≤ b) : w0.grownBy (w.setCell ⟨b, j, none⟩ v) (some g) :=
  ⟨h.os, h.tape, h.output, by simpa [World.setCell] using h.size, fun i hi hr => by rw [← h.block i hi hr]; simp [World.setCell, Array.getElem?_modify, show b ≠ i by omega]⟩
set_option maxRecDepth 20000 in
theorem Src.setC {w : World} {g n cp a z b j : Nat} {o : Option Addr} {v : Value} (h : Src w g o n cp a z) (hb : b ≠ g) : Src (w.setCell ⟨b, j, none⟩ v) g o n cp a z :=
  ⟨by simp [World.setCell, Array.getElem?_modify, h.blk, hb]⟩
end Go.Proofs.YtbppdfjigcelkaaGreatDoor
namespace Go.Proofs.YtbppdfjigcelkaaGreatDoor
open Go.RowKit Go.Lib Go.Maps
set_option maxRecDepth 20000 in
theorem OwnX.grG {B g : Nat} {v : Value} {P : List ByteArray} {w w' : World} (h : OwnX B v P w) (hg : w.grownBy w' (some g)) (hB : g < B) : OwnX B v P w' := row_same h (Same.gr hg hB (Nat.le_refl _))
set_option maxRecDepth 20000 in
theorem OwnN.grG {B g : Nat} {v : Value} {P : List Int} {w w' : World} (h : OwnN B v P w) (hg : w.grownBy w' (some g)) (hB : g < B) : OwnN B v P w' := row_same h (Same.gr hg hB (Nat.le_refl _))
set_option maxRecDepth 20000 in
theorem OwnN.made (B : Nat) (w : World) (hB : B ≤ w.heap.size) : OwnN B (.slice (some ⟨w.heap.size, 0, none⟩) 0 0) [] (w.alloc (.cells #[] 2)) :=
  ⟨rfl, .inr ⟨w.heap.size, 0, #[], rfl, hB, hp_alloc _ _, Nat.le_refl _, Nat.zero_le _, rfl, rfl⟩⟩
end Go.Proofs.YtbppdfjigcelkaaGreatDoor
namespace Go.Proofs.YtbppdfjigcelkaaGreatDoor
open Go.Maps
namespace Pl
/-- The point of a byte, where that is not its number. -/
def nineOf (x : Int) : Option Int :=
  if x = 164 then some 8364 else if x = 166 then some 352 else if x = 168 then some 353 else if x = 180 then some 381 else
  if x = 184 then some 382 else if x = 188 then some 338 else if x = 189 then some 339 else if x = 190 then some 376 else none
/-- The byte of such a point. -/
def unNine (p : Int) : Option Int :=
  if p = 8364 then some 164 else if p = 352 then some 166 else if p = 353 then some 168 else if p = 381 then some 180 else
  if p = 382 then some 184 else if p = 338 then some 188 else if p = 339 then some 189 else if p = 376 then some 190 else none
set_option maxRecDepth 20000 in
theorem nine_un {x p : Int} (h : nineOf x = some p) : unNine p = some x := by
  unfold nineOf at h
  repeat (split at h; (· subst_vars; cases h; rfl))
  cases h
set_option maxRecDepth 20000 in
theorem un_nine {x p : Int} (h : unNine p = some x) : nineOf x = some p := by
  unfold unNine at h
  repeat (split at h; (· subst_vars; cases h; rfl))
  cases h
def nineD : DataW Unit :=
  ((((((((DataW.map [] : DataW Unit).put (.int .u8 164) (.lit (.int .i64 8364))).put (.int .u8 166) (.lit (.int .i64 352))).put (.int .u8 168) (.lit (.int .i64 353))).put (.int .u8 180) (.lit (.int .i64 381))).put
    (.int .u8 184) (.lit (.int .i64 382))).put (.int .u8 188) (.lit (.int .i64 338))).put (.int .u8 189) (.lit (.int .i64 339))).put (.int .u8 190) (.lit (.int .i64 376))
set_option maxRecDepth 20000 in
theorem ne_key {q : IntKind} {a b : Int} (h : a ≠ b) : Lit.int q a ≠ Lit.int q b := fun e => h (by cases e; rfl)
set_option maxRecDepth 20000 in
theorem nineD_at (x : Int) (z : DataW Unit) : nineD.atKey (.int .u8 x) z = match nineOf x with | some p => .lit (.int .i64 p) | none => z := by
  by_cases h0 : x = 164
  · subst h0; rfl
  by_cases h1 : x = 166
  · subst h1; rfl
  by_cases h2 : x = 168
  · subst h2; rfl
  by_cases h3 : x = 180
  · subst h3; rfl
  by_cases h4 : x = 184
  · subst h4; rfl
  by_cases h5 : x = 188
  · subst h5; rfl
  by_cases h6 : x = 189
  · subst h6; rfl
  by_cases h7 : x = 190
  · subst h7; rfl
  have e : nineOf x = none := by simp [nineOf, h0, h1, h2, h3, h4, h5, h6, h7]
  rw [e]
  unfold nineD
  rw [atKey_put_other (ne_key h7), atKey_put_other (ne_key h6), atKey_put_other (ne_key h5), atKey_put_other (ne_key h4), atKey_put_other (ne_key h3), atKey_put_other (ne_key h2), atKey_put_other (ne_key h1), atKey_put_other (ne_key h0)]
  rfl
set_option maxRecDepth 20000 in
theorem nineD_has (x : Int) : Maps.has nineD (.int .u8 x) = (nineOf x).isSome := by
  by_cases h0 : x = 164
  · subst h0; rfl
  by_cases h1 : x = 166
  · subst h1; rfl
  by_cases h2 : x = 168
  · subst h2; rfl
  by_cases h3 : x = 180
  · subst h3; rfl
  by_cases h4 : x = 184
  · subst h4; rfl
  by_cases h5 : x = 188
  · subst h5; rfl
  by_cases h6 : x = 189
  · subst h6; rfl
  by_cases h7 : x = 190
  · subst h7; rfl
  have e : nineOf x = none := by simp [nineOf, h0, h1, h2, h3, h4, h5, h6, h7]
  rw [e]
  unfold nineD
  rw [has_put_other (ne_key h7), has_put_other (ne_key h6), has_put_other (ne_key h5), has_put_other (ne_key h4), has_put_other (ne_key h3), has_put_other (ne_key h2), has_put_other (ne_key h1), has_put_other (ne_key h0)]
  rfl
set_option maxRecDepth 20000 in
theorem nineD_entry {x c : Int} (h : ∀ z, nineD.atKey (.int .u8 x) z = .lit (.int .i64 c)) : nineOf x = some c := by
  have h1 := h .nil
  rw [nineD_at] at h1
  cases e : nineOf x with
  | none => rw [e] at h1; cases h1
  | some p => rw [e] at h1; cases h1; rfl
/-- The other map holds just the entries that are no longer to come. -/
structure Inv (D : DataW Unit) (left : Lit → Bool) : Prop where
  map : IsMap D
  has : ∀ p b, unNine p = some b → Maps.has D (.int .i64 p) = !left (.int .u8 b)
  no : ∀ p, unNine p = none → Maps.has D (.int .i64 p) = false
  elem : ∀ p b z, unNine p = some b → left (.int .u8 b) = false → D.atKey (.int .i64 p) z = .lit (.int .u8 b)
set_option maxRecDepth 20000 in
theorem inv_start : Inv (.map []) (Maps.has nineD) where
  map := ⟨[], rfl⟩
  has := fun p b h => by rw [nineD_has, un_nine h]; rfl
  no := fun p h => rfl
  elem := fun p b z h h1 => by rw [nineD_has, un_nine h] at h1; cases h1
set_option maxRecDepth 20000 in
theorem inv_step {D : DataW Unit} {left : Lit → Bool} (h : Inv D left) {x c : Int} (hx : nineOf x = some c) : Inv (D.put (.int .i64 c) (.lit (.int .u8 x))) (fun z => left z && !z.sameKey (.int .u8 x)) where
  map := by
    obtain ⟨es, rfl⟩ := h.map
    exact ⟨_, rfl⟩
  has := fun p b hp => by
    by_cases e : p = c
    · subst e
      rw [nine_un hx] at hp
      cases hp
      rw [has_put_same (k := .int .i64 p) h.map trivial, show (Lit.int .u8 x).sameKey (Lit.int .u8 x) = true from WideAt.sameKey_self trivial]
      simp
    · rw [has_put_other (ne_key e), h.has p b hp]
      have hb : b ≠ x := fun e2 => e (by subst e2; have := un_nine hp; rw [hx] at this; cases this; rfl)
      have : (Lit.int .u8 b).sameKey (Lit.int .u8 x) = false := by simp [Lit.sameKey, hb]
      simp [this]
  no := fun p hp => by
    have e : p ≠ c := fun e => by subst e; rw [nine_un hx] at hp; cases hp
    rw [has_put_other (ne_key e), h.no p hp]
  elem := fun p b z hp hl => by
    by_cases e : p = c
    · subst e
      rw [nine_un hx] at hp
      cases hp
      rw [atKey_put_same (k := .int .i64 p) h.map trivial]
    · rw [atKey_put_other (ne_key e)]
      have hb : b ≠ x := fun e2 => e (by subst e2; have := un_nine hp; rw [hx] at this; cases this; rfl)
      have hs : (Lit.int .u8 b).sameKey (Lit.int .u8 x) = false := by simp [Lit.sameKey, hb]
      exact h.elem p b z hp (by simpa [hs] using hl)
/-- Both maps as they stand at the end. -/
structure Inv0 (D : DataW Unit) : Prop where
  has : ∀ p, Maps.has D (.int .i64 p) = (unNine p).isSome
  elem : ∀ p b z, unNine p = some b → D.atKey (.int .i64 p) z = .lit (.int .u8 b)
set_option maxRecDepth 20000 in
theorem inv_end {D : DataW Unit} {left : Lit → Bool} (h : Inv D left) (hl : ∀ k, left k = false) : Inv0 D where
  has := fun p => by
    cases e : unNine p with
    | none => rw [h.no p e]; rfl
    | some b => rw [h.has p b e, hl]; rfl
  elem := fun p b z hp => h.elem p b z hp (hl _)
end Pl
end Go.Proofs.YtbppdfjigcelkaaGreatDoor
