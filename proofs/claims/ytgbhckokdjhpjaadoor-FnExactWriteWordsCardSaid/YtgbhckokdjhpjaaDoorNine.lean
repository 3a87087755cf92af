
/- The set latin9 as the program makes it: two maps, the second one filled by ranging over the first. -/
import Derived.Test.YtgbhckokdjhpjaaDoorChecked
import Derived.Test.YtgbhckokdjhpjaaDoorBytes
import Derived.Test.YtgbhckokdjhpjaaDoorShelf
import Derived.WalkKit
import Derived.WalkLawsBesides
import Derived.WalkSpells
import Derived.Test.YtgbhckokdjhpjaaDoorNinePlain
import Derived.Maps.RangeWalk
import Derived.Maps.Ext
import Derived.Maps.OwnSet
namespace Go.Proofs.YtgbhckokdjhpjaaDoor
open Go.RowKit Go.Lib Go.Maps
theorem law8 : Keyed Tryd.prog 5 := int_keyed Tryd.underlying5
theorem law64 : Keyed Tryd.prog 2 := int_keyed Tryd.underlying2
/-- A map's entry laid where the map is written out. -/
theorem wpList_insert_own {H : Type} {P : Program} (w : World) {ops : Array Oper} {rest : List Oper} {o : Oper} {a : Act} {Q : Exit → Act → World → Prop}
    (hg : o.guard = none) (m x v : Operand) (t : TypeId) (hop : o.op = Op.insert t m x v)
    (k e : TypeId) (K : Keyed P k) (ht : P.underlying t = some (.map k e)) (R : Value → Option (DataW H × List MemPlace)) (b n : Nat) (D : DataW H)
    (hm : a.eval m = .map (some b)) (hown : w.ownsMap P k R b n D) (hn : n < maxLen) (key val : Value) (kl : Lit) (hx : a.eval x = key) (hv : a.eval v = val) (hkey : keyOf P k key = some kl)
    (d : DataW H) (ps : List MemPlace) (hval : R val = some (d, ps))
    (hK : ∀ w', w'.ownsMap P k R b (n + 1) (D.put kl d) → w.grownBy w' (some b) → wpList P ops Q rest (a.put o.dst undef) w') :
    wpList P ops Q (o :: rest) a w := by
  refine wpList_plain hg fun K' hK' => ?_
  obtain ⟨w', hrun, r1, r2⟩ := hown.update K ht hn hkey hval
  unfold Oper.wp
  simp [execOp, hop, hm, hx, hv, hrun, Result.andThen]
  exact hK' _ _ (hK w' r1 r2)
theorem heap_alloc_at (w : World) (o : Obj) : (w.alloc o).heap[w.heap.size]? = some o := by
  show (w.heap.push o)[w.heap.size]? = some o
  simp
theorem heap_lt {w : World} {b : Nat} {o : Obj} (h : w.heap[b]? = some o) : b < w.heap.size := by
  rw [Array.getElem?_eq_some_iff] at h; exact h.1
/-- A map that the call makes, in the block b, behind its result's block; what was there before stands. -/
structure NM (P : Program) (k e : TypeId) (W : World) (r : Obj) (b n : Nat) (D : DataW Unit) (w : World) : Prop where
  big : b < w.heap.size
  own : w.ownsMap P k (plainElem P e) b n D
  bel : Below W.heap.size W w
  low : W.heap.size < b
  res : w.heap[W.heap.size]? = some r
theorem wp_insert {P : Program} {W w : World} {r : Obj} {ops : Array Oper} {rest : List Oper} {o : Oper} {a : Act} {Q : Exit → Act → World → Prop}
    (hg : o.guard = none) (m x v : Operand) (t : TypeId) (hop : o.op = Op.insert t m x v)
    (k e : TypeId) (K : Keyed P k) (ht : P.underlying t = some (.map k e)) (b n : Nat) (D : DataW Unit)
    (hm : a.eval m = .map (some b)) (hown : NM P k e W r b n D w) (hn : n < maxLen) (key val : Value) (kl : Lit) (hx : a.eval x = key) (hv : a.eval v = val) (hkey : keyOf P k key = some kl)
    (d : DataW Unit) (hval : plainElem P e val = some (d, []))
    (hK : ∀ w', NM P k e W r b (n + 1) (D.put kl d) w' → wpList P ops Q rest (a.put o.dst undef) w') :
    wpList P ops Q (o :: rest) a w :=
  wpList_insert_own w hg m x v t hop k e K ht _ b n D hm hown.own hn key val kl hx hv hkey d [] hval (fun w' h1 h2 => hK w' ⟨Nat.lt_of_lt_of_le hown.big h2.size, h1, hown.bel.grown h2 hown.bel.size (fun j hj => by cases hj; exact Nat.le_of_lt hown.low), hown.low,
    (h2.block _ (heap_lt hown.res) (fun e => by have := Option.some.inj e; have := hown.low; omega)).trans hown.res⟩)
theorem heap_alloc_old (w : World) (o : Obj) (g : Nat) (h : g < w.heap.size) : (w.alloc o).heap[g]? = w.heap[g]? := by
  show (w.heap.push o)[g]? = w.heap[g]?
  simp [Array.getElem?_push]
  omega
theorem two_cells {w : World} {b : Nat} {x y : Value} {t : TypeId} {z : Nat × Nat} (h : w.heap[b]? = some (.cells #[x, y] t z)) : w.cell? ⟨b, 0, none⟩ = some x ∧ w.cell? ⟨b, 1, none⟩ = some y := by
  constructor <;> simp [World.cell?, h]
theorem wpL_load_row {P : Program} {w : World} {ops : Array Oper} {rest : List Oper} {o : Oper} {a : Act} {Q : Exit → Act → World → Prop} (hg : o.guard = none) (ty : TypeId) (x : Operand) (ho : o.op = .load ty x)
    (g : Nat) (cs : Array Value) (t : TypeId) (fr : Nat × Nat) (d : TypeDesc) (hx : a.eval x = .pointer (some ⟨g, 0, none⟩)) (hgp : w.heap[g]? = some (.cells cs t fr))
    (hu : P.underlying ty = some d) (hd : (match d with | .struct _ | .array _ _ => true | _ => false) = true) (hi : (P.info? ty).map (·.size) = some cs.size)
    (h : wpList P ops Q rest (a.put o.dst (.agg cs)) w) : wpList P ops Q (o :: rest) a w := by
  refine wpList_plain hg fun K' hK' => ?_
  unfold Oper.wp execOp
  simp only [ho, hx, Instr.loadAt, Instr.sureAddr, Sem.run_bind, Sem.run_pure, Result.andThen_ok, run_loadVar_row w g t ty cs fr d hgp hu hd hi]
  exact hK' _ _ h
theorem wpL_store_row {P : Program} {w : World} {ops : Array Oper} {rest : List Oper} {o : Oper} {a : Act} {Q : Exit → Act → World → Prop} (hg : o.guard = none) (ty : TypeId) (x y : Operand) (ho : o.op = .store ty x y)
    (g : Nat) (cells : Array Value) (hx : a.eval x = .pointer (some ⟨g, 0, none⟩)) (hy : a.eval y = .agg cells)
    (t : TypeId) (old : Array Value) (hgp : w.heap[g]? = some (.cells old t (0, 0))) (hi : (P.info? ty).map (·.size) = some cells.size)
    (hold : old.size = cells.size) (h1 : cells.all (·.oneCell') = true)
    (h : wpList P ops Q rest (a.put o.dst undef) (w.setRow g cells)) : wpList P ops Q (o :: rest) a w := by
  refine wpList_plain hg fun K' hK' => ?_
  exact wp_store_row ty x y ho g cells hx hy t old hgp hi hold h1 (hK' _ _ h)
theorem grown_setRow (w : World) (g : Nat) (cs : Array Value) : w.grownBy (w.setRow g cs) (some g) :=
  ⟨rfl, rfl, rfl, by simp, fun i _ hi => setRow_other w g i cs (fun e => hi (by rw [e]))⟩
/-- The set latin9 in memory: its two maps. -/
structure Nine (w : World) (m1 m2 : Nat) : Prop where
  points : w.ownsMap (H := Unit) Tryd.prog 5 (plainElem Tryd.prog 2) m1 8 Pl.nineD
  bytes : ∃ D, w.ownsMap (H := Unit) Tryd.prog 2 (plainElem Tryd.prog 5) m2 8 D ∧ Pl.Inv0 D
set_option maxHeartbeats 1000000 in
theorem implNew (w : World) : Calls Tryd.prog 22 #[] w fun e w' => ∃ m1 m2, e = .returned (.agg #[.map (some m1), .map (some m2)]) ∧ Nine w' m1 m2 ∧ w.heap.size ≤ m1 ∧ w.heap.size ≤ m2 ∧ Below w.heap.size w w' := by
  have hmm := @run_makeMap Tryd.prog
  have hnm0 : ∀ (o : Obj) (b : Nat), w.heap.size + 1 = b → NM Tryd.prog 5 2 w o b 0 (.map []) ((w.alloc o).alloc (.map #[] 0)) := fun o b h => ⟨by simp; omega, by have := World.ownsMap_made (H := Unit) (w.alloc o) Tryd.prog 5 (plainElem Tryd.prog 2); rw [show (w.alloc o).heap.size = b from by simp; exact h] at this; exact this, ((Below.refl _ _).alloc (Nat.le_refl _) _).alloc (by simp) _, by omega, by rw [heap_alloc_old _ _ _ (by simp)]; exact heap_alloc_at w o⟩
  go_enter Tryd.func22, Tryd.ntmps22
  go_wp2_with (first
    | (refine wp_insert (W := w) rfl _ _ _ 47 rfl 5 2 law8 Tryd.underlying47 _ _ _ rfl (by assumption) (by unfold maxLen; omega) _ _ _ rfl rfl (keyOf_int_mk Tryd.underlying5 (by decide)) _ (plainElem_int Tryd.underlying2 (by decide)) ?_; intro w1 hnm)
    | (refine wp_insert (W := w) rfl _ _ _ 47 rfl 5 2 law8 Tryd.underlying47 _ _ _ rfl (hnm0 _ _ rfl) (by unfold maxLen; omega) _ _ _ rfl rfl (keyOf_int_mk Tryd.underlying5 (by decide)) _ (plainElem_int Tryd.underlying2 (by decide)) ?_; intro w1 hnm)
    | (at_range; replace hnm : NM Tryd.prog 5 2 w (.cells #[.map none, .map none] 50) (w.heap.size + 1) 8 Pl.nineD w1 := hnm; refine wpList_range_own _ rfl _ 47 rfl 5 2 law8 Tryd.underlying47 _ (w.heap.size + 1) 8 _ rfl ((hnm.own.alloc _).alloc _) ?_; intro w2 hrg2 hg2 hs2)
    | go_in)
  go_frame
  clear hnm0
  have e1 : ((w1.alloc (Obj.map #[] 0)).alloc (Obj.cells #[Value.map (some (w.heap.size + 1)), Value.map (some w1.heap.size)] 50)).heap.size = w1.heap.size + 2 := by simp
  have hz1 : w.heap.size + 1 < w1.heap.size := hnm.big
  have hA1 : ((w1.alloc (Obj.map #[] 0)).alloc (Obj.cells #[Value.map (some (w.heap.size + 1)), Value.map (some w1.heap.size)] 50)).heap[w1.heap.size + 1]? = some (.cells #[.map (some (w.heap.size + 1)), .map (some w1.heap.size)] 50 (0, 0)) := by
    have := heap_alloc_at (w1.alloc (Obj.map #[] 0)) (Obj.cells #[Value.map (some (w.heap.size + 1)), Value.map (some w1.heap.size)] 50)
    simpa using this
  rw [e1] at hrg2 hs2 ⊢
  go_loopw [2] (fun _ wr => ∃ (left : Lit → Bool) (cnt : Nat) (Dout : DataW Unit), wr.ranges Tryd.prog 5 (plainElem Tryd.prog 2) (w.heap.size + 1) (w1.heap.size + 2) 8 Pl.nineD left cnt ∧ cnt ≤ 8 ∧
      wr.ownsMap Tryd.prog 2 (plainElem Tryd.prog 5) w1.heap.size (8 - cnt) Dout ∧ Pl.Inv Dout left ∧ wr.heap[w1.heap.size + 1]? = some (.cells #[.map (some (w.heap.size + 1)), .map (some w1.heap.size)] 50 (0, 0)) ∧ wr.heap[w.heap.size]? = some (.cells #[.map none, .map none] 50 (0, 0)) ∧ Below w.heap.size w wr)
    (fun _ wr => wr.rangeLeft (w.heap.size + 1) (w1.heap.size + 2))
  case atStart =>
    refine ⟨_, _, .map [], hrg2, by decide, ?_, Pl.inv_start, ?_, ?_, ?_⟩
    · exact ((((World.ownsMap_made (H := Unit) w1 _ _ _)).alloc _).kept hg2 (by simp)).mono (Nat.zero_le _)
    · rw [hg2.block _ (by simp) (by simp)]; exact hA1
    · rw [hg2.block _ (by simp; omega) (by simp)]; have := hnm.res; rw [heap_alloc_old _ _ _ (by simp; omega), heap_alloc_old _ _ _ (by omega)]; exact this
    · exact ((hnm.bel.alloc (by omega) _).alloc (by simp; omega) _).grown hg2 (by simp; omega) (fun j hj => by cases hj)
  case round =>
    obtain ⟨left, cnt, Dout, hrg, hcs, hout, hA, hcell, hres, hnx⟩ := hrel
    obtain ⟨hc0, hc1⟩ := two_cells hcell
    go_wp2_with (first
      | (at_next; refine wpList_next_ranges_ii _ rfl _ rfl 5 2 .u8 .i64 law8 Tryd.underlying5 Tryd.underlying2 (w.heap.size + 1) (w1.heap.size + 2) 8 _ _ _ rfl hrg ?_ ?_)
      | go_in)
    · intro hc00 hl0
      go_wp2_with (first
        | (refine wpL_load_row rfl 50 _ rfl (w1.heap.size + 1) _ 50 (0, 0) _ rfl hcell Tryd.underlying50 rfl (by kernel_rfl) ?_)
        | (refine wpL_store_row rfl 50 _ _ rfl w.heap.size #[.map (some (w.heap.size + 1)), .map (some w1.heap.size)] rfl rfl 50 _ hres (by kernel_rfl) rfl (by simp [Value.oneCell']) ?_)
        | go_in)
      refine bodyPost_ret (v := .agg #[.map (some (w.heap.size + 1)), .map (some w1.heap.size)]) (results_cell_row Tryd.results22 _ _ w.heap.size 50 _ (0, 0) _ rfl (setRow_heap _ _ _ _ _ _ hres) Tryd.underlying50 rfl (by kernel_rfl)) rfl ?_
      have hgs := grown_setRow wr w.heap.size #[.map (some (w.heap.size + 1)), .map (some w1.heap.size)]
      exact ⟨_, _, rfl, ⟨hrg.owns.kept hgs (by simp), _, (hout.kept hgs (by simp; omega)).mono (by omega), Pl.inv_end hA hl0⟩, by omega, by omega, hnx.grown hgs hnx.size (fun j hj => by cases hj; exact Nat.le_refl _)⟩
    · intro x c w3 cnt1 hwx hwc hlx hat hrg1 hlt hg1 hs1 hen
      have hout1 := hout.kept hg1 (by simp)
      have hcell1 := (hg1.block (w1.heap.size + 1) (by rw [Array.getElem?_eq_some_iff] at hcell; exact hcell.1) (by simp)).trans hcell
      obtain ⟨hd0, hd1⟩ := two_cells hcell1
      go_wp2_with (first
        | (at_mapUpdate; refine wpList_mapUpdate_own _ rfl _ _ _ 48 rfl 2 5 law64 Tryd.underlying48 _ w1.heap.size _ _ rfl hout1 (by unfold maxLen; omega) _ _ _ rfl rfl (keyOf_int_mk Tryd.underlying2 hwc) _ [] (plainElem_int Tryd.underlying5 hwx) ?_; intro w4 hout2 hg4; go_frame)
        | go_in)
      have hrg4 := hrg1.kept hg4 (fun e => by have := Option.some.inj e; omega) (fun e => by have := Option.some.inj e; omega)
      go_roundw
      case rel =>
        exact ⟨_, cnt1, _, hrg4, by omega, hout2.mono (by omega), Pl.inv_step hA (Pl.nineD_entry hat), (hg4.block (w1.heap.size + 1) (by rw [Array.getElem?_eq_some_iff] at hcell1; exact hcell1.1) (by simp)).trans hcell1, (hg4.block w.heap.size (Nat.lt_of_lt_of_le (heap_lt hres) hg1.size) (by simp; omega)).trans ((hg1.block w.heap.size (heap_lt hres) (by simp; omega)).trans hres),
          (hnx.grown hg1 hnx.size (fun j hj => by cases hj; omega)).grown hg4 (by have := hnx.size; omega) (fun j hj => by cases hj; omega)⟩
      case measure => rw [hrg4.left_eq, hrg.left_eq]; exact hlt
end Go.Proofs.YtgbhckokdjhpjaaDoor
