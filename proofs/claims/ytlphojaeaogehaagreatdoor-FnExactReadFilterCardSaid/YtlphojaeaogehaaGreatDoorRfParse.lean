
/- The walks' base: a long text, a text whose bytes are all of a kind, the copy of a text. -/

/- Lists of texts that were handed in; the law's helpers over them. -/

/- Lists of numbers that were handed in; the law's helpers over them, and over texts. -/

/- Results that lie in a block: laws of no program. -/

/- Lists of a filter's nodes in memory: handed in, made anew, held against one another. -/

/- Scripts of filters, plain: their tokens, and what they say. -/

/- Scripts of filters, plain: what their tokens say. -/
import Derived.Test.YtlphojaeaogehaaGreatDoorChecked
import Derived.Test.YtlphojaeaogehaaGreatDoorReadPlain
import Derived.Test.YtlphojaeaogehaaGreatDoorShelf
import Derived.Shelf.Abstract
import Derived.WalkKit
import Derived.WalkLawsBesides
import Derived.WalkSpells
import Derived.Laws.OwnMore
import Derived.Laws.MakeOwn
import Derived.Deep.RegionWith
import Derived.Below
import Derived.Maps.OwnSet
import Derived.Deep.OwnRows
import Derived.Test.YtlphojaeaogehaaGreatDoorReadSame
namespace Go.Proofs.YtlphojaeaogehaaGreatDoor
open Go.RowKit Go.Lib
set_option maxRecDepth 20000 in
theorem Tryz.info5 : (Tryz.prog.info? 5).map (fun i => (i.zero, i.size, i.bytes)) = some (some (.int .u8 0), 1, 1) := by kernel_rfl
/-- A function value that tells a byte's kind. -/
structure Kind (f : FuncId) (K : UInt8 → Bool) : Prop where
  enters : ∀ (args : Array Value) (w : World), (callFunc f args).run Tryz.prog w = .ok (.enter f args) w
  calls : ∀ (c : UInt8) (w : World), Calls Tryz.prog f #[.int .u8 (c.toNat : Int)] w fun e w' => e = .returned (.bool (K c)) ∧ w = w'
set_option maxRecDepth 20000 in
set_option maxHeartbeats 400000 in
theorem implAllOf {f : FuncId} {K : UInt8 → Bool} (hK : Kind f K) (s : ByteArray) (w : World) (_hs : s.size ≤ 1100000) :
    Calls Tryz.prog 84 #[.string s, .func (.func f) #[] #[]] w fun e w' => e = .returned (.bool (s.data.toList.all K)) ∧ w = w' := by
  have hE := hK.enters
  go_enter Tryz.func84, Tryz.ntmps84
  go_wp2
  go_loopw [5, 8] (fun _ i wr => ∃ k : Nat, k ≤ s.size ∧ i = .int .i64 k ∧ Hid ((s.data.toList.drop k).all K = s.data.toList.all K) ∧ wr = w) (fun _ i _ => s.size - (Lib.intOf i).toNat)
  case atStart => exact ⟨0, Nat.zero_le _, rfl, rfl, rfl⟩
  case round =>
    obtain ⟨k, hk, rfl, hp, rfl⟩ := hrel
    by_cases hlt : k < s.size
    · have h8 : s[k].toNat < 256 := UInt8.toNat_lt _
      have hst := Pl.all_step K s.data.toList k (by simpa using hlt)
      rw [Pl.at_list s k hlt] at hst
      have Hst : Hid ((s.data.toList.drop k).all K = (K s[k] && (s.data.toList.drop (k + 1)).all K)) := hst
      clear hst
      cases hkc : K s[k]
      · go_wp2_with fail
        refine (hK.calls s[k] _).mono ?_
        rintro e w2 ⟨rfl, rfl⟩
        rw [hkc]
        go_wp2
        go_ret
        have := Hst.out
        rw [hkc, Bool.false_and, hp.out] at this
        exact ⟨by rw [this]; rfl, rfl⟩
      · have Hkc : Hid (K s[k] = true) := hkc
        go_wp2_with fail
        refine (hK.calls s[k] _).mono ?_
        rintro e w2 ⟨rfl, rfl⟩
        rw [hkc]
        clear hkc
        go_wp2
        go_roundw
        case rel =>
          refine ⟨k + 1, by omega, by go_num, ?_, trivial⟩
          have := Hst.out
          rw [Hkc.out, Bool.true_and, hp.out] at this
          exact this.symm
        case measure => simp [Lib.intOf]; omega
    · have h0 : s.data.toList.all K = true := by rw [← hp.out]; exact Pl.all_done K _ k (by simp; omega)
      have H0 : Hid (s.data.toList.all K = true) := h0
      clear h0 hp
      go_wp2
      go_ret
      exact ⟨by rw [H0.out]; rfl, rfl⟩
set_option maxRecDepth 20000 in
theorem libClone (s : ByteArray) (w : World) (hs : s.size ≤ 1100000) :
    Calls Tryz.prog 89 #[.string s] w fun e w' => e = .returned (.string s) ∧ Below w.heap.size w w' := by
  go_enter Tryz.func89, Tryz.ntmps89
  go_wp2_with fail
  refine (Tryz.stringslite_Clone s _ (by omega)).mono ?_
  rintro e w2 ⟨rfl, hb⟩
  go_wp2
  go_ret
  exact ⟨rfl, hb⟩
end Go.Proofs.YtlphojaeaogehaaGreatDoor
namespace Go.Proofs.YtlphojaeaogehaaGreatDoor
open Go.RowKit Go.Lib Go.Maps
def Tx (B : Nat) (w : World) (o : Option Addr) (ps : List ByteArray) : Prop := ∀ k (h : k < ps.length), ∃ a, o = some a ∧ a.block < B ∧ w.cell? (a.add k) = some (.string ps[k])
set_option maxRecDepth 20000 in
theorem mkHid {p : Prop} (h : p) : Hid p := h
set_option maxRecDepth 20000 in
theorem Tx.below {B : Nat} {w w' : World} {o : Option Addr} {ps : List ByteArray} (h : Tx B w o ps) (hb : Below B w w') : Tx B w' o ps := by
  intro k hk
  obtain ⟨a, rfl, ha, hc⟩ := h k hk
  refine ⟨a, rfl, ha, ?_⟩
  rw [← hc]
  have e : (a.add k).block = a.block := by unfold Addr.add; split <;> rfl
  exact hb.cell (by rw [e]; exact ha)
set_option maxRecDepth 20000 in
theorem Tx.mono {B B' : Nat} {w : World} {o : Option Addr} {ps : List ByteArray} (h : Tx B w o ps) (hB : B ≤ B') : Tx B' w o ps := by
  intro k hk
  obtain ⟨a, rfl, ha, hc⟩ := h k hk
  exact ⟨a, rfl, by omega, hc⟩
set_option maxRecDepth 20000 in
theorem Tryz.info9 : (Tryz.prog.info? 9).map (fun i => (i.zero, i.size, i.bytes)) = some (some (.string ByteArray.empty), 1, 16) := by kernel_rfl
set_option maxRecDepth 20000 in
set_option maxHeartbeats 400000 in
theorem lawEqTexts (a b : Addr) (F : List ByteArray) (cap cap' : Nat) (w : World) (hF : Tx w.heap.size w (some a) F) (hG : Tx w.heap.size w (some b) F) (hlen : F.length ≤ 1048576) :
    Calls Tryz.prog 64 #[.slice (some a) F.length cap, .slice (some b) F.length cap'] w fun e w' => e = .returned (.bool true) ∧ Below w.heap.size w w' := by
  have HF : Hid (Tx w.heap.size w (some a) F) := hF
  have HG : Hid (Tx w.heap.size w (some b) F) := hG
  clear hF hG
  go_enter Tryz.func64, Tryz.ntmps64
  go_wp2
  go_loopw [5] (fun i wr => ∃ k : Nat, k ≤ F.length ∧ i = .int .i64 k ∧ Below w.heap.size w wr) (fun i _ => F.length - (Lib.intOf i).toNat)
  case atStart => exact ⟨0, Nat.zero_le _, rfl, Below.refl _ _⟩
  case round =>
    obtain ⟨k, hk, rfl, hb0⟩ := hrel
    by_cases hlt : k < F.length
    · obtain ⟨a', ea, ha, hc0⟩ := (HF.out.below hb0) k hlt
      obtain ⟨b', eb, hb, hd0⟩ := (HG.out.below hb0) k hlt
      cases ea
      cases eb
      generalize F[k] = f at hc0 hd0
      go_wp2
      go_region
      all_goals
        go_wp2
        go_roundw
        case rel => exact ⟨k + 1, by omega, by go_num, hb0.drew⟩
        case measure => simp [Lib.intOf]; omega
    · go_wp2
      go_ret
      exact ⟨rfl, hb0⟩
def szT : List ByteArray → Nat
  | [] => 0
  | t :: r => t.size + szT r
set_option maxRecDepth 20000 in
theorem szT_drop (F : List ByteArray) (k : Nat) (h : k < F.length) : szT (F.drop k) = F[k].size + szT (F.drop (k + 1)) := by
  rw [List.drop_eq_getElem_cons h]; rfl
set_option maxRecDepth 20000 in
theorem szT_mem : ∀ (F : List ByteArray) (t : ByteArray), t ∈ F → t.size ≤ szT F
  | [], _, h => absurd h (List.not_mem_nil)
  | a :: r, t, h => by
    rcases List.mem_cons.1 h with rfl | h
    · simp [szT]
    · have := szT_mem r t h; simp [szT]; omega
end Go.Proofs.YtlphojaeaogehaaGreatDoor
namespace Go.Proofs.YtlphojaeaogehaaGreatDoor
open Go.RowKit Go.Lib Go.Maps
/-- The slice of numbers at o, in blocks below B. -/
def Ints (B : Nat) (w : World) (o : Option Addr) (ps : List Int) : Prop := ∀ k (h : k < ps.length), ∃ a, o = some a ∧ a.block < B ∧ w.cell? (a.add k) = some (.int .i64 ps[k])
set_option maxRecDepth 20000 in
theorem Ints.below {B : Nat} {w w' : World} {o : Option Addr} {ps : List Int} (h : Ints B w o ps) (hb : Below B w w') : Ints B w' o ps := by
  intro k hk
  obtain ⟨a, rfl, ha, hc⟩ := h k hk
  refine ⟨a, rfl, ha, ?_⟩
  rw [← hc]
  have e : (a.add k).block = a.block := by unfold Addr.add; split <;> rfl
  exact hb.cell (by rw [e]; exact ha)
set_option maxRecDepth 20000 in
theorem Ints.mono {B B' : Nat} {w : World} {o : Option Addr} {ps : List Int} (h : Ints B w o ps) (hB : B ≤ B') : Ints B' w o ps := by
  intro k hk
  obtain ⟨a, rfl, ha, hc⟩ := h k hk
  exact ⟨a, rfl, by omega, hc⟩
set_option maxRecDepth 20000 in
theorem Tryz.info2 : (Tryz.prog.info? 2).map (fun i => (i.zero, i.size, i.bytes)) = some (some (.int .i64 0), 1, 8) := by kernel_rfl
set_option maxRecDepth 20000 in
set_option maxHeartbeats 400000 in
theorem lawEqInts (a b : Addr) (F : List Int) (cap cap' : Nat) (w : World) (hF : Ints w.heap.size w (some a) F) (hG : Ints w.heap.size w (some b) F) (hlen : F.length ≤ 1048576) :
    Calls Tryz.prog 65 #[.slice (some a) F.length cap, .slice (some b) F.length cap'] w fun e w' => e = .returned (.bool true) ∧ Below w.heap.size w w' := by
  have HF : Hid (Ints w.heap.size w (some a) F) := hF
  have HG : Hid (Ints w.heap.size w (some b) F) := hG
  clear hF hG
  go_enter Tryz.func65, Tryz.ntmps65
  go_wp2
  go_loopw [5] (fun i wr => ∃ k : Nat, k ≤ F.length ∧ i = .int .i64 k ∧ Below w.heap.size w wr) (fun i _ => F.length - (Lib.intOf i).toNat)
  case atStart => exact ⟨0, Nat.zero_le _, rfl, Below.refl _ _⟩
  case round =>
    obtain ⟨k, hk, rfl, hb0⟩ := hrel
    by_cases hlt : k < F.length
    · obtain ⟨a', ea, ha, hc0⟩ := (HF.out.below hb0) k hlt
      obtain ⟨b', eb, hb, hd0⟩ := (HG.out.below hb0) k hlt
      cases ea
      cases eb
      generalize F[k] = f at hc0 hd0
      go_wp2
      go_region
      all_goals
        go_wp2
        go_roundw
        case rel => exact ⟨k + 1, by omega, by go_num, hb0.drew⟩
        case measure => simp [Lib.intOf]; omega
    · go_wp2
      go_ret
      exact ⟨rfl, hb0⟩
end Go.Proofs.YtlphojaeaogehaaGreatDoor
namespace Go.Proofs.YtlphojaeaogehaaGreatDoor
open Go.RowKit Go.Lib
set_option maxRecDepth 20000 in
theorem heap_alloc_at (w : World) (o : Obj) : (w.alloc o).heap[w.heap.size]? = some o := by
  show (w.heap.push o)[w.heap.size]? = some o
  simp
set_option maxRecDepth 20000 in
theorem heap_lt {w : World} {b : Nat} {o : Obj} (h : w.heap[b]? = some o) : b < w.heap.size := by
  rw [Array.getElem?_eq_some_iff] at h; exact h.1
set_option maxRecDepth 20000 in
theorem heap_alloc_old (w : World) (o : Obj) (g : Nat) (h : g < w.heap.size) : (w.alloc o).heap[g]? = w.heap[g]? := by
  show (w.heap.push o)[g]? = w.heap[g]?
  simp [Array.getElem?_push]
  omega
set_option maxRecDepth 20000 in
theorem two_cells {w : World} {b : Nat} {x y : Value} {t : TypeId} {z : Nat × Nat} (h : w.heap[b]? = some (.cells #[x, y] t z)) : w.cell? ⟨b, 0, none⟩ = some x ∧ w.cell? ⟨b, 1, none⟩ = some y := by
  constructor <;> simp [World.cell?, h]
set_option maxRecDepth 20000 in
theorem wpL_load_row {P : Program} {w : World} {ops : Array Oper} {rest : List Oper} {o : Oper} {a : Act} {Q : Exit → Act → World → Prop} (hg : o.guard = none) (ty : TypeId) (x : Operand) (ho : o.op = .load ty x)
    (g : Nat) (cs : Array Value) (t : TypeId) (fr : Nat × Nat) (d : TypeDesc) (hx : a.eval x = .pointer (some ⟨g, 0, none⟩)) (hgp : w.heap[g]? = some (.cells cs t fr))
    (hu : P.underlying ty = some d) (hd : (match d with | .struct _ | .array _ _ => true | _ => false) = true) (hi : (P.info? ty).map (·.size) = some cs.size)
    (h : wpList P ops Q rest (a.put o.dst (.agg cs)) w) : wpList P ops Q (o :: rest) a w := by
  refine wpList_plain hg fun K' hK' => ?_
  unfold Oper.wp execOp
  simp only [ho, hx, Instr.loadAt, Instr.sureAddr, Sem.run_bind, Sem.run_pure, Result.andThen_ok, run_loadVar_row w g t ty cs fr d hgp hu hd hi]
  exact hK' _ _ h
set_option maxRecDepth 20000 in
theorem wpL_store_row {P : Program} {w : World} {ops : Array Oper} {rest : List Oper} {o : Oper} {a : Act} {Q : Exit → Act → World → Prop} (hg : o.guard = none) (ty : TypeId) (x y : Operand) (ho : o.op = .store ty x y)
    (g : Nat) (cells : Array Value) (hx : a.eval x = .pointer (some ⟨g, 0, none⟩)) (hy : a.eval y = .agg cells)
    (t : TypeId) (old : Array Value) (hgp : w.heap[g]? = some (.cells old t (0, 0))) (hi : (P.info? ty).map (·.size) = some cells.size)
    (hold : old.size = cells.size) (h1 : cells.all (·.oneCell') = true)
    (h : wpList P ops Q rest (a.put o.dst undef) (w.setRow g cells)) : wpList P ops Q (o :: rest) a w := by
  refine wpList_plain hg fun K' hK' => ?_
  exact wp_store_row ty x y ho g cells hx hy t old hgp hi hold h1 (hK' _ _ h)
set_option maxRecDepth 20000 in
theorem grown_setRow (w : World) (g : Nat) (cs : Array Value) : w.grownBy (w.setRow g cs) (some g) :=
  ⟨rfl, rfl, rfl, by simp, fun i _ hi => setRow_other w g i cs (fun e => hi (by rw [e]))⟩
end Go.Proofs.YtlphojaeaogehaaGreatDoor
namespace Go.Proofs.YtlphojaeaogehaaGreatDoor
open Go.RowKit Go.Lib Go.Maps
structure Nd where
  kind : Int
  num : Int
  mat : Int
  text : ByteArray
  names : List ByteArray
  keys : List ByteArray
  kids : List Int
/-- A node's value: its three lists are given as values. -/
def ndV (n : Nd) (vn vk vd : Value) : Value := .agg #[.int .i64 n.kind, .int .i64 n.num, .int .i64 n.mat, .string n.text, vn, vk, vd]
/-- The three lists of a node, in blocks below B. -/
structure NdIn (B : Nat) (w : World) (n : Nd) (vn vk vd : Value) : Prop where
  names : ∃ a c, vn = .slice a n.names.length c ∧ Tx B w a n.names
  keys : ∃ a c, vk = .slice a n.keys.length c ∧ Tx B w a n.keys
  kids : ∃ a c, vd = .slice a n.kids.length c ∧ Ints B w a n.kids
set_option maxRecDepth 20000 in
theorem NdIn.below {B : Nat} {w w' : World} {n : Nd} {vn vk vd : Value} (h : NdIn B w n vn vk vd) (hb : Below B w w') : NdIn B w' n vn vk vd := by
  obtain ⟨⟨a, c, e1, t1⟩, ⟨a2, c2, e2, t2⟩, ⟨a3, c3, e3, t3⟩⟩ := h
  exact ⟨⟨a, c, e1, t1.below hb⟩, ⟨a2, c2, e2, t2.below hb⟩, ⟨a3, c3, e3, t3.below hb⟩⟩
set_option maxRecDepth 20000 in
theorem NdIn.mono {B B' : Nat} {w : World} {n : Nd} {vn vk vd : Value} (h : NdIn B w n vn vk vd) (hB : B ≤ B') : NdIn B' w n vn vk vd := by
  obtain ⟨⟨a, c, e1, t1⟩, ⟨a2, c2, e2, t2⟩, ⟨a3, c3, e3, t3⟩⟩ := h
  exact ⟨⟨a, c, e1, t1.mono hB⟩, ⟨a2, c2, e2, t2.mono hB⟩, ⟨a3, c3, e3, t3.mono hB⟩⟩
/-- The seven cells of a node. -/
structure NdAt (w : World) (A : Addr) (n : Nd) (vn vk vd : Value) : Prop where
  c0 : w.cell? A = some (.int .i64 n.kind)
  c1 : w.cell? ⟨A.block, A.off + 1, none⟩ = some (.int .i64 n.num)
  c2 : w.cell? ⟨A.block, A.off + 2, none⟩ = some (.int .i64 n.mat)
  c3 : w.cell? ⟨A.block, A.off + 3, none⟩ = some (.string n.text)
  c4 : w.cell? ⟨A.block, A.off + 4, none⟩ = some vn
  c5 : w.cell? ⟨A.block, A.off + 5, none⟩ = some vk
  c6 : w.cell? ⟨A.block, A.off + 6, none⟩ = some vd
set_option maxRecDepth 20000 in
theorem NdAt.below {B : Nat} {w w' : World} {A : Addr} {n : Nd} {vn vk vd : Value} (h : NdAt w A n vn vk vd) (hb : Below B w w') (hA : A.block < B) : NdAt w' A n vn vk vd :=
  ⟨(hb.cell hA).trans h.c0, (hb.cell (p := ⟨A.block, A.off + 1, none⟩) hA).trans h.c1, (hb.cell (p := ⟨A.block, A.off + 2, none⟩) hA).trans h.c2, (hb.cell (p := ⟨A.block, A.off + 3, none⟩) hA).trans h.c3, (hb.cell (p := ⟨A.block, A.off + 4, none⟩) hA).trans h.c4, (hb.cell (p := ⟨A.block, A.off + 5, none⟩) hA).trans h.c5, (hb.cell (p := ⟨A.block, A.off + 6, none⟩) hA).trans h.c6⟩
/-- The slice's elements, below a block, are these nodes. -/
def Nds (B : Nat) (w : World) (o : Option Addr) (F : List Nd) : Prop :=
  ∀ i (h : i < F.length), ∃ a vn vk vd, o = some a ∧ a.block < B ∧ NdAt w (a.add (i * 7)) F[i] vn vk vd ∧ NdIn B w F[i] vn vk vd
set_option maxRecDepth 20000 in
theorem add_blockN (a : Addr) (n : Nat) : (a.add n).block = a.block := by unfold Addr.add; split <;> rfl
set_option maxRecDepth 20000 in
theorem Nds.below {B : Nat} {w w' : World} {o : Option Addr} {F : List Nd} (h : Nds B w o F) (hb : Below B w w') : Nds B w' o F := by
  intro i hi
  obtain ⟨a, vn, vk, vd, ho, ha, h1, h2⟩ := h i hi
  exact ⟨a, vn, vk, vd, ho, ha, h1.below hb (by rw [add_blockN]; exact ha), h2.below hb⟩
set_option maxRecDepth 20000 in
theorem Nds.mono {B B' : Nat} {w : World} {o : Option Addr} {F : List Nd} (h : Nds B w o F) (hB : B ≤ B') : Nds B' w o F := by
  intro i hi
  obtain ⟨a, vn, vk, vd, ho, ha, h1, h2⟩ := h i hi
  exact ⟨a, vn, vk, vd, ho, by omega, h1, h2.mono hB⟩
/-- Small enough to be looked at. -/
def Nd.fits (n : Nd) (m : Nat) : Prop := n.text.size ≤ m ∧ n.names.length ≤ m ∧ (∀ t ∈ n.names, t.size ≤ m) ∧ n.keys.length ≤ m ∧ (∀ t ∈ n.keys, t.size ≤ m) ∧ n.kids.length ≤ m
set_option maxRecDepth 20000 in
theorem hp_allocN (w : World) (o : Obj) : (w.alloc o).heap[w.heap.size]? = some o := by
  show (w.heap.push o)[w.heap.size]? = some o
  simp
set_option maxRecDepth 20000 in
theorem hp_setN (w : World) (g j k : Nat) (v : Value) (h : g ≠ k) : (w.setCell ⟨g, j, none⟩ v).heap[k]? = w.heap[k]? := by
  simp [World.setCell, Array.getElem?_modify, h]
set_option maxRecDepth 20000 in
theorem Tx.setN {B g b j : Nat} {w : World} {v : Value} {ps : List ByteArray} (h : Tx B w (some ⟨g, 0, none⟩) ps) (hne : b ≠ g) : Tx B (w.setCell ⟨b, j, none⟩ v) (some ⟨g, 0, none⟩) ps := by
  intro k hk
  obtain ⟨a, e, ha, hc⟩ := h k hk
  cases e
  refine ⟨_, rfl, ha, ?_⟩
  rw [← hc, add_off]
  unfold World.cell?
  rw [show (⟨g, k, none⟩ : Addr).block = g from rfl, hp_setN _ _ _ _ _ hne]
set_option maxRecDepth 20000 in
theorem Tx.rowN {B g b : Nat} {w : World} {cs : Array Value} {ps : List ByteArray} (h : Tx B w (some ⟨g, 0, none⟩) ps) (hne : b ≠ g) : Tx B (w.setRow b cs) (some ⟨g, 0, none⟩) ps := by
  intro k hk
  obtain ⟨a, e, ha, hc⟩ := h k hk
  cases e
  refine ⟨_, rfl, ha, ?_⟩
  rw [← hc, add_off]
  unfold World.cell?
  rw [show (⟨g, k, none⟩ : Addr).block = g from rfl, setRow_other w b g cs hne.symm]
set_option maxRecDepth 20000 in
theorem Ints.rowN {B g b : Nat} {w : World} {cs : Array Value} {ps : List Int} (h : Ints B w (some ⟨g, 0, none⟩) ps) (hne : b ≠ g) : Ints B (w.setRow b cs) (some ⟨g, 0, none⟩) ps := by
  intro k hk
  obtain ⟨a, e, ha, hc⟩ := h k hk
  cases e
  refine ⟨_, rfl, ha, ?_⟩
  rw [← hc, add_off]
  unfold World.cell?
  rw [show (⟨g, k, none⟩ : Addr).block = g from rfl, setRow_other w b g cs hne.symm]
set_option maxRecDepth 20000 in
theorem Ints.setN {B g b j : Nat} {w : World} {v : Value} {ps : List Int} (h : Ints B w (some ⟨g, 0, none⟩) ps) (hne : b ≠ g) : Ints B (w.setCell ⟨b, j, none⟩ v) (some ⟨g, 0, none⟩) ps := by
  intro k hk
  obtain ⟨a, e, ha, hc⟩ := h k hk
  cases e
  refine ⟨_, rfl, ha, ?_⟩
  rw [← hc, add_off]
  unfold World.cell?
  rw [show (⟨g, k, none⟩ : Addr).block = g from rfl, hp_setN _ _ _ _ _ hne]
end Go.Proofs.YtlphojaeaogehaaGreatDoor
namespace Go.Proofs.YtlphojaeaogehaaGreatDoor
namespace Rf
def gapK (c : UInt8) : Bool := Pl.blank c || c == 13 || c == 10
def cmtK (c : UInt8) : Bool := c != 10
def lowK (c : UInt8) : Bool := decide (97 ≤ c.toNat) && decide (c.toNat ≤ 122)
def digK (c : UInt8) : Bool := decide (48 ≤ c.toNat) && decide (c.toNat ≤ 57)
/-- How many bytes of blanks, line ends and comments stand ahead; true: within a comment. -/
def gapL : Bool → List UInt8 → Nat
  | _, [] => 0
  | false, c :: r => if gapK c then 1 + gapL false r else if c == 35 then 1 + gapL true r else 0
  | true, c :: r => 1 + gapL (cmtK c) r
def gap (l : List UInt8) (i : Nat) : Nat := i + gapL false (l.drop i)
/-- What a text in quotes says behind the first one, and how many bytes it takes. -/
def qd : List UInt8 → Option (List UInt8 × Nat)
  | [] => none
  | [c] => if c == 34 then some ([], 1) else none
  | c :: d :: r =>
    if c == 34 then some ([], 1)
    else if c == 92 then (qd r).map fun x => (d :: x.1, x.2 + 2)
    else (qd (d :: r)).map fun x => (c :: x.1, x.2 + 1)
/-- A token: its kind, its text, where it begins. -/
structure Tk where
  kind : Nat
  text : List UInt8
  pos : Nat
def cut (l : List UInt8) (i j : Nat) : List UInt8 := (l.take j).drop i
def isSign (c : UInt8) : Bool := c == 123 || c == 125 || c == 40 || c == 41 || c == 91 || c == 93 || c == 44 || c == 59
/-- The token at a place: its kind, its text, the place behind it. -/
def tok (l : List UInt8) (p : Nat) : Nat × List UInt8 × Nat :=
  let c := Pl.b l p
  if lowK c then (119, cut l p (Pl.stop lowK l p), Pl.stop lowK l p)
  else if c == 58 then
    let q := Pl.stop lowK l (p + 1)
    if p + 1 < q then (58, cut l p q, q) else (120, [], q)
  else if digK c then
    let q := Pl.stop digK l p
    if q - p ≤ 9 then (110, cut l p q, q) else (120, [], q)
  else if c == 34 then
    match qd (l.drop (p + 1)) with
    | some (t, k) => if t.length ≤ 1000 then (116, t, p + 1 + k) else (120, [], p)
    | none => (120, [], p)
  else if isSign c then (112, [c], p + 1) else (120, [], p + 1)
/-- The tokens from a place on, up to the end or to what is none. -/
def toks (l : List UInt8) : Nat → Nat → List Tk
  | 0, _ => []
  | f + 1, i =>
    let p := gap l i
    if p < l.length then
      if (tok l p).1 = 120 then [⟨120, [], p⟩] else ⟨(tok l p).1, (tok l p).2.1, p⟩ :: toks l f (tok l p).2.2
    else [⟨101, [], l.length⟩]
def line (l : List UInt8) (i : Nat) : Nat := 1 + (l.take i).count 10
set_option maxRecDepth 20000 in
theorem gapL_false (c : UInt8) (r : List UInt8) (h : gapK c = true) : gapL false (c :: r) = 1 + gapL false r := by rw [gapL, if_pos h]
set_option maxRecDepth 20000 in
theorem gapL_le : ∀ (l : List UInt8) (b : Bool), gapL b l ≤ l.length
  | [], b => by cases b <;> exact Nat.le_refl _
  | c :: r, true => by
    rw [gapL, List.length_cons]
    have := gapL_le r (cmtK c)
    omega
  | c :: r, false => by
    rw [gapL, List.length_cons]
    have h1 := gapL_le r false
    have h2 := gapL_le r true
    split
    · omega
    · split <;> omega
set_option maxRecDepth 20000 in
theorem drop_b (l : List UInt8) (i : Nat) (h : i < l.length) : l.drop i = Pl.b l i :: l.drop (i + 1) := by
  rw [Pl.b_lt l i h]
  exact List.drop_eq_getElem_cons h
set_option maxRecDepth 20000 in
theorem gap_ge (l : List UInt8) (i : Nat) : i ≤ gap l i := Nat.le_add_right _ _
set_option maxRecDepth 20000 in
theorem gap_le (l : List UInt8) (i : Nat) (h : i ≤ l.length) : gap l i ≤ l.length := by
  have := gapL_le (l.drop i) false
  rw [List.length_drop] at this
  unfold gap
  omega
set_option maxRecDepth 20000 in
/-- A blank or a line end is passed. -/
theorem gap_step (l : List UInt8) (i : Nat) (h : i < l.length) (hk : gapK (Pl.b l i) = true) : gap l i = gap l (i + 1) := by
  unfold gap
  rw [drop_b l i h, gapL_false _ _ hk]
  omega
set_option maxRecDepth 20000 in
/-- In a comment. -/
theorem gap_in (l : List UInt8) : ∀ (n i : Nat), l.length - i ≤ n → i ≤ l.length → i + gapL true (l.drop i) = gap l (Pl.stop cmtK l i)
  | 0, i, h, hi => by
    have e : i = l.length := by omega
    subst e
    have hs : Pl.stop cmtK l l.length = l.length := Nat.le_antisymm (Pl.stop_le _ _ _ (Nat.le_refl _)) (Pl.stop_ge _ _ _ (Nat.le_refl _))
    rw [hs]
    unfold gap
    rw [List.drop_length]
    rfl
  | n + 1, i, h, hi => by
    by_cases hlt : i < l.length
    · cases hc : cmtK (Pl.b l i)
      · have hs : Pl.stop cmtK l i = i := Pl.stop_eq _ _ _ _ (Nat.le_refl _) hi (fun j h1 h2 => by omega) (fun _ => hc)
        rw [hs]
        have h10 : Pl.b l i = 10 := by simpa [cmtK] using hc
        unfold gap
        rw [drop_b l i hlt, h10, gapL_false _ _ (by decide)]
        rfl
      · have hs : Pl.stop cmtK l (i + 1) = Pl.stop cmtK l i := Pl.first_miss _ _ i hlt (by simp [hc])
        have := gap_in l n (i + 1) (by omega) (by omega)
        rw [hs] at this
        rw [← this, drop_b l i hlt, gapL, hc]
        omega
    · have e : i = l.length := by omega
      subst e
      have hs : Pl.stop cmtK l l.length = l.length := Nat.le_antisymm (Pl.stop_le _ _ _ (Nat.le_refl _)) (Pl.stop_ge _ _ _ (Nat.le_refl _))
      rw [hs]
      unfold gap
      rw [List.drop_length]
      rfl
set_option maxRecDepth 20000 in
theorem gap_cmt (l : List UInt8) (i : Nat) (h : i < l.length) (hk : Pl.b l i = 35) : gap l i = gap l (Pl.stop cmtK l i) := by
  rw [← gap_in l (l.length - i) i (Nat.le_refl _) (by omega)]
  unfold gap
  rw [drop_b l i h, hk]
  rfl
set_option maxRecDepth 20000 in
theorem gap_done (l : List UInt8) (i : Nat) (h : i < l.length → gapK (Pl.b l i) = false ∧ Pl.b l i ≠ 35) : gap l i = i := by
  unfold gap
  by_cases hi : i < l.length
  · obtain ⟨h1, h2⟩ := h hi
    rw [drop_b l i hi, gapL, h1]
    simp [h2]
  · rw [List.drop_eq_nil_of_le (by omega)]
    rfl
set_option maxRecDepth 20000 in
theorem gap_at (l : List UInt8) : ∀ (n i : Nat), l.length - i ≤ n → i ≤ l.length → gap l i < l.length → gapK (Pl.b l (gap l i)) = false ∧ Pl.b l (gap l i) ≠ 35
  | 0, i, h, hi, hg => by have := gap_ge l i; omega
  | n + 1, i, h, hi, hg => by
    by_cases hlt : i < l.length
    · by_cases hk : gapK (Pl.b l i) = true
      · rw [gap_step l i hlt hk] at hg ⊢
        exact gap_at l n (i + 1) (by omega) (by omega) hg
      · by_cases h35 : Pl.b l i = 35
        · have hs1 : i < Pl.stop cmtK l i := by
            have h1 := Pl.stop_ge cmtK l i (by omega)
            rcases Nat.lt_or_ge i (Pl.stop cmtK l i) with h2 | h2
            · exact h2
            · have e : Pl.stop cmtK l i = i := by omega
              have := Pl.stop_not cmtK l i (by omega) (by omega)
              rw [e, h35] at this
              cases this
          have hs2 := Pl.stop_le cmtK l i (by omega)
          rw [gap_cmt l i hlt h35] at hg ⊢
          exact gap_at l n _ (by omega) hs2 hg
        · have hd := gap_done l i (fun _ => ⟨by simpa using hk, h35⟩)
          rw [hd]
          exact ⟨by simpa using hk, h35⟩
    · have := gap_ge l i
      omega
set_option maxRecDepth 20000 in
theorem gap_gap (l : List UInt8) (i : Nat) (h : i ≤ l.length) : gap l (gap l i) = gap l i :=
  gap_done l _ (fun hg => gap_at l _ i (Nat.le_refl _) h hg)
set_option maxRecDepth 20000 in
theorem qd_pos : ∀ (l t : List UInt8) (k : Nat), qd l = some (t, k) → t.length < k ∧ k ≤ l.length
  | [], t, k, h => by cases h
  | [c], t, k, h => by
    rw [qd] at h
    split at h
    · cases h; exact ⟨by decide, by simp⟩
    · cases h
  | c :: d :: r, t, k, h => by
    rw [qd] at h
    split at h
    · cases h
      exact ⟨by decide, by simp⟩
    · split at h
      · cases hr : qd r with
        | none => rw [hr] at h; cases h
        | some x =>
          rw [hr] at h
          obtain ⟨t', k'⟩ := x
          cases h
          have := qd_pos r t' k' hr
          simp only [List.length_cons]
          omega
      · cases hr : qd (d :: r) with
        | none => rw [hr] at h; cases h
        | some x =>
          rw [hr] at h
          obtain ⟨t', k'⟩ := x
          cases h
          have := qd_pos (d :: r) t' k' hr
          simp only [List.length_cons] at this ⊢
          omega
set_option maxRecDepth 20000 in
/-- A token that is one ends behind its beginning, within the script. -/
theorem tok_next (l : List UInt8) (p : Nat) (h : p < l.length) (hk : (tok l p).1 ≠ 120) : p < (tok l p).2.2 ∧ (tok l p).2.2 ≤ l.length := by
  have st : ∀ K : UInt8 → Bool, K (Pl.b l p) = true → p < Pl.stop K l p ∧ Pl.stop K l p ≤ l.length := fun K hK => by
    have h1 := Pl.stop_ge K l p (by omega)
    have h2 := Pl.stop_le K l p (by omega)
    refine ⟨?_, h2⟩
    rcases Nat.lt_or_ge p (Pl.stop K l p) with h3 | h3
    · exact h3
    · have e : Pl.stop K l p = p := by omega
      have := Pl.stop_not K l p (by omega) (by omega)
      rw [e, hK] at this
      cases this
  unfold tok at hk ⊢
  dsimp only at hk ⊢
  split
  · rename_i h1
    exact st lowK h1
  · rename_i h1
    rw [if_neg h1] at hk
    split
    · rename_i h2
      rw [if_pos h2] at hk
      split
      · rename_i h3
        exact ⟨by dsimp only; omega, Pl.stop_le _ _ _ (by omega)⟩
      · rename_i h3
        rw [if_neg h3] at hk
        exact absurd rfl hk
    · rename_i h2
      rw [if_neg h2] at hk
      split
      · rename_i h3
        rw [if_pos h3] at hk
        split
        · exact st digK h3
        · rename_i h4
          rw [if_neg h4] at hk
          exact absurd rfl hk
      · rename_i h3
        rw [if_neg h3] at hk
        split
        · rename_i h4
          rw [if_pos h4] at hk
          split
          · rename_i t k hq
            rw [hq] at hk
            dsimp only at hk
            split
            · have := qd_pos _ t k hq
              rw [List.length_drop] at this
              dsimp only
              omega
            · rename_i h5
              rw [if_neg h5] at hk
              exact absurd rfl hk
          · rename_i hq
            rw [hq] at hk
            exact absurd rfl hk
        · rename_i h4
          rw [if_neg h4] at hk
          split
          · exact ⟨by dsimp only; omega, by dsimp only; omega⟩
          · rename_i h5
            rw [if_neg h5] at hk
            exact absurd rfl hk
end Rf
end Go.Proofs.YtlphojaeaogehaaGreatDoor
namespace Go.Proofs.YtlphojaeaogehaaGreatDoor
namespace Rf
abbrev wIf : List UInt8 := [105, 102]
abbrev wElsif : List UInt8 := [101, 108, 115, 105, 102]
abbrev wElse : List UInt8 := [101, 108, 115, 101]
abbrev wRepeat : List UInt8 := [114, 101, 112, 101, 97, 116]
abbrev wSet : List UInt8 := [115, 101, 116]
abbrev wOver : List UInt8 := [58, 111, 118, 101, 114]
abbrev wUnder : List UInt8 := [58, 117, 110, 100, 101, 114]
abbrev wIs : List UInt8 := [58, 105, 115]
abbrev wContains : List UInt8 := [58, 99, 111, 110, 116, 97, 105, 110, 115]
abbrev wMatches : List UInt8 := [58, 109, 97, 116, 99, 104, 101, 115]
/-- The kinds of commands and tests, by their words; of both together. -/
def cmdK (t : List UInt8) : Int := if t == [107, 101, 101, 112] then 4 else if t == [100, 105, 115, 99, 97, 114, 100] then 5 else if t == [115, 116, 111, 112] then 6 else if t == [102, 105, 108, 101, 105, 110, 116, 111] then 7 else if t == [114, 101, 100, 105, 114, 101, 99, 116] then 8 else if t == [114, 101, 106, 101, 99, 116] then 9 else if t == [97, 100, 100, 102, 108, 97, 103] then 10 else 0
def tstK (t : List UInt8) : Int := if t == [116, 114, 117, 101] then 20 else if t == [102, 97, 108, 115, 101] then 21 else if t == [110, 111, 116] then 22 else if t == [97, 108, 108, 111, 102] then 23 else if t == [97, 110, 121, 111, 102] then 24 else if t == [104, 101, 97, 100, 101, 114] then 25 else if t == [97, 100, 100, 114, 101, 115, 115] then 26 else if t == [101, 110, 118, 101, 108, 111, 112, 101] then 27 else if t == [101, 120, 105, 115, 116, 115] then 28 else if t == [115, 105, 122, 101] then 29 else if t == [115, 116, 114, 105, 110, 103] then 31 else 0
def wordK (t : List UInt8) : Int := if t == [105, 102] then 2 else if t == [114, 101, 112, 101, 97, 116] then 3 else if t == [107, 101, 101, 112] then 4 else if t == [100, 105, 115, 99, 97, 114, 100] then 5 else if t == [115, 116, 111, 112] then 6 else if t == [102, 105, 108, 101, 105, 110, 116, 111] then 7 else if t == [114, 101, 100, 105, 114, 101, 99, 116] then 8 else if t == [114, 101, 106, 101, 99, 116] then 9 else if t == [97, 100, 100, 102, 108, 97, 103] then 10 else if t == [115, 101, 116] then 11 else if t == [116, 114, 117, 101] then 20 else if t == [102, 97, 108, 115, 101] then 21 else if t == [110, 111, 116] then 22 else if t == [97, 108, 108, 111, 102] then 23 else if t == [97, 110, 121, 111, 102] then 24 else if t == [104, 101, 97, 100, 101, 114] then 25 else if t == [97, 100, 100, 114, 101, 115, 115] then 26 else if t == [101, 110, 118, 101, 108, 111, 112, 101] then 27 else if t == [101, 120, 105, 115, 116, 115] then 28 else if t == [115, 105, 122, 101] then 29 else if t == [115, 116, 114, 105, 110, 103] then 31 else 0
def kind (T : List Tk) (i : Nat) : Nat := (T[i]?.map (·.kind)).getD 120
def text (T : List Tk) (i : Nat) : List UInt8 := (T[i]?.map (·.text)).getD []
def pos (T : List Tk) (i : Nat) : Nat := (T[i]?.map (·.pos)).getD 0
def is (T : List Tk) (i k : Nat) (t : List UInt8) : Bool := kind T i == k && text T i == t
def ba (t : List UInt8) : ByteArray := ⟨t.toArray⟩
def num (t : List UInt8) : Nat := t.foldl (fun n c => 10 * n + (c.toNat - 48)) 0
def isName (t : List UInt8) : Bool := decide (1 ≤ t.length) && decide (t.length ≤ 20) && t.all lowK
def zn (k : Int) : Nd := ⟨k, 0, 0, ⟨#[]⟩, [], [], []⟩
/-- What a reading comes to: the place behind it and all nodes; or the place where it fails. -/
inductive Out
  | ok (i : Nat) (N : List Nd)
  | bad (i : Nat)
inductive TO
  | ok (i : Nat) (L : List ByteArray)
  | bad (i : Nat)
inductive KO
  | ok (i : Nat) (N : List Nd) (ks : List Int)
  | bad (i : Nat)
/-- The number of the last node. -/
def last (N : List Nd) : Int := (N.length : Int) - 1
def txtsTail (T : List Tk) : Nat → Nat → List ByteArray → TO
  | 0, i, _ => .bad i
  | f + 1, i, L =>
    if is T i 112 [44] then (if kind T (i + 1) == 116 then txtsTail T f (i + 2) (L ++ [ba (text T (i + 1))]) else .bad (i + 1))
    else if is T i 112 [93] then .ok (i + 1) L else .bad i
def txts (T : List Tk) (i : Nat) : TO :=
  if is T i 112 [91] then (if kind T (i + 1) == 116 then txtsTail T T.length (i + 2) [ba (text T (i + 1))] else .bad (i + 1))
  else if kind T i == 116 then .ok (i + 1) [ba (text T i)] else .bad i
def tsts (T : List Tk) (t : Nat → List Nd → Out) : Nat → Nat → List Nd → List Int → KO
  | 0, i, _, _ => .bad i
  | f + 1, i, N, ks =>
    if is T i 112 [44] then
      match t (i + 1) N with
      | .ok i' N' => tsts T t f i' N' (ks ++ [last N'])
      | .bad j => .bad j
    else if is T i 112 [41] then .ok (i + 1) N ks else .bad i
def cmds (T : List Tk) (c : Nat → List Nd → Out) : Nat → Nat → List Nd → List Int → KO
  | 0, i, _, _ => .bad i
  | f + 1, i, N, ks =>
    if is T i 112 [125] then .ok (i + 1) N ks
    else match c i N with
      | .ok i' N' => cmds T c f i' N' (ks ++ [last N'])
      | .bad j => .bad j
def blk (T : List Tk) (c : Nat → List Nd → Out) (i : Nat) (N : List Nd) : Out :=
  if is T i 112 [123] then
    match cmds T c T.length (i + 1) N [] with
    | .ok i' N' ks => .ok i' (N' ++ [{ zn 1 with kids := ks }])
    | .bad j => .bad j
  else .bad i
def matchOf (T : List Tk) (i : Nat) : Option Int :=
  if is T i 58 wIs then some 0 else if is T i 58 wContains then some 1 else if is T i 58 wMatches then some 2 else none
def tst (T : List Tk) (t : Nat → List Nd → Out) (i : Nat) (N : List Nd) : Out :=
  if kind T i == 119 && tstK (text T i) != 0 then
    let k := tstK (text T i)
    if k == 22 then
      match t (i + 1) N with
      | .ok i' N' => .ok i' (N' ++ [{ zn 22 with kids := [last N'] }])
      | .bad j => .bad j
    else if k == 23 || k == 24 then
      if is T (i + 1) 112 [40] then
        match t (i + 2) N with
        | .ok i' N' =>
          match tsts T t T.length i' N' [last N'] with
          | .ok i2 N2 ks => .ok i2 (N2 ++ [{ zn k with kids := ks }])
          | .bad j => .bad j
        | .bad j => .bad j
      else .bad (i + 1)
    else if k == 25 || k == 26 || k == 27 || k == 31 then
      match matchOf T (i + 1) with
      | some m =>
        match txts T (i + 2) with
        | .ok i1 A =>
          match txts T i1 with
          | .ok i2 B => .ok i2 (N ++ [{ zn k with mat := m, names := A, keys := B }])
          | .bad j => .bad j
        | .bad j => .bad j
      | none => .bad (i + 1)
    else if k == 28 then
      match txts T (i + 1) with
      | .ok i1 A => .ok i1 (N ++ [{ zn 28 with names := A }])
      | .bad j => .bad j
    else if k == 29 then
      if is T (i + 1) 58 wUnder || is T (i + 1) 58 wOver then
        if kind T (i + 2) == 110 && decide (num (text T (i + 2)) ≤ 999999999) then .ok (i + 3) (N ++ [{ zn (if is T (i + 1) 58 wUnder then 30 else 29) with num := (num (text T (i + 2)) : Int) }])
        else .bad (i + 2)
      else .bad (i + 1)
    else .ok (i + 1) (N ++ [zn k])
  else .bad i
def cho (T : List Tk) (t c : Nat → List Nd → Out) : Nat → Nat → List Nd → Out
  | 0, i, _ => .bad i
  | f + 1, i, N =>
    match t i N with
    | .ok i1 N1 =>
      match blk T c i1 N1 with
      | .ok i2 N2 =>
        if is T i2 119 wElsif then
          match cho T t c f (i2 + 1) N2 with
          | .ok i3 N3 => .ok i3 (N3 ++ [{ zn 2 with kids := [last N1, last N2, last N3] }])
          | .bad j => .bad j
        else if is T i2 119 wElse then
          match blk T c (i2 + 1) N2 with
          | .ok i3 N3 => .ok i3 (N3 ++ [{ zn 2 with kids := [last N1, last N2, last N3] }])
          | .bad j => .bad j
        else .ok i2 (N2 ++ [{ zn 2 with kids := [last N1, last N2] }])
      | .bad j => .bad j
    | .bad j => .bad j
def cmd (T : List Tk) (t c : Nat → List Nd → Out) (i : Nat) (N : List Nd) : Out :=
  if kind T i == 119 then
    if text T i == wIf then cho T t c T.length (i + 1) N
    else if text T i == wRepeat then
      if kind T (i + 1) == 110 && decide (num (text T (i + 1)) ≤ 100) then
        match blk T c (i + 2) N with
        | .ok i' N' => .ok i' (N' ++ [{ zn 3 with num := (num (text T (i + 1)) : Int), kids := [last N'] }])
        | .bad j => .bad j
      else .bad (i + 1)
    else if text T i == wSet then
      if kind T (i + 1) == 116 && isName (text T (i + 1)) then
        if kind T (i + 2) == 116 then
          if is T (i + 3) 112 [59] then .ok (i + 4) (N ++ [{ zn 11 with names := [ba (text T (i + 1))], text := ba (text T (i + 2)) }]) else .bad (i + 3)
        else .bad (i + 2)
      else .bad (i + 1)
    else if cmdK (text T i) == 0 then .bad i
    else if 7 ≤ cmdK (text T i) then
      if kind T (i + 1) == 116 then
        if is T (i + 2) 112 [59] then .ok (i + 3) (N ++ [{ zn (cmdK (text T i)) with text := ba (text T (i + 1)) }]) else .bad (i + 2)
      else .bad (i + 1)
    else if is T (i + 1) 112 [59] then .ok (i + 2) (N ++ [zn (cmdK (text T i))]) else .bad (i + 1)
  else .bad i
/-- Tests and commands, of at most so many tokens. -/
def lv (T : List Tk) : Nat → (Nat → List Nd → Out) × (Nat → List Nd → Out)
  | 0 => (fun i _ => .bad i, fun i _ => .bad i)
  | f + 1 => (tst T (lv T f).1, cmd T (lv T f).1 (lv T f).2)
/-- All commands up to the end. -/
def all (T : List Tk) (c : Nat → List Nd → Out) : Nat → Nat → List Nd → List Int → KO
  | 0, i, _, _ => .bad i
  | f + 1, i, N, ks =>
    if kind T i == 101 then .ok i N ks
    else match c i N with
      | .ok i' N' => all T c f i' N' (ks ++ [last N'])
      | .bad j => .bad j
def script (T : List Tk) : Out :=
  match all T (lv T T.length).2 T.length 0 [] [] with
  | .ok i N ks => .ok i (N ++ [{ zn 1 with kids := ks }])
  | .bad j => .bad j
/-- Where a reading that succeeds has gone: on, and not beyond the last token. -/
def Fw (T : List Tk) (f : Nat → List Nd → Out) : Prop := ∀ i N i' N', f i N = .ok i' N' → i < i' ∧ i' < T.length
end Rf
end Go.Proofs.YtlphojaeaogehaaGreatDoor
