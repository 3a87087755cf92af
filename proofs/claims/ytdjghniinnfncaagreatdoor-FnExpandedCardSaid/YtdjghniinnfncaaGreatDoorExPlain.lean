
/- Alias: as the law has it and as the program has it; handed in, made anew, held against one another. (By tools/gen/structs.py.) -/

/- Mx: as the law has it and as the program has it; handed in, made anew, held against one another. (By tools/gen/structs.py.) -/

/- A table's rows, one after another, into a list of their own: slices.Values, AppendSeq, Collect. -/

/- What an address stands for: plain. -/
import Derived.Test.YtdjghniinnfncaaGreatDoorGenBase
import Derived.Maps.AppendAt
import Derived.RangeFuncGives
import Derived.RangeFuncBox
import Derived.RangeFuncLeaves
import Derived.Shelf.Abstract
import Derived.WalkKit
import Derived.OwnWalkIn
import Derived.TacticsInMore
import Derived.LoopNIn
import Derived.LoopIn
namespace Go.Proofs.YtdjghniinnfncaaGreatDoor
open Go.RowKit Go.Lib Go.Maps
structure GAlias where
  name : ByteArray
  toF : List ByteArray
def GAliasV (n : GAlias) (v1 : Value) : Value := .agg #[.string n.name, v1]
def GAlias.fits (n : GAlias) (m : Nat) : Prop := n.name.size ≤ m ∧ n.toF.length ≤ m ∧ (∀ t ∈ n.toF, t.size ≤ m)
structure GAliasIn (lo hi : Nat) (w : World) (n : GAlias) (v1 : Value) : Prop where
  s1 : ∃ a c, v1 = .slice a n.toF.length c ∧ TxL lo hi w a n.toF
set_option maxRecDepth 20000 in
theorem GAliasIn.same {lo hi : Nat} {w w' : World} {n : GAlias} {v1 : Value} (h : GAliasIn lo hi w n v1) (hs : Same lo hi w w') : GAliasIn lo hi w' n v1 := by
  obtain ⟨⟨a1, c1, e1, t1⟩⟩ := h
  exact ⟨⟨a1, c1, e1, t1.same hs⟩⟩
set_option maxRecDepth 20000 in
theorem GAliasIn.mono {lo lo' hi hi' : Nat} {w : World} {n : GAlias} {v1 : Value} (h : GAliasIn lo hi w n v1) (hl : lo' ≤ lo) (hh : hi ≤ hi') : GAliasIn lo' hi' w n v1 := by
  obtain ⟨⟨a1, c1, e1, t1⟩⟩ := h
  exact ⟨⟨a1, c1, e1, t1.mono hl hh⟩⟩
structure GAliasAt (w : World) (A : Addr) (n : GAlias) (v1 : Value) : Prop where
  c0 : w.cell? A = some (.string n.name)
  c1 : w.cell? ⟨A.block, A.off + 1, none⟩ = some (v1)
set_option maxRecDepth 20000 in
theorem GAliasAt.same {lo hi : Nat} {w w' : World} {A : Addr} {n : GAlias} {v1 : Value} (h : GAliasAt w A n v1) (hs : Same lo hi w w') (h1 : lo ≤ A.block) (h2 : A.block < hi) : GAliasAt w' A n v1 :=
  ⟨(hs.cell h1 h2).trans h.c0, (hs.cell (p := ⟨A.block, A.off + 1, none⟩) h1 h2).trans h.c1⟩
def GAliassL (lo hi : Nat) (w : World) (o : Option Addr) (F : List GAlias) : Prop := ∀ i (h : i < F.length), ∃ a v1, o = some a ∧ lo ≤ a.block ∧ a.block < hi ∧ GAliasAt w (a.add (i * 2)) F[i] v1 ∧ GAliasIn lo hi w F[i] v1
set_option maxRecDepth 20000 in
theorem GAliassL.same {lo hi : Nat} {w w' : World} {o : Option Addr} {F : List GAlias} (h : GAliassL lo hi w o F) (hs : Same lo hi w w') : GAliassL lo hi w' o F := by
  intro i hi
  obtain ⟨a, v1, ho, h1, h2, h3, h4⟩ := h i hi
  exact ⟨a, v1, ho, h1, h2, h3.same hs (by rw [add_blockG]; exact h1) (by rw [add_blockG]; exact h2), h4.same hs⟩
set_option maxRecDepth 20000 in
theorem GAliassL.mono {lo lo' hi hi' : Nat} {w : World} {o : Option Addr} {F : List GAlias} (h : GAliassL lo hi w o F) (hl : lo' ≤ lo) (hh : hi ≤ hi') : GAliassL lo' hi' w o F := by
  intro i hi
  obtain ⟨a, v1, ho, h1, h2, h3, h4⟩ := h i hi
  exact ⟨a, v1, ho, Nat.le_trans hl h1, Nat.lt_of_lt_of_le h2 hh, h3, h4.mono hl hh⟩
set_option maxRecDepth 20000 in
theorem GAliassL.below {lo hi B : Nat} {w w' : World} {o : Option Addr} {F : List GAlias} (h : GAliassL lo hi w o F) (hb : Below B w w') (hB : hi ≤ B) : GAliassL lo hi w' o F := h.same (Same.of_below hb hB)
structure GAliasL (f : Nat → Value) (j : Nat) (n : GAlias) (v1 : Value) : Prop where
  c0 : f (j * 2) = .string n.name
  c1 : f (j * 2 + 1) = v1
def GAliasSet (w : World) (g k : Nat) (n : GAlias) (v1 : Value) : World := ((w.setCell ⟨g, k * 2, none⟩ (.string n.name)).setCell ⟨g, k * 2 + 1, none⟩ (v1))
set_option maxRecDepth 20000 in
theorem GAliasRow {w : World} {g t N : Nat} {f : Nat → Value} (h : w.rowIs g t N f) (k : Nat) (n : GAlias) (v1 : Value) :
    ∃ f', (GAliasSet w g k n v1).rowIs g t N f' ∧ GAliasL f' k n v1 ∧ ∀ (j : Nat) (m : GAlias) (q1 : Value), j ≠ k → GAliasL f j m q1 → GAliasL f' j m q1 := by
  refine ⟨_, ((h.set _ _).set _ _), ?_, ?_⟩
  · constructor <;> simp
  · intro j m q1 hj hl
    obtain ⟨c0, c1⟩ := hl
    constructor <;> rw [if_neg (by omega), if_neg (by omega)] <;> assumption
set_option maxRecDepth 20000 in
theorem GAliasGr (w : World) (g k : Nat) (n : GAlias) (v1 : Value) : w.grownBy (GAliasSet w g k n v1) (some g) := grG_trans (grG_set _ _ _ _) (grG_set _ _ _ _)
set_option maxRecDepth 20000 in
theorem Tryz.infoGAlias : (Tryz.prog.info? 32).map (fun i => (i.zero, i.size, i.bytes)) = some (some (.agg #[.string ⟨#[]⟩, .slice none 0 0]), 2, 40) := by kernel_rfl
end Go.Proofs.YtdjghniinnfncaaGreatDoor
namespace Go.Proofs.YtdjghniinnfncaaGreatDoor
open Go.RowKit Go.Lib Go.Maps
structure GMx where
  domain : ByteArray
  prefer : Int
  host : ByteArray
def GMxV (n : GMx) : Value := .agg #[.string n.domain, .int .i64 n.prefer, .string n.host]
def GMx.fits (n : GMx) (m : Nat) : Prop := n.domain.size ≤ m ∧ n.host.size ≤ m
structure GMxAt (w : World) (A : Addr) (n : GMx) : Prop where
  c0 : w.cell? A = some (.string n.domain)
  c1 : w.cell? ⟨A.block, A.off + 1, none⟩ = some (.int .i64 n.prefer)
  c2 : w.cell? ⟨A.block, A.off + 2, none⟩ = some (.string n.host)
set_option maxRecDepth 20000 in
theorem GMxAt.same {lo hi : Nat} {w w' : World} {A : Addr} {n : GMx} (h : GMxAt w A n) (hs : Same lo hi w w') (h1 : lo ≤ A.block) (h2 : A.block < hi) : GMxAt w' A n :=
  ⟨(hs.cell h1 h2).trans h.c0, (hs.cell (p := ⟨A.block, A.off + 1, none⟩) h1 h2).trans h.c1, (hs.cell (p := ⟨A.block, A.off + 2, none⟩) h1 h2).trans h.c2⟩
def GMxsL (lo hi : Nat) (w : World) (o : Option Addr) (F : List GMx) : Prop := ∀ i (h : i < F.length), ∃ a, o = some a ∧ lo ≤ a.block ∧ a.block < hi ∧ GMxAt w (a.add (i * 3)) F[i]
set_option maxRecDepth 20000 in
theorem GMxsL.same {lo hi : Nat} {w w' : World} {o : Option Addr} {F : List GMx} (h : GMxsL lo hi w o F) (hs : Same lo hi w w') : GMxsL lo hi w' o F := by
  intro i hi
  obtain ⟨a, ho, h1, h2, h3⟩ := h i hi
  exact ⟨a, ho, h1, h2, h3.same hs (by rw [add_blockG]; exact h1) (by rw [add_blockG]; exact h2)⟩
set_option maxRecDepth 20000 in
theorem GMxsL.mono {lo lo' hi hi' : Nat} {w : World} {o : Option Addr} {F : List GMx} (h : GMxsL lo hi w o F) (hl : lo' ≤ lo) (hh : hi ≤ hi') : GMxsL lo' hi' w o F := by
  intro i hi
  obtain ⟨a, ho, h1, h2, h3⟩ := h i hi
  exact ⟨a, ho, Nat.le_trans hl h1, Nat.lt_of_lt_of_le h2 hh, h3⟩
set_option maxRecDepth 20000 in
theorem GMxsL.below {lo hi B : Nat} {w w' : World} {o : Option Addr} {F : List GMx} (h : GMxsL lo hi w o F) (hb : Below B w w') (hB : hi ≤ B) : GMxsL lo hi w' o F := h.same (Same.of_below hb hB)
structure GMxL (f : Nat → Value) (j : Nat) (n : GMx) : Prop where
  c0 : f (j * 3) = .string n.domain
  c1 : f (j * 3 + 1) = .int .i64 n.prefer
  c2 : f (j * 3 + 2) = .string n.host
def GMxSet (w : World) (g k : Nat) (n : GMx) : World := (((w.setCell ⟨g, k * 3, none⟩ (.string n.domain)).setCell ⟨g, k * 3 + 1, none⟩ (.int .i64 n.prefer)).setCell ⟨g, k * 3 + 2, none⟩ (.string n.host))
set_option maxRecDepth 20000 in
theorem GMxRow {w : World} {g t N : Nat} {f : Nat → Value} (h : w.rowIs g t N f) (k : Nat) (n : GMx) :
    ∃ f', (GMxSet w g k n).rowIs g t N f' ∧ GMxL f' k n ∧ ∀ (j : Nat) (m : GMx), j ≠ k → GMxL f j m → GMxL f' j m := by
  refine ⟨_, (((h.set _ _).set _ _).set _ _), ?_, ?_⟩
  · constructor <;> simp
  · intro j m hj hl
    obtain ⟨c0, c1, c2⟩ := hl
    constructor <;> rw [if_neg (by omega), if_neg (by omega), if_neg (by omega)] <;> assumption
set_option maxRecDepth 20000 in
theorem GMxGr (w : World) (g k : Nat) (n : GMx) : w.grownBy (GMxSet w g k n) (some g) := grG_trans (grG_trans (grG_set _ _ _ _) (grG_set _ _ _ _)) (grG_set _ _ _ _)
set_option maxRecDepth 20000 in
theorem Tryz.infoGMx : (Tryz.prog.info? 58).map (fun i => (i.zero, i.size, i.bytes)) = some (some (.agg #[.string ⟨#[]⟩, .int .i64 0, .string ⟨#[]⟩]), 3, 40) := by kernel_rfl
end Go.Proofs.YtdjghniinnfncaaGreatDoor
namespace Go.Proofs.YtdjghniinnfncaaGreatDoor
open Go.RowKit Go.Lib Go.Maps Go.Shelf
attribute [local go_sem] Oper.semAt_some
def mxC (m : GMx) : List Value := [.string m.domain, .int .i64 m.prefer, .string m.host]
def mxCells (L : List GMx) : List Value := L.flatMap mxC
/-- A list of rows of its own. -/
def OwnM (B : Nat) (v : Value) (L : List GMx) (w : World) : Prop := w.ownsRow B 58 3 v L.length (mxCells L)
set_option maxRecDepth 100000 in
set_option maxHeartbeats 2000000 in
theorem mxValues1 (F : Fence) (n : Nat) (h7 : F.fn 68) (hro : F.round = none) (hn : 1 ≤ n) (l Bs lo hi : Nat) (o : Option Addr) (cap : Nat) (T : List GMx) (hT : T.length ≤ 1000) (J : List GMx → World → Prop)
    (hY : ∀ pre x W, J pre W → pre.length < T.length → YieldAt F (n - 1) Tryz.prog l #[GMxV x] W fun e W' => e = .returned (.bool true) ∧ J (pre ++ [x]) W' ∧ Below hi W W')
    (hJ : ∀ pre W W', J pre W → Below W.heap.size W W' → J pre W')
    (W : World) (hBs : W.cell? ⟨Bs, 0, none⟩ = some (.slice o T.length cap)) (hc : GMxsL lo hi W o T) (hhi : hi ≤ W.heap.size) (h0 : J [] W) :
    CallsIn F n Tryz.prog 68 #[.func (.yield l) #[] #[], .pointer (some ⟨Bs, 0, none⟩)] W fun e W' => (∃ v, e = .returned v) ∧ J T W' := by
  refine callsIn_of_wp Tryz.func68 rfl h7 ?_ hro
  simp only [Tryz.ntmps68, List.size_toArray, List.length_cons, List.length_nil, Nat.reduceAdd, Nat.reduceSub, Array.replicate_succ, Array.replicate_zero, List.push_toArray, List.append_toArray, List.nil_append, List.cons_append]
  gi_wp2
  gi_loopw [7] (fun i wr => ∃ k : Nat, k ≤ T.length ∧ i = .int .i64 k ∧ J (T.take k) wr ∧ Below hi W wr ∧ W.heap.size ≤ wr.heap.size) (fun i _ => T.length - (Lib.intOf i).toNat)
  case atStart => exact ⟨0, Nat.zero_le _, rfl, h0, Below.refl _ _, Nat.le_refl _⟩
  case round =>
    obtain ⟨k, hk, rfl, hJs, hnx, hsz⟩ := hrel
    by_cases hlt : k < T.length
    · obtain ⟨a, rfl, h1, h2, hA⟩ := (hc.below hnx (Nat.le_refl _)) k hlt
      have c0 := hA.c0
      have c1 := hA.c1
      have c2 := hA.c2
      generalize hm : T[k] = m at *
      obtain ⟨V, hV⟩ : ∃ V, wr.alloc (.cells #[.string m.domain, .int .i64 m.prefer, .string m.host] 58) = V := ⟨_, rfl⟩
      have bV : Below wr.heap.size wr V := by rw [← hV]; exact (Below.refl _ _).alloc (Nat.le_refl _) _
      have sV : wr.heap.size ≤ V.heap.size := bV.size
      obtain ⟨fn, tmps, assign, body, hy, hR⟩ := hY _ m V (hJ _ _ _ hJs bV) (by rw [List.length_take]; omega)
      unfold GMxV at hy
      have htk : T.take k ++ [m] = T.take (k + 1) := by rw [← hm, List.take_append_getElem]
      rw [htk] at hR
      have HV := mkHid hV
      have Hnx := mkHid (hnx.trans (bV.mono (Nat.le_trans hhi hsz)))
      clear hA hV bV hnx hJs htk hm
      rw [← HV.out] at hy
      gi_wp2
      rw [HV.out]
      refine hR.mono ?_
      rintro e W3 ⟨rfl, hJ3, hk3⟩
      have Hf := mkHid (And.intro hJ3 (Hnx.out.trans hk3))
      have s3 := hk3.size
      clear hR hy hJ3 hk3 HV
      gi_wp2
      go_roundw
      case rel => exact ⟨k + 1, by omega, by simp, Hf.out.1, Hf.out.2, by omega⟩
      case measure => simp [Lib.intOf]; omega
    · obtain rfl : k = T.length := by omega
      gi_wp2
      go_end0
      exact ⟨⟨_, rfl⟩, by rw [List.take_length] at hJs; exact hJs⟩
def apAssign : Go.Code := (Go.Code.region 2 #[{ dst := some 5, op := Op.alloc 58, type := 0, pos := "iter.go:51", after := #[], guard := none }, { dst := none, op := Op.store 58 (Operand.tmp 5) (Operand.tmp 7), type := 0, pos := "iter.go:51", after := #[{ on := 0, ground := Ground.data }, { on := 0, ground := Ground.phase }], guard := none }] false)
def apBody : Go.Code := (Go.Code.block 1 (Go.Code.region 3 #[{ dst := some 8, op := Op.load 33 (Operand.tmp 2), type := 33, pos := "iter.go:52", after := #[], guard := none }, { dst := some 9, op := Op.load 58 (Operand.tmp 5), type := 58, pos := "iter.go:52", after := #[], guard := none }, { dst := some 10, op := Op.buildSlice 33 1 #[(0, Operand.tmp 9)], type := 33, pos := "iter.go:52", after := #[{ on := 1, ground := Ground.data }], guard := none }, { dst := some 11, op := Op.call { callee := Callee.builtin Builtin.append, args := #[Operand.tmp 8, Operand.tmp 10], argTypes := #[33, 33] }, type := 33, pos := "iter.go:52", after := #[{ on := 0, ground := Ground.data }, { on := 2, ground := Ground.data }], guard := none }, { dst := none, op := Op.store 33 (Operand.tmp 2) (Operand.tmp 11), type := 0, pos := "iter.go:52", after := #[{ on := 3, ground := Ground.data }, { on := 3, ground := Ground.chain }, { on := 0, ground := Ground.phase }, { on := 1, ground := Ground.phase }, { on := 2, ground := Ground.phase }, { on := 3, ground := Ground.phase }], guard := none }] false))
def apRec (fn : FuncId) (sv : Value) (Bs D : Nat) (st : LoopState) (pend : Option Go.Code) : Loop :=
  { state := st, pending := pend, fn, tmps := #[.slice none 0 0, sv, .pointer (some ⟨Bs, 0, none⟩), undef, .slice none 0 0, undef, sv, undef, undef, undef, undef, undef, undef], params := #[7], assign := apAssign, body := apBody, defers := D }
/-- Between two rounds. -/
structure ApM (w0 : World) (fn : FuncId) (sv : Value) (Bs l D : Nat) (ss : List GMx) (W : World) : Prop where
  box : ∃ v, W.heap[Bs]? = some (.cells #[v] 33 (0, 0)) ∧ OwnM w0.heap.size v ss W ∧ (v = .slice none 0 0 ↔ ss = [])
  L : W.heap[l]? = some (.loop (apRec fn sv Bs D .ready none))
  K : W.heap[D]? = some (.deferred (some []))
  below : Below w0.heap.size w0 W
set_option maxRecDepth 20000 in
theorem lt_some {w : World} {b : Nat} {o : Obj} (h : w.heap[b]? = some o) : b < w.heap.size := (Array.getElem?_eq_some_iff.1 h).1
set_option maxRecDepth 20000 in
theorem OwnM.below {B : Nat} {v : Value} {L : List GMx} {w w' : World} (h : OwnM B v L w) (hb : Below w.heap.size w w') : OwnM B v L w' := World.ownsRow.kept h (row := none) ⟨hb.os, hb.tape, hb.output, hb.size, fun k hk _ => hb.block k hk⟩ (by
  cases hv : v.ownBlock with
  | none => exact .inl rfl
  | some k => exact .inr (by simp))
set_option maxRecDepth 20000 in
theorem ApM.keep {w0 : World} {fn : FuncId} {sv : Value} {Bs l D : Nat} {ss : List GMx} {W W' : World} (h : ApM w0 fn sv Bs l D ss W) (hb : Below W.heap.size W W') : ApM w0 fn sv Bs l D ss W' := by
  obtain ⟨v, h1, h2, h3⟩ := h.box
  exact ⟨⟨v, (hb.block _ (lt_some h1)).trans h1, h2.below hb, h3⟩, (hb.block _ (lt_some h.L)).trans h.L, (hb.block _ (lt_some h.K)).trans h.K, h.below.trans (hb.mono h.below.size)⟩
set_option maxRecDepth 20000 in
theorem gr_put (W : World) (l : Nat) (o : Obj) : W.grownBy (W.putObj l o) (some l) :=
  ⟨rfl, rfl, rfl, by simp [World.putObj], fun k _ hk => World.putObj_heap_other (fun e => hk (by rw [e]))⟩
set_option maxRecDepth 20000 in
theorem own_not {W : World} {base e size k : Nat} {v : Value} {xs : List Value} (h : W.ownsRow base e size v k xs) {j : Nat} {o : Obj} (hj : W.heap[j]? = some o) (hno : ∀ cur, o ≠ .cells cur e (0, 0)) : v.ownBlock = none ∨ v.ownBlock ≠ some j := by
  rcases h.2 with ⟨rfl, -⟩ | ⟨g, cap, cur, rfl, -, hg, -⟩
  · exact .inl rfl
  · refine .inr fun e1 => ?_
    simp only [Value.ownBlock, Option.some.injEq] at e1
    rw [e1, hj] at hg
    exact hno _ (Option.some.inj hg)
set_option maxRecDepth 20000 in
theorem own_no {W : World} {base e size k : Nat} {v : Value} {xs : List Value} (h : W.ownsRow base e size v k xs) {j : Nat} {o : Obj} (hj : W.heap[j]? = some o) (hno : ∀ cur, o ≠ .cells cur e (0, 0)) : some j ≠ v.ownBlock := by
  intro e1
  rcases own_not h hj hno with e2 | e2
  · rw [e2] at e1; cases e1
  · exact e2 e1.symm
set_option maxRecDepth 20000 in
theorem mxCells_app (L : List GMx) (x : GMx) : mxCells (L ++ [x]) = mxCells L ++ mxC x := by simp [mxCells, List.flatMap_append]
set_option maxRecDepth 100000 in
set_option maxHeartbeats 2000000 in
/-- One round. -/
theorem mxYield (F : Fence) (m : Nat) (w0 : World) (fn : FuncId) (hfn : F.fn fn) (sv : Value) (Bs l D hi : Nat) (hBl : Bs ≠ l) (hDl : D ≠ l) (hDB : D ≠ Bs) (h0B : w0.heap.size ≤ Bs) (h0l : w0.heap.size ≤ l) (hhi : hi ≤ w0.heap.size)
    (ss : List GMx) (x : GMx) (W : World) (h : ApM w0 fn sv Bs l D ss W) (hlen : ss.length ≤ 1000) :
    YieldAt F m Tryz.prog l #[GMxV x] W fun e W' => e = .returned (.bool true) ∧ ApM w0 fn sv Bs l D (ss ++ [x]) W' ∧ Below hi W W' := by
  obtain ⟨i0, hi0, hz0, hz1, hz2⟩ := info_parts Tryz.infoGMx
  obtain ⟨W1, hW1⟩ : ∃ W1, W.alloc (.cells #[.string x.domain, .int .i64 x.prefer, .string x.host] 58) = W1 := ⟨_, rfl⟩
  have b1 : Below W.heap.size W W1 := by rw [← hW1]; exact (Below.refl _ _).alloc (Nat.le_refl _) _
  have hx1 : W1.heap[W.heap.size]? = some (.cells #[.string x.domain, .int .i64 x.prefer, .string x.host] 58 (0, 0)) := by rw [← hW1]; exact World.alloc_heap_new W _
  have h1 := h.keep b1
  obtain ⟨v, hv, hrow, hnl⟩ := h1.box
  unfold OwnM at hrow
  refine ⟨fn, #[.slice none 0 0, sv, .pointer (some ⟨Bs, 0, none⟩), undef, .slice none 0 0, undef, sv, GMxV x, undef, undef, undef, undef, undef], apAssign, apBody, by simpa [apRec] using run_yield (P := Tryz.prog) (args := #[GMxV x]) h.L rfl, roundIn_of_wpIn hfn ?_⟩
  have hl0 : l < W.heap.size := lt_some h.L
  have hB0 : Bs < W.heap.size := by obtain ⟨_, hb, _⟩ := h.box; exact lt_some hb
  have hD0 : D < W.heap.size := lt_some h.K
  have hl : l < W1.heap.size := lt_some h1.L
  have hbr := run_beginRound (P := Tryz.prog) h1.L rfl
  obtain ⟨W2, hW2⟩ : ∃ W2, W1.putObj l (.loop { apRec fn sv Bs D .ready none with state := .busy }) = W2 := ⟨_, rfl⟩
  rw [hW2] at hbr
  have hg2 : W1.grownBy W2 (some l) := by rw [← hW2]; exact gr_put _ _ _
  have hv2 : W2.heap[Bs]? = some (.cells #[v] 33 (0, 0)) := by rw [← hW2]; exact (World.putObj_heap_other hBl).trans hv
  have hK2 : W2.heap[D]? = some (.deferred (some [])) := by rw [← hW2]; exact (World.putObj_heap_other hDl).trans h1.K
  have hx2 : W2.heap[W.heap.size]? = some (.cells #[.string x.domain, .int .i64 x.prefer, .string x.host] 58 (0, 0)) := by rw [← hW2]; exact (World.putObj_heap_other (by omega)).trans hx1
  have hL2 : W2.heap[l]? = some (.loop { apRec fn sv Bs D .ready none with state := .busy }) := by rw [← hW2]; exact World.putObj_heap_same hl
  have hrow2 : W2.ownsRow w0.heap.size 58 3 v ss.length (mxCells ss) := hrow.kept hg2 (own_not hrow h1.L (fun cur e => by cases e))
  have hb2 : Below w0.heap.size w0 W2 := h1.below.grown hg2 h1.below.size (fun k e => by cases e; exact h0l)
  have hs0 := h.below.size
  have hbW2 : Below hi W W2 := (b1.mono (by omega)).grown hg2 (by have := b1.size; omega) (fun k e => by cases e; omega)
  obtain ⟨q, hq⟩ : ∃ q, W.heap.size = q := ⟨_, rfl⟩
  rw [hq] at hx2
  have d0 : W2.cell? ⟨q, 0, none⟩ = some (.string x.domain) := by simp [World.cell?, hx2]
  have d1 : W2.cell? ⟨q, 1, none⟩ = some (.int .i64 x.prefer) := by simp [World.cell?, hx2]
  have d2 : W2.cell? ⟨q, 2, none⟩ = some (.string x.host) := by simp [World.cell?, hx2]
  have dB : W2.cell? ⟨Bs, 0, none⟩ = some v := by simp [World.cell?, hv2]
  have hlow : ∀ k, v.ownBlock = some k → w0.heap.size ≤ k ∧ k < W2.heap.size := fun k hk => World.ownsRow.lt hrow2 k hk
  have neB : some Bs ≠ v.ownBlock := own_no hrow2 hv2 (fun cur e => by cases e)
  have nel : some l ≠ v.ownBlock := own_no hrow2 hL2 (fun cur e => by cases e)
  have neD : some D ≠ v.ownBlock := own_no hrow2 hK2 (fun cur e => by cases e)
  clear hW2
  unfold GMxV apAssign
  gi_wp2_with (rw [Oper.semAt_eq _ _ _ (fun c h => by cases h)]; go_simp; try go_bits)
  clear hbr hW1
  unfold apBody
  gi_wp2_with (first
    | (gi_at_builtin; refine wpListIn_append_own _ rfl _ _ 33 rfl w0.heap.size 58 i0 _ 3 40 Tryz.underlying33 hi0 hz0 hz1 hz2 rfl (by decide) _ _ _ rfl (hrow2.alloc _) ⟨W2.heap.size, 0, none⟩ 1 1 (mxC x) rfl rfl ?_ ?_ (by unfold maxLen; omega) (by omega) (by have := hb2.size; simp; omega) ?_)
    | (rw [Oper.semAt_eq _ _ _ (fun c h => by cases h)]; go_simp; try go_bits))
  · have hx3 := World.alloc_heap_new W2 (.cells #[.string x.domain, .int .i64 x.prefer, .string x.host] 58)
    generalize W2.alloc (.cells #[.string x.domain, .int .i64 x.prefer, .string x.host] 58) = V at *
    intro j u hj
    rw [add_off]
    match j, hj with
    | 0, hj => simp [mxC] at hj; subst hj; simp [World.cell?, hx3]
    | 1, hj => simp [mxC] at hj; subst hj; simp [World.cell?, hx3]
    | 2, hj => simp [mxC] at hj; subst hj; simp [World.cell?, hx3]
    | j + 3, hj => simp [mxC] at hj
  · intro u hu
    simp only [mxC, List.mem_cons, List.not_mem_nil, or_false] at hu
    rcases hu with rfl | rfl | rfl <;> rfl
  · intro v' w3 hown3 hg3 hnil3
    have kp : ∀ k, k < W2.heap.size → some k ≠ v.ownBlock → w3.heap[k]? = W2.heap[k]? := fun k hk hne => (hg3.block k (by simp; omega) hne).trans (Below.heap_alloc _ _ k hk)
    have hv3 : w3.heap[Bs]? = some (.cells #[v] 33 (0, 0)) := (kp Bs (lt_some hv2) neB).trans hv2
    have hL3 := (kp l (lt_some hL2) nel).trans hL2
    have hK3 := (kp D (lt_some hK2) neD).trans hK2
    have e0 : w3.cell? ⟨Bs, 0, none⟩ = some v := by simp [World.cell?, hv3]
    have z0 : w3.frozen? ⟨Bs, 0, none⟩ = false := by simp [World.frozen?, hv3]
    have hb3 : Below w0.heap.size w0 w3 := (hb2.alloc hb2.size _).grown hg3 (by have := hb2.size; simp; omega) (fun k e => (hlow k e).1)
    have hbW3 : Below hi W w3 := (hbW2.alloc (by have := hb2.size; omega) _).grown hg3 (by have := hb2.size; simp; omega) (fun k e => by have := (hlow k e).1; omega)
    obtain ⟨W4, hW4⟩ : ∃ W4, w3.setCell ⟨Bs, 0, none⟩ v' = W4 := ⟨_, rfl⟩
    have hg4 : w3.grownBy W4 (some Bs) := by rw [← hW4]; exact grG_set _ _ _ _
    have hv4 : W4.heap[Bs]? = some (.cells #[v'] 33 (0, 0)) := by rw [← hW4]; simp [World.setCell, Array.getElem?_modify, hv3]
    have hL4 := (hg4.block l (lt_some hL3) (fun e => hBl (by cases e; rfl))).trans hL3
    have hK4 := (hg4.block D (lt_some hK3) (fun e => hDB (by cases e; rfl))).trans hK3
    have hrow4 := World.ownsRow.kept hown3 hg4 (own_not hown3 hv3 (fun cur e => by cases e))
    have hb4 : Below w0.heap.size w0 W4 := hb3.grown hg4 hb3.size (fun k e => by cases e; exact h0B)
    have hbW4 : Below hi W W4 := hbW3.grown hg4 (by have := hb3.size; omega) (fun k e => by cases e; omega)
    obtain ⟨o', c', hsh⟩ : ∃ o' c', v' = .slice o' (ss.length + 1) c' := by
      rcases hown3.2 with ⟨_, h0⟩ | ⟨g', cap', cur', e, _⟩
      · omega
      · exact ⟨_, _, e⟩
    have HW4 := mkHid hW4
    have H4 := mkHid (And.intro hv4 (And.intro hL4 (And.intro hK4 (And.intro hrow4 (And.intro hb4 (And.intro hbW4 hnil3))))))
    clear hW4 hg4 hv4 hL4 hK4 hrow4 hb4 hbW4 hown3 hg3 hv3 hL3 hK3 hb3 hbW3 kp hnil3
    subst hsh
    gi_wp2_with (rw [Oper.semAt_eq _ _ _ (fun c h => by cases h)]; go_simp; try go_bits)
    rw [HW4.out]
    obtain ⟨hv4, hL4, hK4, hrow4, hb4, hbW4, hnil3⟩ := H4.out
    refine ⟨_, _, run_endRound none hL4, rfl, ⟨⟨_, (World.putObj_heap_other hBl).trans hv4, ?_, ?_⟩, World.putObj_heap_same (lt_some hL4), (World.putObj_heap_other hDl).trans hK4, hb4.grown (gr_put _ _ _) hb4.size (fun k e => by cases e; exact h0l)⟩, hbW4.grown (gr_put _ _ _) (by have := hb4.size; omega) (fun k e => by cases e; omega)⟩
    · unfold OwnM
      rw [mxCells_app, List.length_append]
      exact World.ownsRow.kept hrow4 (gr_put W4 l _) (own_not hrow4 hL4 (fun cur e => by cases e))
    · simp [hnil3]
set_option maxRecDepth 100000 in
set_option maxHeartbeats 2000000 in
/-- AppendSeq of a table's values. -/
theorem mxAppendSeq (F : Fence) (n : Nat) (h85 : F.fn 85) (h68 : F.fn 68) (hro : F.round = none) (hn : 2 ≤ n) (Bt lo hi : Nat) (o : Option Addr) (cap : Nat) (T : List GMx) (hT : T.length ≤ 1000) (w : World)
    (hBt : w.cell? ⟨Bt, 0, none⟩ = some (.slice o T.length cap)) (hc : GMxsL lo hi w o T) (hhi : hi ≤ w.heap.size) :
    CallsIn F n Tryz.prog 85 #[.slice none 0 0, .func (.func 68) #[] #[.pointer (some ⟨Bt, 0, none⟩)]] w fun e w' => ∃ v, e = .returned v ∧ OwnM w.heap.size v T w' ∧ (v = .slice none 0 0 ↔ T = []) ∧ Below w.heap.size w w' := by
  have eg : ∀ (args : Array Value) (w : World), (callFunc 68 args).run Tryz.prog w = .ok (.enter 68 args) w := Go.Proofs.enters_of Tryz.func68 (by kernel_rfl) rfl
  have hBlt : Bt < w.heap.size := World.block_lt_of_cell? _ _ hBt
  obtain ⟨sv, hsv⟩ : ∃ sv : Value, .func (.func 68) #[] #[.pointer (some ⟨Bt, 0, none⟩)] = sv := ⟨_, rfl⟩
  refine callsIn_of_wp_marks Tryz.func85 rfl h85 ?_ hro
  simp only [Tryz.ntmps85, List.size_toArray, List.length_cons, List.length_nil, Nat.reduceAdd, Nat.reduceSub, Array.replicate_succ, Array.replicate_zero, List.push_toArray, List.append_toArray, List.nil_append, List.cons_append]
  rw [hsv]
  gi_wp2
  refine wpIn_rangeFunc ?_
  intro fn hfn
  rw [hro]
  obtain ⟨W0, hW0⟩ : ∃ W0, w.alloc (.cells #[.slice none 0 0] 33) = W0 := ⟨_, rfl⟩
  have hs0 : W0.heap.size = w.heap.size + 1 := by rw [← hW0]; simp
  have hv0 : W0.heap[w.heap.size]? = some (.cells #[.slice none 0 0] 33 (0, 0)) := by rw [← hW0]; exact World.alloc_heap_new w _
  have hb0 : Below w.heap.size w W0 := by rw [← hW0]; exact (Below.refl _ w).alloc (Nat.le_refl _) _
  rw [hW0]
  obtain ⟨W1, hW1⟩ : ∃ W1, (W0.alloc (.deferred (some []))).alloc (.loop (apRec fn sv w.heap.size W0.heap.size .ready none)) = W1 := ⟨_, rfl⟩
  have hold : ∀ k, k < W0.heap.size → W1.heap[k]? = W0.heap[k]? := fun k hk => by
    rw [← hW1]; exact (Below.heap_alloc _ _ k (by simp; omega)).trans (Below.heap_alloc _ _ k hk)
  have hb1 : Below w.heap.size w W1 := by rw [← hW1]; exact (hb0.alloc hb0.size _).alloc (by have := hb0.size; simp; omega) _
  have hM : ApM w fn sv w.heap.size (W0.heap.size + 1) W0.heap.size [] W1 :=
    ⟨⟨_, (hold w.heap.size (by omega)).trans hv0, ⟨rfl, .inl ⟨rfl, rfl⟩⟩, by simp⟩,
     by rw [← hW1]; have := World.alloc_heap_new (W0.alloc (.deferred (some []))) (.loop (apRec fn sv w.heap.size W0.heap.size .ready none)); rwa [World.size_alloc] at this,
     by rw [← hW1]; exact (Below.heap_alloc _ _ _ (by simp)).trans (World.alloc_heap_new W0 _), hb1⟩
  refine ⟨W0.heap.size + 1, [{ target := .collected W0.heap.size, args := #[] }], W1, { target := .fn (.func 68) #[.pointer (some ⟨Bt, 0, none⟩)], args := #[.func (.yield (W0.heap.size + 1)) #[] #[]] }, W1, 68,
    #[.func (.yield (W0.heap.size + 1)) #[] #[], .pointer (some ⟨Bt, 0, none⟩)], W1, ?_, ?_, ?_, ?_, fun _ => by omega, ?_⟩
  · rw [← hW1]; exact run_enterLoop_outer _ _ _ _ _
  · rw [← hsv]; simp [resolve, go_sem]
  · intro f' hf'; simp [Target.leads] at hf'; subst hf'; exact h68
  · simp [invoke, go_sem, eg]
  · refine (mxValues1 F (n - 1) h68 hro (by omega) (W0.heap.size + 1) Bt lo hi o cap T hT (fun ss W => ApM w fn sv w.heap.size (W0.heap.size + 1) W0.heap.size ss W)
      (fun pre x W hJ hl => mxYield F (n - 1 - 1) w fn hfn sv w.heap.size (W0.heap.size + 1) W0.heap.size hi (by omega) (by omega) (by omega) (Nat.le_refl _) (by omega) hhi pre x W hJ (by omega))
      (fun pre W W' h hb => h.keep hb) W1 ((World.cell?_of_block (hb1.block Bt hBlt)).trans hBt) (hc.below hb1 hhi) (Nat.le_trans hhi hb1.size) hM).mono ?_
    rintro e W2 ⟨⟨v0, rfl⟩, h2⟩
    obtain ⟨v, hv, hrow, hnil⟩ := h2.box
    have hend := run_endLoop (P := Tryz.prog) h2.L (by simp [apRec])
    obtain ⟨W3, hW3⟩ : ∃ W3, W2.putObj (W0.heap.size + 1) (.loop { apRec fn sv w.heap.size W0.heap.size .ready none with state := .exhausted }) = W3 := ⟨_, rfl⟩
    rw [hW3] at hend
    have hg3 : W2.grownBy W3 (some (W0.heap.size + 1)) := by rw [← hW3]; exact gr_put _ _ _
    have hv3 : W3.heap[w.heap.size]? = some (.cells #[v] 33 (0, 0)) := by rw [← hW3]; exact (World.putObj_heap_other (by omega)).trans hv
    have hK3 : W3.heap[W0.heap.size]? = some (.deferred (some [])) := by rw [← hW3]; exact (World.putObj_heap_other (by omega)).trans h2.K
    have hrow3 : W3.ownsRow w.heap.size 58 3 v T.length (mxCells T) := World.ownsRow.kept hrow hg3 (own_not hrow h2.L (fun cur e => by cases e))
    have hb3 : Below w.heap.size w W3 := h2.below.grown hg3 h2.below.size (fun k e => by cases e; omega)
    have hc3 : W3.cell? ⟨w.heap.size, 0, none⟩ = some v := by simp [World.cell?, hv3]
    clear hW3
    refine ⟨none, W3, hend, ?_⟩
    clear hend
    gi_wp2
    rw [← hs0]
    refine ⟨by simp, .inl ⟨_, _, rfl, run_takeDeferred hK3, ?_⟩⟩
    exact ⟨_, results_tmp rfl _ _ _, v, rfl, World.ownsRow.kept hrow3 (gr_put _ _ _) (own_not hrow3 hK3 (fun cur e => by cases e)), hnil, hb3.grown (gr_put _ _ _) hb3.size (fun k e => by cases e; omega)⟩
set_option maxRecDepth 20000 in
set_option maxHeartbeats 1000000 in
theorem mxCollectIn (F : Fence) (n : Nat) (h66 : F.fn 66) (h85 : F.fn 85) (h68 : F.fn 68) (hro : F.round = none) (hn : 3 ≤ n) (Bt lo hi : Nat) (o : Option Addr) (cap : Nat) (T : List GMx) (hT : T.length ≤ 1000) (w : World)
    (hBt : w.cell? ⟨Bt, 0, none⟩ = some (.slice o T.length cap)) (hc : GMxsL lo hi w o T) (hhi : hi ≤ w.heap.size) :
    CallsIn F n Tryz.prog 66 #[.func (.func 68) #[] #[.pointer (some ⟨Bt, 0, none⟩)]] w fun e w' => ∃ v, e = .returned v ∧ OwnM w.heap.size v T w' ∧ (v = .slice none 0 0 ↔ T = []) ∧ Below w.heap.size w w' := by
  have hA := mxAppendSeq F (n - 1) h85 h68 hro (by omega) Bt lo hi o cap T hT w hBt hc hhi
  have h1 : 1 ≤ n := by omega
  refine callsIn_of_wp Tryz.func66 rfl h66 ?_ hro
  simp only [Tryz.ntmps66, List.size_toArray, List.length_cons, List.length_nil, Nat.reduceAdd, Nat.reduceSub, Array.replicate_succ, Array.replicate_zero, List.push_toArray, List.append_toArray, List.nil_append, List.cons_append]
  gi_wp2_with (gi_at_call 85; refine hA.mono ?_; rintro e w' ⟨v, rfl, h2, h3, h4⟩)
  go_ret
  exact ⟨v, rfl, h2, h3, h4⟩
set_option maxRecDepth 20000 in
theorem mxCollect (Bt lo hi : Nat) (o : Option Addr) (cap : Nat) (T : List GMx) (hT : T.length ≤ 1000) (w : World) (hBt : w.cell? ⟨Bt, 0, none⟩ = some (.slice o T.length cap)) (hc : GMxsL lo hi w o T) (hhi : hi ≤ w.heap.size) :
    Calls Tryz.prog 66 #[.func (.func 68) #[] #[.pointer (some ⟨Bt, 0, none⟩)]] w fun e w' => ∃ v, e = .returned v ∧ OwnM w.heap.size v T w' ∧ (v = .slice none 0 0 ↔ T = []) ∧ Below w.heap.size w w' :=
  callsIn_wide.1 (mxCollectIn Fence.wide 3 trivial trivial trivial rfl (Nat.le_refl _) Bt lo hi o cap T hT w hBt hc hhi)
end Go.Proofs.YtdjghniinnfncaaGreatDoor
namespace Go.Proofs.YtdjghniinnfncaaGreatDoor
open Go.RowKit Go.Lib
namespace Ex
def same (x y : ByteArray) : Bool := x.data.toList == y.data.toList
set_option maxRecDepth 20000 in
theorem same_iff (x y : ByteArray) : same x y = true ↔ x = y := by
  unfold same
  rw [beq_iff_eq]
  constructor
  · intro h
    exact ByteArray.ext (Array.toList_inj.1 h)
  · rintro rfl
    rfl
def isIn (l : List ByteArray) (k : ByteArray) : Bool := l.any fun x => same x k
set_option maxRecDepth 20000 in
theorem isIn_iff (l : List ByteArray) (k : ByteArray) : isIn l k = true ↔ k ∈ l := by
  unfold isIn
  rw [List.any_eq_true]
  constructor
  · rintro ⟨x, hx, h⟩
    rw [(same_iff x k).1 h] at hx
    exact hx
  · intro h
    exact ⟨k, h, (same_iff k k).2 rfl⟩
set_option maxRecDepth 20000 in
theorem isIn_no (l : List ByteArray) (k : ByteArray) : isIn l k = false ↔ k ∉ l := by
  rw [← isIn_iff, Bool.not_eq_true]
set_option maxRecDepth 20000 in
theorem isIn_app (l : List ByteArray) (k z : ByteArray) : isIn (l ++ [k]) z = (isIn l z || same k z) := by
  unfold isIn
  rw [List.any_append]
  simp
def find (A : List GAlias) (k : ByteArray) : Option GAlias := A.find? fun a => same a.name k
structure St where
  out : List ByteArray
  past : List ByteArray
def add (s : St) (k : ByteArray) : St × Int := if isIn s.out k then (s, 0) else if s.out.length = 200 then (s, 4) else (⟨s.out ++ [k], s.past⟩, 0)
def all (f : St → ByteArray → St × Int) : St → List ByteArray → St × Int
  | s, [] => (s, 0)
  | s, k :: r => if (f s k).2 = 0 then all f (f s k).1 r else f s k
/-- The fuel: how many more aliases the way may have. -/
def go (A : List GAlias) : Nat → List ByteArray → St → ByteArray → St × Int
  | 0, way, s, k => match find A k with
    | none => add s k
    | some _ => if isIn way k then (s, 9) else if isIn s.past k then (s, 0) else (s, 4)
  | n + 1, way, s, k => match find A k with
    | none => add s k
    | some al => if isIn way k then (s, 9) else if isIn s.past k then (s, 0) else
        (⟨(all (go A n (way ++ [k])) s al.toF).1.out, (all (go A n (way ++ [k])) s al.toF).1.past ++ [k]⟩, (all (go A n (way ++ [k])) s al.toF).2)
/-- What always holds: the aliases on the way and those gone through are told apart, and are aliases. -/
structure Inv (A : List GAlias) (way : List ByteArray) (s : St) : Prop where
  nodup : (way ++ s.past).Nodup
  named : ∀ k ∈ way ++ s.past, (find A k).isSome = true
  few : s.out.length ≤ 201
set_option maxRecDepth 20000 in
theorem nodup_le : ∀ (l m : List ByteArray), l.Nodup → (∀ x ∈ l, x ∈ m) → l.length ≤ m.length
  | [], _, _, _ => Nat.zero_le _
  | x :: r, m, hn, hs => by
    rw [List.nodup_cons] at hn
    have hx := hs x List.mem_cons_self
    obtain ⟨a, b, rfl⟩ := List.append_of_mem hx
    have := nodup_le r (a ++ b) hn.2 (fun y hy => by
      have h := hs y (List.mem_cons_of_mem _ hy)
      rw [List.mem_append, List.mem_cons] at h
      rw [List.mem_append]
      rcases h with h | rfl | h
      · exact .inl h
      · exact absurd hy hn.1
      · exact .inr h)
    rw [List.length_append] at this
    rw [List.length_append, List.length_cons, List.length_cons]
    omega
set_option maxRecDepth 20000 in
theorem find_mem (A : List GAlias) (k : ByteArray) (al : GAlias) (h : find A k = some al) : al ∈ A ∧ al.name = k := by
  have h1 := List.mem_of_find?_eq_some h
  have h2 := List.find?_some h
  exact ⟨h1, (same_iff _ _).1 h2⟩
set_option maxRecDepth 20000 in
theorem Inv.short {A : List GAlias} {way : List ByteArray} {s : St} (h : Inv A way s) : way.length + s.past.length ≤ A.length := by
  have := nodup_le (way ++ s.past) (A.map (·.name)) h.nodup (fun x hx => by
    obtain ⟨al, ha⟩ := Option.isSome_iff_exists.1 (h.named x hx)
    obtain ⟨h1, h2⟩ := find_mem A x al ha
    exact List.mem_map.2 ⟨al, h1, h2⟩)
  rw [List.length_append, List.length_map] at this
  exact this
set_option maxRecDepth 20000 in
theorem Inv.push {A : List GAlias} {way : List ByteArray} {s : St} (h : Inv A way s) (k : ByteArray) (hk : (find A k).isSome = true) (h1 : isIn way k = false) (h2 : isIn s.past k = false) : Inv A (way ++ [k]) s := by
  rw [isIn_no] at h1 h2
  have hp : (way ++ [k] ++ s.past).Perm (k :: (way ++ s.past)) := by
    rw [List.append_assoc]
    exact List.perm_middle
  refine ⟨?_, ?_, h.few⟩
  · rw [hp.nodup_iff, List.nodup_cons]
    refine ⟨?_, h.nodup⟩
    rw [List.mem_append]
    rintro (h | h)
    · exact h1 h
    · exact h2 h
  · intro x hx
    rcases List.mem_cons.1 (hp.mem_iff.1 hx) with rfl | hx
    · exact hk
    · exact h.named x hx
set_option maxRecDepth 20000 in
theorem Inv.pop {A : List GAlias} {way : List ByteArray} {s : St} {k : ByteArray} (h : Inv A (way ++ [k]) s) : Inv A way ⟨s.out, s.past ++ [k]⟩ := by
  have hp : (way ++ (s.past ++ [k])).Perm (way ++ [k] ++ s.past) := by
    rw [List.append_assoc]
    exact List.Perm.append_left way (List.perm_append_comm)
  refine ⟨hp.nodup_iff.2 h.nodup, fun x hx => h.named x (hp.mem_iff.1 hx), h.few⟩
set_option maxRecDepth 20000 in
theorem Inv.past_way {A : List GAlias} {way : List ByteArray} {s : St} (h : Inv A way s) (k : ByteArray) (hk : isIn s.past k = true) : isIn way k = false ∧ (find A k).isSome = true := by
  rw [isIn_iff] at hk
  refine ⟨?_, h.named k (List.mem_append_right _ hk)⟩
  rw [isIn_no]
  intro hw
  have := h.nodup
  rw [List.nodup_append] at this
  exact this.2.2 k hw k hk rfl
end Ex
end Go.Proofs.YtdjghniinnfncaaGreatDoor
