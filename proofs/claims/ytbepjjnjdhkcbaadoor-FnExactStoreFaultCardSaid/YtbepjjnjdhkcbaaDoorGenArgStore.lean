
/- Store as an argument: opened. (By tools/gen/structs.py.) -/
import Derived.Test.YtbepjjnjdhkcbaaDoorGenArgMailbox
import Derived.Test.YtbepjjnjdhkcbaaDoorGenStore
namespace Go.Proofs.YtbepjjnjdhkcbaaDoor
open Go.RowKit Go.Lib Go.ChangeShapes Go.WideShapes
set_option maxRecDepth 20000 in
theorem Tryd.cells_Store : Tryd.prog.cellsOf 24 = 2 := by kernel_rfl
set_option maxRecDepth 20000 in
theorem GStore_list {α : Type} {l : List α} (h : l.length = 2) : ∃ c0 c1, l = [c0, c1] := by
  match l, h with
  | [c0, c1], _ => exact ⟨c0, c1, rfl⟩
set_option maxRecDepth 20000 in
theorem GStore_of {H : Type} {enc : TypeId × Value → H} {W : World} {sp : Nat → Bool} {k0 : Nat} {cs : List Value} {y : DataW H × List MemPlace} (hlen : cs.length = 2) (h2 : DataW.trod enc Tryd.prog W 0 sp true k0 24 cs = some y) :
    ∃ (q : GStore) (v1 : Value), cs = [.int .i64 q.nextValidity, v1] ∧ GStoreIn 0 W.heap.size W q v1 ∧ q.fits maxLen := by
  obtain ⟨xs, k, -, -, -, hxl, hf⟩ := DataW.trod_struct Tryd.underlying24 h2
  obtain ⟨x0, x1, rfl⟩ := GStore_list hlen
  obtain ⟨y0, y1, rfl⟩ := GStore_list (hxl.trans rfl)
  have g0 := hf 0 _ rfl
  simp [Tryd.cells2] at g0
  obtain ⟨z0, e0, -⟩ := DataW.trod_int Tryd.underlying2 g0
  have e0 : x0 = .int .i64 z0 := by simpa using e0
  have g1 := hf 1 _ rfl
  simp [Tryd.cells_sMailbox] at g1
  obtain ⟨o1, z1, c1, e1, t1, l1, b1⟩ := open_SMailbox g1
  subst e0 e1
  exact ⟨⟨z0, z1⟩, _, rfl, ⟨⟨_, _, rfl, t1⟩⟩, ⟨l1, b1⟩⟩
set_option maxRecDepth 20000 in
theorem GStore_arg {H : Type} {enc : TypeId × Value → H} {W : World} {sp : Nat → Bool} {v : Value} {d : DataW H} {ps : List MemPlace} {r : Reach} {b0 : Nat} (hval : Value.okWide Tryd.prog W r b0 24 v) (h : DataW.Trod enc Tryd.prog W 0 sp true 24 v d ps) :
    ∃ (q : GStore) (v1 : Value), v = GStoreV q v1 ∧ GStoreIn 0 W.heap.size W q v1 ∧ q.fits maxLen := by
  obtain ⟨cs, rfl, hsz⟩ := Go.WideShapes.okWide_struct Tryd.underlying24 hval
  obtain ⟨fuel, hf⟩ := h
  obtain ⟨q, v1, e, hIn, hfit⟩ := GStore_of (by simp only [Value.cells]; rw [Array.length_toList]; exact hsz.trans (by kernel_rfl)) hf
  simp only [Value.cells] at e
  have e2 := congrArg List.toArray e
  rw [Array.toArray_toList] at e2
  subst e2
  exact ⟨q, v1, rfl, hIn, hfit⟩
end Go.Proofs.YtbepjjnjdhkcbaaDoor
