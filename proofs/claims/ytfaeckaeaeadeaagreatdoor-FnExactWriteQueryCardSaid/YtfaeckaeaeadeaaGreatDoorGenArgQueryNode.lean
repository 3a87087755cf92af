
/- Lists of texts and of numbers within an argument: opened. -/

/- Range as an argument: opened. (By tools/gen/structs.py.) -/

/- QueryNode as an argument: opened. (By tools/gen/structs.py.) -/
import Derived.Test.YtfaeckaeaeadeaaGreatDoorGenBase
import Derived.Deep.Slices
import Derived.SliceStrings
import Derived.ChangeSlices
import Derived.ChangeMaps5
import Derived.Carry
import Derived.ChangeOld
import Derived.Lib.SmallJoins
import Derived.Test.YtfaeckaeaeadeaaGreatDoorGenRange
import Derived.Test.YtfaeckaeaeadeaaGreatDoorGenQueryNode
namespace Go.Proofs.YtfaeckaeaeadeaaGreatDoor
open Go.RowKit Go.Lib Go.ChangeShapes Go.WideShapes
set_option maxRecDepth 20000 in
theorem add_zeroG (a : Addr) : a.add 0 = a := by simp [Addr.add]
set_option maxRecDepth 20000 in
theorem add_moreG (a : Addr) (j : Nat) : a.add (j + 1) = ⟨a.block, a.off + (j + 1), none⟩ := by
  unfold Addr.add
  simp
set_option maxRecDepth 20000 in
theorem block_lt_atG {W : World} {a : Addr} {i : Nat} {v : Value} (h : W.cell? (a.add i) = some v) : a.block < W.heap.size := by
  have hlt : (a.add i).block < W.heap.size := World.block_lt_of_cell? _ _ h
  rw [add_blockG] at hlt
  exact hlt
set_option maxRecDepth 20000 in
theorem Tryz.cells2 : Tryz.prog.cellsOf 2 = 1 := by kernel_rfl
set_option maxRecDepth 20000 in
theorem Tryz.cells4 : Tryz.prog.cellsOf 4 = 1 := by kernel_rfl
set_option maxRecDepth 20000 in
theorem Tryz.cells9 : Tryz.prog.cellsOf 9 = 1 := by kernel_rfl
set_option maxRecDepth 20000 in
theorem Tryz.cells_sStr : Tryz.prog.cellsOf 40 = 1 := by kernel_rfl
set_option maxRecDepth 20000 in
theorem Tryz.cells_sInt : Tryz.prog.cellsOf 31 = 1 := by kernel_rfl
set_option maxRecDepth 20000 in
theorem open_SStr {H : Type} {enc : TypeId × Value → H} {W : World} {sp : Nat → Bool} {v : Value} {y : DataW H × List MemPlace} {fuel : Nat} (hx : DataW.trod enc Tryz.prog W 0 sp true fuel 40 [v] = some y) :
    ∃ o F cap, v = .slice o F.length cap ∧ TxL 0 W.heap.size W o F ∧ F.length ≤ maxLen ∧ ∀ f ∈ F, f.size ≤ maxLen := by
  rcases Go.ChangeShapes.open_strings Tryz.underlying40 Tryz.underlying9 Tryz.cells9 hx with ⟨hc, -⟩ | ⟨a', len', cap', zs, hc, -, hl, hm, hz, -, hcell, hsz⟩
  · simp at hc
    subst hc
    exact ⟨none, [], 0, rfl, fun i hi => absurd hi (Nat.not_lt_zero _), Nat.zero_le _, fun f hf => by cases hf⟩
  · simp at hc
    subst hc
    have hlz : len' ≤ zs.length := by rw [hz]; split <;> omega
    refine ⟨some a', zs.take len', cap', by rw [List.length_take]; simp; omega, ?_, by rw [List.length_take]; omega, fun f hf => hsz f (List.mem_of_mem_take hf)⟩
    intro i hi
    rw [List.length_take] at hi
    have hc := hcell i (by omega)
    refine ⟨a', rfl, Nat.zero_le _, block_lt_atG hc, ?_⟩
    rw [hc, List.getElem_take, List.getD_eq_getElem?_getD, List.getElem?_eq_getElem (by omega)]
    rfl
set_option maxRecDepth 20000 in
theorem open_SInt {H : Type} {enc : TypeId × Value → H} {W : World} {sp : Nat → Bool} {v : Value} {y : DataW H × List MemPlace} {fuel : Nat} (hx : DataW.trod enc Tryz.prog W 0 sp true fuel 31 [v] = some y) :
    ∃ o F cap, v = .slice o F.length cap ∧ InL 0 W.heap.size W o F ∧ F.length ≤ maxLen := by
  rcases open_ints Tryz.underlying31 Tryz.underlying2 Tryz.cells2 hx with ⟨hc, -⟩ | ⟨a', len', cap', zs, hc, -, hl, hm, hz, -, hcell, -⟩
  · simp at hc
    subst hc
    exact ⟨none, [], 0, rfl, fun i hi => absurd hi (Nat.not_lt_zero _), Nat.zero_le _⟩
  · simp at hc
    subst hc
    have hlz : len' ≤ zs.length := by rw [hz]; split <;> omega
    refine ⟨some a', zs.take len', cap', by rw [List.length_take]; simp; omega, ?_, by rw [List.length_take]; omega⟩
    intro i hi
    rw [List.length_take] at hi
    have hc := hcell i (by omega)
    refine ⟨a', rfl, Nat.zero_le _, block_lt_atG hc, ?_⟩
    rw [hc, List.getElem_take, List.getD_eq_getElem?_getD, List.getElem?_eq_getElem (by omega)]
    rfl
end Go.Proofs.YtfaeckaeaeadeaaGreatDoor
namespace Go.Proofs.YtfaeckaeaeadeaaGreatDoor
open Go.RowKit Go.Lib Go.ChangeShapes Go.WideShapes
set_option maxRecDepth 20000 in
theorem Tryz.cells_Range : Tryz.prog.cellsOf 77 = 2 := by kernel_rfl
set_option maxRecDepth 20000 in
theorem Tryz.cells_sRange : Tryz.prog.cellsOf 30 = 1 := by kernel_rfl
set_option maxRecDepth 20000 in
theorem GRange_list {α : Type} {l : List α} (h : l.length = 2) : ∃ c0 c1, l = [c0, c1] := by
  match l, h with
  | [c0, c1], _ => exact ⟨c0, c1, rfl⟩
set_option maxRecDepth 20000 in
theorem GRange_of {H : Type} {enc : TypeId × Value → H} {W : World} {sp : Nat → Bool} {k0 : Nat} {cs : List Value} {y : DataW H × List MemPlace} (hlen : cs.length = 2) (h2 : DataW.trod enc Tryz.prog W 0 sp true k0 77 cs = some y) :
    ∃ (q : GRange), cs = [.int .i64 q.fromF, .int .i64 q.toF] ∧ q.fits maxLen := by
  obtain ⟨xs, k, -, -, -, hxl, hf⟩ := DataW.trod_struct Tryz.underlying77 h2
  obtain ⟨x0, x1, rfl⟩ := GRange_list hlen
  obtain ⟨y0, y1, rfl⟩ := GRange_list (hxl.trans rfl)
  have g0 := hf 0 _ rfl
  simp [Tryz.cells2] at g0
  obtain ⟨z0, e0, -⟩ := DataW.trod_int Tryz.underlying2 g0
  have e0 : x0 = .int .i64 z0 := by simpa using e0
  have g1 := hf 1 _ rfl
  simp [Tryz.cells2] at g1
  obtain ⟨z1, e1, -⟩ := DataW.trod_int Tryz.underlying2 g1
  have e1 : x1 = .int .i64 z1 := by simpa using e1
  subst e0 e1
  exact ⟨⟨z0, z1⟩, rfl, ⟨Nat.zero_le _, rfl⟩⟩
set_option maxRecDepth 20000 in
theorem GRange_arg {H : Type} {enc : TypeId × Value → H} {W : World} {sp : Nat → Bool} {v : Value} {d : DataW H} {ps : List MemPlace} {r : Reach} {b0 : Nat} (hval : Value.okWide Tryz.prog W r b0 77 v) (h : DataW.Trod enc Tryz.prog W 0 sp true 77 v d ps) :
    ∃ (q : GRange), v = GRangeV q ∧ q.fits maxLen := by
  obtain ⟨cs, rfl, hsz⟩ := Go.WideShapes.okWide_struct Tryz.underlying77 hval
  obtain ⟨fuel, hf⟩ := h
  obtain ⟨q, e, hfit⟩ := GRange_of (by simp only [Value.cells]; rw [Array.length_toList]; exact hsz.trans (by kernel_rfl)) hf
  simp only [Value.cells] at e
  have e2 := congrArg List.toArray e
  rw [Array.toArray_toList] at e2
  subst e2
  exact ⟨q, rfl, hfit⟩
set_option maxRecDepth 20000 in
theorem open_SRange {H : Type} {enc : TypeId × Value → H} {W : World} {sp : Nat → Bool} {v : Value} {y : DataW H × List MemPlace} {fuel : Nat} (hx : DataW.trod enc Tryz.prog W 0 sp true fuel 30 [v] = some y) :
    ∃ o F cap, v = .slice o F.length cap ∧ GRangesL 0 W.heap.size W o F ∧ F.length ≤ maxLen ∧ ∀ f ∈ F, f.fits maxLen := by
  rcases Go.Deep.open_slice Tryz.underlying30 hx with ⟨hc, -⟩ | ⟨a', len, cap, m, n, D, Pl, hc, -, hl, hm, hmm, -, hall⟩
  · simp at hc
    subst hc
    exact ⟨none, [], 0, rfl, fun i hi => absurd hi (Nat.not_lt_zero _), Nat.zero_le _, fun f hf => by cases hf⟩
  · simp at hc
    subst hc
    have hlm : len ≤ m := by rw [hmm]; split <;> omega
    have each : ∀ i, i < m → ∃ q : GRange, (GRangeAt W (a'.add (i * 2)) q) ∧ q.fits maxLen ∧ a'.block < W.heap.size := by
      intro i hi
      obtain ⟨cs', h1, h2⟩ := hall i hi
      rw [Tryz.cells_Range] at h1
      obtain ⟨_, hlen, hcell⟩ := World.cells?_some h1
      obtain ⟨q, rfl, hfit⟩ := GRange_of hlen h2
      have d0 := hcell 0 (by omega)
      have d1 := hcell 1 (by omega)
      rw [show (a'.add (i * 2)).add 0 = a'.add (i * 2) from add_zeroG _] at d0
      rw [add_moreG _ 0] at d1
      exact ⟨q, ⟨by simpa using d0, by simpa using d1⟩, hfit, by have := World.block_lt_of_cell? _ _ d0; rw [add_blockG] at this; exact this⟩
    haveI : Inhabited GRange := ⟨⟨0, 0⟩⟩
    obtain ⟨q, hq⟩ := Go.Deep.choose_lt each
    refine ⟨some a', (List.range len).map q, cap, by simp, ?_, by simp; omega, ?_⟩
    · intro i hi
      simp at hi
      obtain ⟨x1, -, x3⟩ := hq i (by omega)
      exact ⟨a', rfl, Nat.zero_le _, x3, by simpa using x1⟩
    · intro f hf
      simp only [List.mem_map, List.mem_range] at hf
      obtain ⟨i, hi, rfl⟩ := hf
      exact (hq i (by omega)).2.1
end Go.Proofs.YtfaeckaeaeadeaaGreatDoor
namespace Go.Proofs.YtfaeckaeaeadeaaGreatDoor
open Go.RowKit Go.Lib Go.ChangeShapes Go.WideShapes
set_option maxRecDepth 20000 in
theorem Tryz.cells_QueryNode : Tryz.prog.cellsOf 33 = 6 := by kernel_rfl
set_option maxRecDepth 20000 in
theorem Tryz.cells_sQueryNode : Tryz.prog.cellsOf 22 = 1 := by kernel_rfl
set_option maxRecDepth 20000 in
theorem GQueryNode_list {α : Type} {l : List α} (h : l.length = 6) : ∃ c0 c1 c2 c3 c4 c5, l = [c0, c1, c2, c3, c4, c5] := by
  match l, h with
  | [c0, c1, c2, c3, c4, c5], _ => exact ⟨c0, c1, c2, c3, c4, c5, rfl⟩
set_option maxRecDepth 20000 in
theorem GQueryNode_of {H : Type} {enc : TypeId × Value → H} {W : World} {sp : Nat → Bool} {k0 : Nat} {cs : List Value} {y : DataW H × List MemPlace} (hlen : cs.length = 6) (h2 : DataW.trod enc Tryz.prog W 0 sp true k0 33 cs = some y) :
    ∃ (q : GQueryNode) (v4 v5 : Value), cs = [.int .i64 q.kind, .string q.name, .string q.text, .int .i64 q.num, v4, v5] ∧ GQueryNodeIn 0 W.heap.size W q v4 v5 ∧ q.fits maxLen := by
  obtain ⟨xs, k, -, -, -, hxl, hf⟩ := DataW.trod_struct Tryz.underlying33 h2
  obtain ⟨x0, x1, x2, x3, x4, x5, rfl⟩ := GQueryNode_list hlen
  obtain ⟨y0, y1, y2, y3, y4, y5, rfl⟩ := GQueryNode_list (hxl.trans rfl)
  have g0 := hf 0 _ rfl
  simp [Tryz.cells2] at g0
  obtain ⟨z0, e0, -⟩ := DataW.trod_int Tryz.underlying2 g0
  have e0 : x0 = .int .i64 z0 := by simpa using e0
  have g1 := hf 1 _ rfl
  simp [Tryz.cells9] at g1
  obtain ⟨z1, e1, -, b1⟩ := DataW.trod_string Tryz.underlying9 g1
  have e1 : x1 = .string z1 := by simpa using e1
  have g2 := hf 2 _ rfl
  simp [Tryz.cells9] at g2
  obtain ⟨z2, e2, -, b2⟩ := DataW.trod_string Tryz.underlying9 g2
  have e2 : x2 = .string z2 := by simpa using e2
  have g3 := hf 3 _ rfl
  simp [Tryz.cells2] at g3
  obtain ⟨z3, e3, -⟩ := DataW.trod_int Tryz.underlying2 g3
  have e3 : x3 = .int .i64 z3 := by simpa using e3
  have g4 := hf 4 _ rfl
  simp [Tryz.cells_sRange] at g4
  obtain ⟨o4, z4, c4, e4, t4, l4, b4⟩ := open_SRange g4
  have g5 := hf 5 _ rfl
  simp [Tryz.cells_sInt] at g5
  obtain ⟨o5, z5, c5, e5, t5, l5⟩ := open_SInt g5
  subst e0 e1 e2 e3 e4 e5
  exact ⟨⟨z0, z1, z2, z3, z4, z5⟩, _, _, rfl, ⟨⟨_, _, rfl, t4⟩, ⟨_, _, rfl, t5⟩⟩, ⟨b1, b2, l4, b4, l5⟩⟩
set_option maxRecDepth 20000 in
theorem GQueryNode_arg {H : Type} {enc : TypeId × Value → H} {W : World} {sp : Nat → Bool} {v : Value} {d : DataW H} {ps : List MemPlace} {r : Reach} {b0 : Nat} (hval : Value.okWide Tryz.prog W r b0 33 v) (h : DataW.Trod enc Tryz.prog W 0 sp true 33 v d ps) :
    ∃ (q : GQueryNode) (v4 v5 : Value), v = GQueryNodeV q v4 v5 ∧ GQueryNodeIn 0 W.heap.size W q v4 v5 ∧ q.fits maxLen := by
  obtain ⟨cs, rfl, hsz⟩ := Go.WideShapes.okWide_struct Tryz.underlying33 hval
  obtain ⟨fuel, hf⟩ := h
  obtain ⟨q, v4, v5, e, hIn, hfit⟩ := GQueryNode_of (by simp only [Value.cells]; rw [Array.length_toList]; exact hsz.trans (by kernel_rfl)) hf
  simp only [Value.cells] at e
  have e2 := congrArg List.toArray e
  rw [Array.toArray_toList] at e2
  subst e2
  exact ⟨q, v4, v5, rfl, hIn, hfit⟩
set_option maxRecDepth 20000 in
theorem open_SQueryNode {H : Type} {enc : TypeId × Value → H} {W : World} {sp : Nat → Bool} {v : Value} {y : DataW H × List MemPlace} {fuel : Nat} (hx : DataW.trod enc Tryz.prog W 0 sp true fuel 22 [v] = some y) :
    ∃ o F cap, v = .slice o F.length cap ∧ GQueryNodesL 0 W.heap.size W o F ∧ F.length ≤ maxLen ∧ ∀ f ∈ F, f.fits maxLen := by
  rcases Go.Deep.open_slice Tryz.underlying22 hx with ⟨hc, -⟩ | ⟨a', len, cap, m, n, D, Pl, hc, -, hl, hm, hmm, -, hall⟩
  · simp at hc
    subst hc
    exact ⟨none, [], 0, rfl, fun i hi => absurd hi (Nat.not_lt_zero _), Nat.zero_le _, fun f hf => by cases hf⟩
  · simp at hc
    subst hc
    have hlm : len ≤ m := by rw [hmm]; split <;> omega
    have each : ∀ i, i < m → ∃ q : GQueryNode, (∃ v4 v5, GQueryNodeAt W (a'.add (i * 6)) q v4 v5 ∧ GQueryNodeIn 0 W.heap.size W q v4 v5) ∧ q.fits maxLen ∧ a'.block < W.heap.size := by
      intro i hi
      obtain ⟨cs', h1, h2⟩ := hall i hi
      rw [Tryz.cells_QueryNode] at h1
      obtain ⟨_, hlen, hcell⟩ := World.cells?_some h1
      obtain ⟨q, v4, v5, rfl, hIn, hfit⟩ := GQueryNode_of hlen h2
      have d0 := hcell 0 (by omega)
      have d1 := hcell 1 (by omega)
      have d2 := hcell 2 (by omega)
      have d3 := hcell 3 (by omega)
      have d4 := hcell 4 (by omega)
      have d5 := hcell 5 (by omega)
      rw [show (a'.add (i * 6)).add 0 = a'.add (i * 6) from add_zeroG _] at d0
      rw [add_moreG _ 0] at d1
      rw [add_moreG _ 1] at d2
      rw [add_moreG _ 2] at d3
      rw [add_moreG _ 3] at d4
      rw [add_moreG _ 4] at d5
      exact ⟨q, ⟨v4, v5, ⟨by simpa using d0, by simpa using d1, by simpa using d2, by simpa using d3, by simpa using d4, by simpa using d5⟩, hIn⟩, hfit, by have := World.block_lt_of_cell? _ _ d0; rw [add_blockG] at this; exact this⟩
    haveI : Inhabited GQueryNode := ⟨⟨0, ⟨#[]⟩, ⟨#[]⟩, 0, [], []⟩⟩
    obtain ⟨q, hq⟩ := Go.Deep.choose_lt each
    refine ⟨some a', (List.range len).map q, cap, by simp, ?_, by simp; omega, ?_⟩
    · intro i hi
      simp at hi
      obtain ⟨⟨v4, v5, x1, x2⟩, -, x3⟩ := hq i (by omega)
      exact ⟨a', v4, v5, rfl, Nat.zero_le _, x3, by simpa using x1, by simpa using x2⟩
    · intro f hf
      simp only [List.mem_map, List.mem_range] at hf
      obtain ⟨i, hi, rfl⟩ := hf
      exact (hq i (by omega)).2.1
end Go.Proofs.YtfaeckaeaeadeaaGreatDoor
