
/- Lists of texts and of numbers within an argument: opened. -/
import Derived.Test.YthgjflgidalmlaaDoorGenBase
import Derived.Deep.Slices
import Derived.SliceStrings
import Derived.ChangeSlices
import Derived.ChangeMaps5
import Derived.Carry
import Derived.ChangeOld
import Derived.Lib.SmallJoins
namespace Go.Proofs.YthgjflgidalmlaaDoor
open Go.RowKit Go.Lib Go.ChangeShapes Go.WideShapes
set_option maxRecDepth 20000 in
theorem add_zeroG (a : Addr) : a.add 0 = a := by simp [Addr.add]
set_option maxRecDepth 20000 in
theorem add_moreG (a : Addr) (j : Nat) : a.add (j + 1) = ⟨a.block, a.off + (j + 1), none⟩ := by
  unfold Addr.add
  simp
set_option maxRecDepth 20000 in
theorem block_lt_atG {W : World} {a : Addr} {i : Nat} {v : Value} (h : W.cell? (a.add i) = some v) : a.block < W.heap.size := by
  have hlt : (a.add i).block < W.heap.size := World.block_lt_of_cell? _ _ h
  rw [add_blockG] at hlt
  exact hlt
set_option maxRecDepth 20000 in
theorem Tryd.cells2 : Tryd.prog.cellsOf 2 = 1 := by kernel_rfl
set_option maxRecDepth 20000 in
theorem Tryd.cells4 : Tryd.prog.cellsOf 4 = 1 := by kernel_rfl
set_option maxRecDepth 20000 in
theorem Tryd.cells9 : Tryd.prog.cellsOf 9 = 1 := by kernel_rfl
set_option maxRecDepth 20000 in
theorem Tryd.cells_sStr : Tryd.prog.cellsOf 30 = 1 := by kernel_rfl
set_option maxRecDepth 20000 in
theorem open_SStr {H : Type} {enc : TypeId × Value → H} {W : World} {sp : Nat → Bool} {v : Value} {y : DataW H × List MemPlace} {fuel : Nat} (hx : DataW.trod enc Tryd.prog W 0 sp true fuel 30 [v] = some y) :
    ∃ o F cap, v = .slice o F.length cap ∧ TxL 0 W.heap.size W o F ∧ F.length ≤ maxLen ∧ ∀ f ∈ F, f.size ≤ maxLen := by
  rcases Go.ChangeShapes.open_strings Tryd.underlying30 Tryd.underlying9 Tryd.cells9 hx with ⟨hc, -⟩ | ⟨a', len', cap', zs, hc, -, hl, hm, hz, -, hcell, hsz⟩
  · simp at hc
    subst hc
    exact ⟨none, [], 0, rfl, fun i hi => absurd hi (Nat.not_lt_zero _), Nat.zero_le _, fun f hf => by cases hf⟩
  · simp at hc
    subst hc
    have hlz : len' ≤ zs.length := by rw [hz]; split <;> omega
    refine ⟨some a', zs.take len', cap', by rw [List.length_take]; simp; omega, ?_, by rw [List.length_take]; omega, fun f hf => hsz f (List.mem_of_mem_take hf)⟩
    intro i hi
    rw [List.length_take] at hi
    have hc := hcell i (by omega)
    refine ⟨a', rfl, Nat.zero_le _, block_lt_atG hc, ?_⟩
    rw [hc, List.getElem_take, List.getD_eq_getElem?_getD, List.getElem?_eq_getElem (by omega)]
    rfl
end Go.Proofs.YthgjflgidalmlaaDoor
