
/- Lists of texts and of numbers within an argument: opened. -/
import Derived.Test.YtomncfpnpbncoaaGenBase
import Derived.Deep.Slices
import Derived.SliceStrings
import Derived.ChangeSlices
import Derived.ChangeMaps5
import Derived.Carry
import Derived.ChangeOld
import Derived.Lib.SmallJoins
namespace Go.Proofs.Ytomncfpnpbncoaa
open Go.RowKit Go.Lib Go.ChangeShapes Go.WideShapes
theorem add_zeroG (a : Addr) : a.add 0 = a := by simp [Addr.add]
theorem add_moreG (a : Addr) (j : Nat) : a.add (j + 1) = ⟨a.block, a.off + (j + 1), none⟩ := by
  unfold Addr.add
  simp
theorem block_lt_atG {W : World} {a : Addr} {i : Nat} {v : Value} (h : W.cell? (a.add i) = some v) : a.block < W.heap.size := by
  have hlt : (a.add i).block < W.heap.size := World.block_lt_of_cell? _ _ h
  rw [add_blockG] at hlt
  exact hlt
theorem Try.cells2 : Try.prog.cellsOf 2 = 1 := by kernel_rfl
theorem Try.cells4 : Try.prog.cellsOf 4 = 1 := by kernel_rfl
theorem Try.cells9 : Try.prog.cellsOf 9 = 1 := by kernel_rfl
end Go.Proofs.Ytomncfpnpbncoaa
