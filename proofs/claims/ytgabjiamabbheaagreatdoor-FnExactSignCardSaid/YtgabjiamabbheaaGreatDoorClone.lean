/- slices.Clone at a list of fields, at this translation. -/
import Derived.Shelf.SlicesE.Clone
import Derived.Ground.SlgnProg
import Derived.Test.YtgabjiamabbheaaGreatDoorProg
namespace Go.Proofs
open Go.Shelf
def Tryz.cloneFd_ren : Go.Shelf.Ren := ⟨fun | 41 => 64 | n => n, fun | 22 => 37 | 23 => 51 | 4 => 4 | n => n, fun | n => n⟩
theorem Tryz.cloneFd : Go.Proofs.SlLaysE0.n41 Tryz.prog Tryz.cloneFd_ren := {
  mixed := by kernel_rfl
  f41 := ⟨Tryz.f64.name, by decide, Tryz.func64.trans (congrArg some (by kernel_rfl))⟩
  t4 := Tryz.underlying4
  a4 := Tryz.isAgg4
  z4 := Tryz.sizeOf4
  v4 := Tryz.zeroValue4
  t22 := Tryz.underlying37
  a22 := Tryz.isAgg37
  z22 := Tryz.sizeOf37
  v22 := Tryz.zeroValue37 }
end Go.Proofs
