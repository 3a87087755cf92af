
/- The specification's FlagFault and BoxNameFault. -/
import Derived.Test.YtmeicmnnjaeooaaDoorSpecFlag
namespace Go.Proofs.YtmeicmnnjaeooaaDoor
open Go.RowKit Go.Lib Go.Maps
namespace St
theorem all_drop {α : Type} (f : α → Bool) (l : List α) (k : Nat) (h : k < l.length) : (l.drop k).all f = (f l[k] && (l.drop (k + 1)).all f) := by
  rw [List.drop_eq_getElem_cons h, List.all_cons]
theorem beq36 (k : Nat) : ((k : Int) == 36) = (k == 36) := by rw [Bool.eq_iff_iff]; simp; omega
theorem beq45 (k : Nat) : ((k : Int) == 45) = (k == 45) := by rw [Bool.eq_iff_iff]; simp; omega
theorem beq47 (k : Nat) : ((k : Int) == 47) = (k == 47) := by rw [Bool.eq_iff_iff]; simp; omega
theorem beq95 (k : Nat) : ((k : Int) == 95) = (k == 95) := by rw [Bool.eq_iff_iff]; simp; omega
end St
def plFlagFault (t : ByteArray) : Int := St.code (St.flag t)
end Go.Proofs.YtmeicmnnjaeooaaDoor
