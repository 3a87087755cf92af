
/- The library contracts: under a second name. -/

/- The table of powers of ten, and a number written by strconv.FormatInt. -/
import Derived.Test.YtfaeckaeaeadeaaGreatDoorShelf
import Derived.Test.YtfaeckaeaeadeaaGreatDoorGenBase
import Derived.Test.YtfaeckaeaeadeaaGreatDoorDateSpec
import Derived.Lib.ItoaNum
namespace Go.Proofs.YtfaeckaeaeadeaaGreatDoor
open Go.RowKit Go.Lib Go.Maps
set_option maxRecDepth 20000 in
theorem below_drewG (w : World) (k : Nat) (os : Array Obj) : Below w.heap.size w (Go.Sort.grow (w.drewN k) os) := by
  refine ⟨rfl, rfl, rfl, by first | (simp [Go.Sort.grow]; done) | (simp [Go.Sort.grow]; omega), fun i hi => ?_⟩
  show ((w.drewN k).heap ++ os)[i]? = _
  rw [Array.getElem?_append_left (by show i < w.heap.size; omega)]
  rfl
set_option maxRecDepth 20000 in
theorem libFormat (z : Int) (w : World) (h0 : 0 ≤ z) (h1 : z ≤ 9223372036854775807) (hP : PTab w) :
    Calls Tryz.prog 37 #[.int .i64 z, .int .i64 10] w fun e w' => e = .returned (.string ⟨(decDigits z.toNat).toArray⟩) ∧ Below w.heap.size w w' := by
  refine (Tryz.strconv_FormatInt_10 z (by omega) h1 w hP).mono ?_
  rintro e w' ⟨rfl, k, os, rfl⟩
  exact ⟨by rw [itoa, if_neg (by omega)], below_drewG _ _ _⟩
end Go.Proofs.YtfaeckaeaeadeaaGreatDoor
