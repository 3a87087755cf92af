
/- The table of powers of ten, and a number written by strconv.FormatInt. -/
import Derived.Test.YtgbgepfefbkefaaDoorGenBase
import Derived.Test.YtgbgepfefbkefaaDoorShelfB
import Derived.Lib.ItoaNum
namespace Go.Proofs.YtgbgepfefbkefaaDoor
open Go.RowKit Go.Lib Go.Maps
abbrev PTab (w : World) : Prop := Lib.TabIs Tryd.prog w "internal/strconv.uint64pow10" .u64 Lib.pow10Tab
theorem pGlob : Tryd.prog.globalNamed "internal/strconv.uint64pow10" = some 0 := by kernel_rfl
theorem ptab_on {w w' : World} (h : PTab w) (hb : Below w.heap.size w w') : PTab w' := by
  unfold PTab Lib.TabIs World.var? at h ⊢
  rw [pGlob] at h ⊢
  simp only [Option.bind_some] at h ⊢
  have hlt : 0 < w.heap.size := by
    rcases Nat.lt_or_ge 0 w.heap.size with h' | h'
    · exact h'
    · rw [Array.getElem?_eq_none h'] at h; cases h
  rw [hb.block _ hlt]
  exact h
theorem below_drewG (w : World) (k : Nat) (os : Array Obj) : Below w.heap.size w (Go.Sort.grow (w.drewN k) os) := by
  refine ⟨rfl, rfl, rfl, by first | (simp [Go.Sort.grow]; done) | (simp [Go.Sort.grow]; omega), fun i hi => ?_⟩
  show ((w.drewN k).heap ++ os)[i]? = _
  rw [Array.getElem?_append_left (by show i < w.heap.size; omega)]
  rfl
theorem libFormat (z : Int) (w : World) (h0 : 0 ≤ z) (h1 : z ≤ 9223372036854775807) (hP : PTab w) :
    Calls Tryd.prog 19 #[.int .i64 z, .int .i64 10] w fun e w' => e = .returned (.string ⟨(decDigits z.toNat).toArray⟩) ∧ Below w.heap.size w w' := by
  refine (Tryd.strconv_FormatInt_10 z (by omega) h1 w hP).mono ?_
  rintro e w' ⟨rfl, k, os, rfl⟩
  exact ⟨by rw [itoa, if_neg (by omega)], below_drewG _ _ _⟩
end Go.Proofs.YtgbgepfefbkefaaDoor
