
/- The tests for a field's name and value. -/
import Derived.Test.YtmpeflmfglbnnaaDoorAllOf
import Derived.Test.YtmpeflmfglbnnaaDoorUnfold
import Derived.Test.YtmpeflmfglbnnaaDoorHeadPlain
namespace Go.Proofs.YtmpeflmfglbnnaaDoor
open Go.RowKit Go.Lib
theorem nb_cases (c : UInt8) : c.toNat < 33 ∧ Pl.nb c = false ∨ 33 ≤ c.toNat ∧ 126 < c.toNat ∧ Pl.nb c = false ∨ 33 ≤ c.toNat ∧ c.toNat ≤ 126 ∧ ((c.toNat : Int) == 58) = true ∧ Pl.nb c = false ∨ 33 ≤ c.toNat ∧ c.toNat ≤ 126 ∧ ((c.toNat : Int) == 58) = false ∧ Pl.nb c = true := by
  by_cases h1 : c.toNat < 33
  · exact .inl ⟨h1, by simp [Pl.nb]; omega⟩
  · by_cases h2 : 126 < c.toNat
    · exact .inr (.inl ⟨by omega, h2, by simp [Pl.nb]; omega⟩)
    · cases h3 : ((c.toNat : Int) == 58)
      · refine .inr (.inr (.inr ⟨by omega, by omega, rfl, ?_⟩))
        have := Pl.byte_ne c 58 _ rfl h3
        simp [Pl.nb, this]; omega
      · refine .inr (.inr (.inl ⟨by omega, by omega, rfl, ?_⟩))
        rw [Pl.byte_eq c 58 _ rfl h3]; rfl
end Go.Proofs.YtmpeflmfglbnnaaDoor
