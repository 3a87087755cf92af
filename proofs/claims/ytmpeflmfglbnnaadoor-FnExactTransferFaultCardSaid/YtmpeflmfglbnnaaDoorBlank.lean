
/- The tests for a blank. -/
import Derived.Test.YtmpeflmfglbnnaaDoorBase
namespace Go.Proofs.YtmpeflmfglbnnaaDoor
open Go.RowKit Go.Lib
/-- The two tests for a blank. -/
theorem blank_cases (c : UInt8) : ((c.toNat : Int) == 32) = true ∧ Pl.blank c = true ∨ ((c.toNat : Int) == 32) = false ∧ ((c.toNat : Int) == 9) = true ∧ Pl.blank c = true ∨ ((c.toNat : Int) == 32) = false ∧ ((c.toNat : Int) == 9) = false ∧ Pl.blank c = false := by
  cases h : ((c.toNat : Int) == 32)
  · cases h9 : ((c.toNat : Int) == 9)
    · exact .inr (.inr ⟨rfl, rfl, by simp [Pl.blank, Pl.byte_ne c 32 _ rfl h, Pl.byte_ne c 9 _ rfl h9]⟩)
    · exact .inr (.inl ⟨rfl, rfl, by rw [Pl.byte_eq c 9 _ rfl h9]; rfl⟩)
  · exact .inl ⟨rfl, by rw [Pl.byte_eq c 32 _ rfl h]; rfl⟩
end Go.Proofs.YtmpeflmfglbnnaaDoor
