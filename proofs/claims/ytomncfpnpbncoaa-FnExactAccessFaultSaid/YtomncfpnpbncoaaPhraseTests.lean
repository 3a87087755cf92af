
/- The bytes of phrases and atoms. -/
import Derived.Test.YtomncfpnpbncoaaBase
import Derived.Test.YtomncfpnpbncoaaPhrasePlain
namespace Go.Proofs.Ytomncfpnpbncoaa
open Go.RowKit Go.Lib
theorem tb_cases (c : UInt8) : c.toNat < 32 ∧ Pl.tb c = false ∨ 32 ≤ c.toNat ∧ ((c.toNat : Int) == 127) = true ∧ Pl.tb c = false ∨ 32 ≤ c.toNat ∧ ((c.toNat : Int) == 127) = false ∧ Pl.tb c = true := by
  by_cases h1 : c.toNat < 32
  · exact .inl ⟨h1, by simp [Pl.tb]; omega⟩
  · cases h3 : ((c.toNat : Int) == 127)
    · refine .inr (.inr ⟨by omega, rfl, ?_⟩)
      have := Pl.byte_ne c 127 _ rfl h3
      simp [Pl.tb, this]; omega
    · refine .inr (.inl ⟨by omega, rfl, ?_⟩)
      rw [Pl.byte_eq c 127 _ rfl h3]; rfl
def Pl.letter (c : UInt8) : Bool := decide (65 ≤ c.toNat ∧ c.toNat ≤ 90) || decide (97 ≤ c.toNat ∧ c.toNat ≤ 122)
def Pl.digit (c : UInt8) : Bool := decide (48 ≤ c.toNat ∧ c.toNat ≤ 57)
/-- The ranges of a byte. -/
theorem range_cases (c : UInt8) : (c.toNat < 48 ∧ Pl.alnum c = false) ∨ (48 ≤ c.toNat ∧ c.toNat ≤ 57 ∧ Pl.alnum c = true) ∨ (58 ≤ c.toNat ∧ c.toNat ≤ 64 ∧ Pl.alnum c = false) ∨ (65 ≤ c.toNat ∧ c.toNat ≤ 90 ∧ Pl.alnum c = true) ∨
    (91 ≤ c.toNat ∧ c.toNat ≤ 96 ∧ Pl.alnum c = false) ∨ (97 ≤ c.toNat ∧ c.toNat ≤ 122 ∧ Pl.alnum c = true) ∨ (123 ≤ c.toNat ∧ c.toNat ≤ 127 ∧ Pl.alnum c = false) ∨ (128 ≤ c.toNat ∧ Pl.alnum c = true) := by
  unfold Pl.alnum
  by_cases h1 : c.toNat < 48
  · exact .inl ⟨h1, by simp; omega⟩
  by_cases h2 : c.toNat ≤ 57
  · exact .inr (.inl ⟨by omega, h2, by simp; omega⟩)
  by_cases h3 : c.toNat ≤ 64
  · exact .inr (.inr (.inl ⟨by omega, h3, by simp; omega⟩))
  by_cases h4 : c.toNat ≤ 90
  · exact .inr (.inr (.inr (.inl ⟨by omega, h4, by simp; omega⟩)))
  by_cases h5 : c.toNat ≤ 96
  · exact .inr (.inr (.inr (.inr (.inl ⟨by omega, h5, by simp; omega⟩))))
  by_cases h6 : c.toNat ≤ 122
  · exact .inr (.inr (.inr (.inr (.inr (.inl ⟨by omega, h6, by simp; omega⟩)))))
  by_cases h7 : c.toNat ≤ 127
  · exact .inr (.inr (.inr (.inr (.inr (.inr (.inl ⟨by omega, h7, by simp; omega⟩))))))
  · exact .inr (.inr (.inr (.inr (.inr (.inr (.inr ⟨by omega, by simp; omega⟩))))))
end Go.Proofs.Ytomncfpnpbncoaa
