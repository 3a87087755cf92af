/- The tests for a blank and for a long text. -/
import Derived.Test.YtocajpfdlbgiaalChecked
import Derived.Test.YtocajpfdlbgiaalPlain
import Derived.Test.YtocajpfdlbgiaalBytes
import Derived.WalkKit
import Derived.WalkLawsBesides
import Derived.WalkSpells
namespace Go.Proofs.Ytocajpfdlbgiaal
open Go.RowKit Go.Lib
theorem Try.info5 : (Try.prog.info? 5).map (fun i => (i.zero, i.size, i.bytes)) = some (some (.int .u8 0), 1, 1) := by kernel_rfl
/-- The two tests for a blank. -/
theorem blank_cases (c : UInt8) : ((c.toNat : Int) == 32) = true ∧ Pl.blank c = true ∨ ((c.toNat : Int) == 32) = false ∧ ((c.toNat : Int) == 9) = true ∧ Pl.blank c = true ∨ ((c.toNat : Int) == 32) = false ∧ ((c.toNat : Int) == 9) = false ∧ Pl.blank c = false := by
  cases h : ((c.toNat : Int) == 32)
  · cases h9 : ((c.toNat : Int) == 9)
    · exact .inr (.inr ⟨rfl, rfl, by simp [Pl.blank, Pl.byte_ne c 32 _ rfl h, Pl.byte_ne c 9 _ rfl h9]⟩)
    · exact .inr (.inl ⟨rfl, rfl, by rw [Pl.byte_eq c 9 _ rfl h9]; rfl⟩)
  · exact .inl ⟨rfl, by rw [Pl.byte_eq c 32 _ rfl h]; rfl⟩
theorem specBlank (c : UInt8) (w : World) : Calls Try.prog 22 #[.int .u8 (c.toNat : Int)] w fun e w' => e = .returned (.bool (Pl.blank c)) ∧ w = w' := by
  rcases blank_cases c with ⟨h, hb⟩ | ⟨h, h9, hb⟩ | ⟨h, h9, hb⟩ <;> rw [hb] <;> clear hb
  all_goals
    go_enter Try.func22, Try.ntmps22
    go_wp2
    go_ret
    exact ⟨rfl, rfl⟩
theorem implBlank (c : UInt8) (w : World) : Calls Try.prog 29 #[.int .u8 (c.toNat : Int)] w fun e w' => e = .returned (.bool (Pl.blank c)) ∧ w = w' := by
  rcases blank_cases c with ⟨h, hb⟩ | ⟨h, h9, hb⟩ | ⟨h, h9, hb⟩ <;> rw [hb] <;> clear hb
  all_goals
    go_enter Try.func29, Try.ntmps29
    go_wp2
    go_ret
    exact ⟨rfl, rfl⟩
theorem implTooLong (s : ByteArray) (w : World) (_hs : s.size ≤ 1100000) :
    Calls Try.prog 24 #[.string s] w fun e w' => e = .returned (.bool (decide ((100000 : Int) < (s.size : Int)))) ∧ w = w' := by
  go_enter Try.func24, Try.ntmps24
  go_wp2
  go_ret
  exact ⟨rfl, rfl⟩
end Go.Proofs.Ytocajpfdlbgiaal
