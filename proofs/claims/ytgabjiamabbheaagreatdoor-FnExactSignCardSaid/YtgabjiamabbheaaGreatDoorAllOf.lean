
/- The kinds: none of a line end's bytes; a blank. -/
import Derived.Test.YtgabjiamabbheaaGreatDoorBlank
namespace Go.Proofs.YtgabjiamabbheaaGreatDoor
open Go.RowKit Go.Lib
set_option maxRecDepth 20000 in
theorem implLineByte (c : UInt8) (w : World) : Calls Tryz.prog 106 #[.int .u8 (c.toNat : Int)] w fun e w' => e = .returned (.bool (Pl.lb c)) ∧ w = w' := by
  have h8 : c.toNat < 256 := UInt8.toNat_lt _
  cases h13 : ((c.toNat : Int) == 13)
  · have hn : ((c.toNat : Int) != 13) = true := by rw [bne, h13]; rfl
    cases h10 : ((c.toNat : Int) == 10)
    · have hm : ((c.toNat : Int) != 10) = true := by rw [bne, h10]; rfl
      rw [show Pl.lb c = true from by simp [Pl.lb, Pl.byte_ne c 13 _ rfl h13, Pl.byte_ne c 10 _ rfl h10]]
      go_enter Tryz.func106, Tryz.ntmps106
      go_wp2
      go_ret
      exact ⟨rfl, rfl⟩
    · have hm : ((c.toNat : Int) != 10) = false := by rw [bne, h10]; rfl
      rw [show Pl.lb c = false from by rw [Pl.byte_eq c 10 _ rfl h10]; rfl]
      go_enter Tryz.func106, Tryz.ntmps106
      go_wp2
      go_ret
      exact ⟨rfl, rfl⟩
  · have hn : ((c.toNat : Int) != 13) = false := by rw [bne, h13]; rfl
    rw [show Pl.lb c = false from by rw [Pl.byte_eq c 13 _ rfl h13]; rfl]
    go_enter Tryz.func106, Tryz.ntmps106
    go_wp2
    go_ret
    exact ⟨rfl, rfl⟩
set_option maxRecDepth 20000 in
theorem kindLine : Kind 106 Pl.lb := ⟨Go.Proofs.enters_of Tryz.func106 (by kernel_rfl) rfl, implLineByte⟩
set_option maxRecDepth 20000 in
theorem kindBlank : Kind 103 Pl.blank := ⟨Go.Proofs.enters_of Tryz.func103 (by kernel_rfl) rfl, implBlank⟩
end Go.Proofs.YtgabjiamabbheaaGreatDoor
