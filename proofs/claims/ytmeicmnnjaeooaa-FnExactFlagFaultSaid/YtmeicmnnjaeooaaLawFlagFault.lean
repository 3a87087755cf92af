
/- The law on FlagFault; wants a text ImplFlagFault with specFlagFault and implFlagFault. (By tools/gen/scalarlaw.py.) -/
import Derived.Test.YtmeicmnnjaeooaaImplFlagFault
namespace Go.Proofs.Ytmeicmnnjaeooaa
open Go.RowKit Go.Lib Go.Maps
set_option maxHeartbeats 2000000 in
theorem walkFlagFault (s0 : ByteArray) (w : World) (hl0 : s0.size ≤ maxLen) :
    Calls Try.prog 3 #[.string s0] w fun e w' => e = .returned (.bool true) ∧ Below w.heap.size w w' := by
  unfold maxLen at hl0
  by_cases hs0 : 1048576 < s0.size
  · go_enter Try.func3, Try.ntmps3
    go_wp2
    go_ret
    exact ⟨rfl, Below.refl _ _⟩
  replace hs0 : s0.size ≤ 1048576 := by omega
  have cS := mkHid (specFlagFault s0 w hs0)
  go_enter Try.func3, Try.ntmps3
  go_wp2_with fail
  refine cS.out.mono ?_
  rintro e w1 ⟨rfl, hb1⟩
  have cI := mkHid (implFlagFault s0 w1 hs0)
  clear cS
  go_wp2_with fail
  refine cI.out.mono ?_
  rintro e w2 ⟨rfl, hb2⟩
  have hbe := mkHid (hb1.trans (hb2.mono hb1.size))
  clear cI
  generalize plFlagFault s0 = z at *
  have z1 : (z != z) = false := by simp
  go_wp2
  go_ret
  exact ⟨rfl, hbe.out⟩
end Go.Proofs.Ytmeicmnnjaeooaa
