
/- The program's FlagFault. -/
import Derived.Test.YtnfolnngnmiieaaImplFlag
namespace Go.Proofs.Ytnfolnngnmiieaa
open Go.RowKit Go.Lib Go.Maps
theorem implFlagFault (s : ByteArray) (w : World) (hs : s.size ≤ 1048576) : Calls Try.prog 48 #[.string s] w fun e w' => e = .returned (.int .i64 (plFlagFault s)) ∧ Below w.heap.size w w' := by
  have hN := mkHid (implNoFlag s w hs)
  unfold plFlagFault
  generalize St.flag s = b at *
  have hF := mkHid (implForm b w)
  go_enter Try.func48, Try.ntmps48
  cases b
  all_goals
    go_wp2_with first | (go_at_call 54; go_must (refine hN.out.mono ?_; rintro e w2 ⟨rfl, rfl⟩)) | (go_at_call 12; go_must (refine hF.out.mono ?_; rintro e w2 ⟨rfl, rfl⟩))
    go_ret
    exact ⟨rfl, Below.refl _ _⟩
end Go.Proofs.Ytnfolnngnmiieaa
