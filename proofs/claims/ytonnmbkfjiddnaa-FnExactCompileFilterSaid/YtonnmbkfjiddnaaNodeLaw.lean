
/- The program's FilterFault, and the law. -/
import Derived.Test.YtonnmbkfjiddnaaNodeIsF
namespace Go.Proofs.Ytonnmbkfjiddnaa
open Go.RowKit Go.Lib Go.Maps
theorem implForm (b : Bool) (w : World) : Calls Try.prog 36 #[.bool b] w fun e w' => e = .returned (.int .i64 (Fn.code b)) ∧ w' = w := by
  cases b
  · go_enter Try.func36, Try.ntmps36
    go_wp2
    go_ret
    exact ⟨rfl, rfl⟩
  · go_enter Try.func36, Try.ntmps36
    go_wp2
    go_ret
    exact ⟨rfl, rfl⟩
set_option maxHeartbeats 2000000 in
set_option maxRecDepth 20000 in
theorem implFault (o : Option Addr) (F : List Nd) (cap : Nat) (w : World) (hF : Nds w.heap.size w o F) (hlF : F.length ≤ 1048576) (hfit : ∀ n ∈ F, n.fits 1048576) :
    Calls Try.prog 18 #[.slice o F.length cap] w fun e w' => e = .returned (.int .i64 (Fn.code (Fn.good F))) ∧ Below w.heap.size w w' := by
  have hI := mkHid (implIsFilter o F cap w hF hlF hfit)
  rw [Fn.good_isP]
  clear hF hfit
  generalize Fn.isP F = b at *
  obtain ⟨c, hc⟩ : ∃ c, Fn.code b = c := ⟨_, rfl⟩
  have hFm := mkHid (fun w => implForm b w)
  rw [hc] at hFm ⊢
  clear hc
  go_enter Try.func18, Try.ntmps18
  go_wp2_with fail
  refine hI.out.mono ?_
  rintro e w1 ⟨rfl, hb1⟩
  go_wp2_with fail
  refine (hFm.out w1).mono ?_
  rintro e w2 ⟨rfl, rfl⟩
  go_wp2
  go_ret
  exact ⟨rfl, hb1⟩
end Go.Proofs.Ytonnmbkfjiddnaa
