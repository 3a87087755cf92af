
/- The specification's CompileFilter. -/
import Derived.Test.YtonnmbkfjiddnaaCompInd
import Derived.Test.YtonnmbkfjiddnaaCompSpec3
namespace Go.Proofs.Ytonnmbkfjiddnaa
open Go.RowKit Go.Lib Go.Maps
set_option maxHeartbeats 4000000 in
theorem specCompBad (F : List Nd) (o : Option Addr) (cap : Nat) (w : World) (hF : Nds w.heap.size w o F) (hlF : F.length ≤ 1048576) (hfit : ∀ n ∈ F, n.fits 1048576) (hg : Fn.good F = false) :
    Calls Try.prog 5 #[.slice o F.length cap] w fun e w' => (∃ g, e = .returned (.slice (some ⟨g, 0, none⟩) 0 0)) ∧ Below w.heap.size w w' := by
  have hS := mkHid (specFault o F cap w hF hlF hfit)
  have hz : Hid (Fn.code (Fn.good F) = 1) := show _ = _ by rw [hg]; rfl
  clear hF hfit
  go_enter Try.func5, Try.ntmps5
  go_wp2_with (go_at_call 14; fail)
  refine hS.out.mono ?_
  rintro e w1 ⟨rfl, hb1⟩
  rw [hz.out]
  have HB := mkHid hb1
  clear hb1
  go_wp2
  go_ret
  exact ⟨⟨_, rfl⟩, HB.out.alloc HB.out.size _⟩
/-- The maker at its start. -/
theorem made0 (F : List Nd) (o : Option Addr) (cap : Nat) (w : World) : ∃ W, w.alloc (.cells #[.slice o F.length cap, .slice none 0 0] 41) = W ∧ Below w.heap.size w W ∧ Mc 41 w.heap.size (.slice o F.length cap) (.slice none 0 0) [] W :=
  ⟨_, rfl, (Below.refl _ _).alloc (Nat.le_refl _) _, [], rfl, ⟨heap_alloc_at _ _, Cw.nil _ _⟩⟩
end Go.Proofs.Ytonnmbkfjiddnaa
