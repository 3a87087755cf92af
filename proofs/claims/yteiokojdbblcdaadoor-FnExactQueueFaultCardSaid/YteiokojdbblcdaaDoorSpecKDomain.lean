
/- Domains that begin with no bracket: the specification's side. -/
import Derived.Test.YteiokojdbblcdaaDoorSpecKeyFault
namespace Go.Proofs.YteiokojdbblcdaaDoor
open Go.RowKit Go.Lib Go.Maps
set_option maxHeartbeats 1000000 in
theorem specKDomain (d : ByteArray) (w : World) (hs : d.size ≤ 1100000) :
    Calls Tryd.prog 12 #[.string d] w fun e w' => e = .returned (.bool (Ky.dok d)) ∧ Below w.heap.size w w' := by
  have hD := mkH (specDomain d w hs)
  obtain ⟨R, hR⟩ : ∃ R, Ky.dok d = R := ⟨_, rfl⟩
  rw [hR]
  replace hR := mkH hR
  cases hd : Pl.domI d.data.toList
  · rw [hd] at hD
    have hr : Hid (R = false) := show _ = _ from by rw [← hR.out, Ky.dok, hd, Bool.false_and]
    clear hd
    go_enter Tryd.func12, Tryd.ntmps12
    go_wp2_with fail
    refine hD.out.mono ?_
    rintro e w1 ⟨rfl, hb1⟩
    simp only [dcode]
    go_wp2
    go_ret
    rw [hr.out]
    exact ⟨rfl, hb1⟩
  · rw [hd] at hD
    have hp := Ky.dom_pos d hd
    have hpI : (0 : Int) < (d.size : Int) := by omega
    have h8 : d[0].toNat < 256 := UInt8.toNat_lt _
    obtain ⟨bo, hbo⟩ : ∃ b, ((d[0].toNat : Int) == 91) = b := ⟨_, rfl⟩
    have hr : Hid (R = !bo) := show _ = _ from by rw [← hR.out, Ky.dok, hd, Bool.true_and, Ky.fst d hp, hbo]
    have hbn : ((d[0].toNat : Int) != 91) = !bo := by rw [bne, hbo]
    clear hd hR
    cases bo
    all_goals
      simp only [Bool.not_false, Bool.not_true] at hbn
      go_enter Tryd.func12, Tryd.ntmps12
      go_wp2_with fail
      refine hD.out.mono ?_
      rintro e w1 ⟨rfl, hb1⟩
      simp only [dcode]
      go_wp2
      go_ret
      rw [hr.out]
      exact ⟨rfl, hb1⟩
end Go.Proofs.YteiokojdbblcdaaDoor
