
/- What a head's sum is told of, the specification's side. -/
import Derived.Test.YtgabjiamabbheaaGreatDoorPick
import Derived.Test.YtgabjiamabbheaaGreatDoorCanonFieldSpec
import Derived.Test.YtgabjiamabbheaaGreatDoorSignBoth
namespace Go.Proofs.YtgabjiamabbheaaGreatDoor
open Go.RowKit Go.Lib
set_option maxRecDepth 10000 in
set_option maxHeartbeats 1000000 in
theorem specSame (n m : ByteArray) (w : World) (hn : n.size ≤ 100000) (hm : m.size ≤ 100000) :
    Calls Tryz.prog 44 #[.string n, .string m] w fun e w' => e = .returned (.bool (namedB n m)) ∧ Below w.heap.size w w' := by
  have hA := fun w => specLower n w hn
  have hB := fun w => specLower m w hm
  have HE : Hid (namedB n m = ((⟨(lower n.data.toList).toArray⟩ : ByteArray).data.toList == (⟨(lower m.data.toList).toArray⟩ : ByteArray).data.toList)) := rfl
  generalize (⟨(lower n.data.toList).toArray⟩ : ByteArray) = ta at *
  generalize (⟨(lower m.data.toList).toArray⟩ : ByteArray) = tb at *
  have HA := (show Hid _ from hA)
  have HB := (show Hid _ from hB)
  clear hA hB
  go_enter Tryz.func44, Tryz.ntmps44
  go_wp2_with fail
  refine (HA.out _).mono ?_
  rintro e w1 ⟨rfl, hb1⟩
  go_wp2_with fail
  refine (HB.out _).mono ?_
  rintro e w2 ⟨rfl, hb2⟩
  have hbq := hb1.trans (hb2.mono hb1.size)
  go_wp2
  go_ret
  rw [HE.out, ← ByteArray.toList_eq, ← ByteArray.toList_eq]
  exact ⟨rfl, hbq⟩
end Go.Proofs.YtgabjiamabbheaaGreatDoor
