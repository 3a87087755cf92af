
/- The law on AccessFault; wants a text ImplAccessFault with specAccessFault and implAccessFault. (By tools/gen/listlaw.py.) -/
import Derived.Test.YtomncfpnpbncoaaImplAccessFault
namespace Go.Proofs.Ytomncfpnpbncoaa
open Go.RowKit Go.Lib Go.Maps
set_option maxHeartbeats 4000000 in
set_option maxRecDepth 20000 in
theorem walkAccessFault (o : Option Addr) (F : List GAccessUser) (cap : Nat) (w : World) (hF : GAccessUsersL 0 w.heap.size w o F) (hlen : F.length ≤ maxLen) (hsz : ∀ f ∈ F, f.fits maxLen) :
    Calls Try.prog 3 #[.slice o F.length cap] w fun e w' => e = .returned (.bool true) ∧ Below w.heap.size w w' := by
  have hS := mkHid (lawSzSAccessUser o F cap 1048576 0 w hF hlen hsz (Nat.le_refl _))
  have HF := mkHid hF
  clear hF hsz
  unfold maxLen at hlen
  go_enter Try.func3, Try.ntmps3
  go_wp2_with fail
  refine hS.out.mono ?_
  rintro e w1 ⟨r, rfl, hr, hb1⟩
  clear hS
  rcases hr.out with rfl | ⟨m, rfl, _hm, hl, hf⟩
  · go_wp2
    go_ret
    exact ⟨rfl, hb1⟩
  · clear hr
    have hfH := mkHid hf
    clear hf
    have cT := mkHid (lawToSAccessUser o F cap 0 w1 ((HF.out.below hb1 (Nat.le_refl _)).mono (Nat.le_refl _) hb1.size) hl hfH.out)
    go_wp2_with fail
    refine cT.out.mono ?_
    rintro e w2 ⟨rfl, n2, hb2⟩
    have hB2 := hb1.trans (hb2.mono hb1.size)
    have cS := mkHid (specAccessFault (some ⟨w1.heap.size, 0, none⟩) F F.length _ w2 n2.out hl hfH.out)
    clear cT n2 hb1 hb2
    go_wp2_with fail
    refine cS.out.mono ?_
    rintro e w3 ⟨rfl, hb3⟩
    have hB3 := hB2.trans (hb3.mono hB2.size)
    clear cS hb3 hB2
    have cT := mkHid (lawToSAccessUser o F cap 0 w3 ((HF.out.below hB3 (Nat.le_refl _)).mono (Nat.le_refl _) hB3.size) hl hfH.out)
    go_wp2_with fail
    refine cT.out.mono ?_
    rintro e w4 ⟨rfl, n4, hb4⟩
    have hB4 := hB3.trans (hb4.mono hB3.size)
    have cI := mkHid (implAccessFault (some ⟨w3.heap.size, 0, none⟩) F F.length _ w4 n4.out hl hfH.out)
    clear cT hB3 hb4
    go_wp2_with fail
    refine cI.out.mono ?_
    rintro e w5 ⟨rfl, hb5⟩
    have hB5 := hB4.trans (hb5.mono hB4.size)
    have n5 := mkHid ((n4.out.below hb5 (Nat.le_refl _)).mono (Nat.le_refl _) hb5.size)
    clear cI n4 hb5 hB4
    have cT := mkHid (lawToSAccessUser o F cap 0 w5 ((HF.out.below hB5 (Nat.le_refl _)).mono (Nat.le_refl _) hB5.size) hl hfH.out)
    generalize plAccessFault F = z at *
    have z1 : (z != z) = false := by simp
    go_wp2_with fail
    refine cT.out.mono ?_
    rintro e w6 ⟨rfl, n6, hb6⟩
    have hB6 := hB5.trans (hb6.mono hB5.size)
    have m6 := mkHid ((n5.out.below hb6 (Nat.le_refl _)).mono (Nat.le_refl _) hb6.size)
    have cE := mkHid (lawEqSAccessUser (some ⟨w3.heap.size, 0, none⟩) (some ⟨w5.heap.size, 0, none⟩) F F.length F.length _ _ w6 m6.out n6.out hl hfH.out)
    clear cT n5 n6 m6 hb6 hB5
    go_wp2_with fail
    refine cE.out.mono ?_
    rintro e w7 ⟨rfl, hb7⟩
    have hB7 := mkHid (hB6.trans (hb7.mono hB6.size))
    clear cE hb7 hB6
    go_wp2
    go_ret
    exact ⟨rfl, hB7.out⟩
end Go.Proofs.Ytomncfpnpbncoaa
