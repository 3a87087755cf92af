
/- The program's FilterFault, and the law. -/
import Derived.Test.YtmpakfpmcohcgaaNodeIsF
namespace Go.Proofs.Ytmpakfpmcohcgaa
open Go.RowKit Go.Lib Go.Maps
theorem implForm (b : Bool) (w : World) : Calls Try.prog 12 #[.bool b] w fun e w' => e = .returned (.int .i64 (Fn.code b)) ∧ w' = w := by
  cases b
  · go_enter Try.func12, Try.ntmps12
    go_wp2
    go_ret
    exact ⟨rfl, rfl⟩
  · go_enter Try.func12, Try.ntmps12
    go_wp2
    go_ret
    exact ⟨rfl, rfl⟩
set_option maxHeartbeats 2000000 in
set_option maxRecDepth 20000 in
theorem implFault (o : Option Addr) (F : List Nd) (cap : Nat) (w : World) (hF : Nds w.heap.size w o F) (hlF : F.length ≤ 1048576) (hfit : ∀ n ∈ F, n.fits 1048576) :
    Calls Try.prog 7 #[.slice o F.length cap] w fun e w' => e = .returned (.int .i64 (Fn.code (Fn.good F))) ∧ Below w.heap.size w w' := by
  have hI := mkHid (implIsFilter o F cap w hF hlF hfit)
  rw [Fn.good_isP]
  clear hF hfit
  generalize Fn.isP F = b at *
  obtain ⟨c, hc⟩ : ∃ c, Fn.code b = c := ⟨_, rfl⟩
  have hFm := mkHid (fun w => implForm b w)
  rw [hc] at hFm ⊢
  clear hc
  go_enter Try.func7, Try.ntmps7
  go_wp2_with fail
  refine hI.out.mono ?_
  rintro e w1 ⟨rfl, hb1⟩
  go_wp2_with fail
  refine (hFm.out w1).mono ?_
  rintro e w2 ⟨rfl, rfl⟩
  go_wp2
  go_ret
  exact ⟨rfl, hb1⟩
set_option maxHeartbeats 2000000 in
set_option maxRecDepth 20000 in
theorem faultWalk (o : Option Addr) (F : List Nd) (cap : Nat) (w : World) (hF : Nds w.heap.size w o F) (hlen : F.length ≤ maxLen) (hsz : ∀ f ∈ F, f.fits maxLen) :
    Calls Try.prog 3 #[.slice o F.length cap] w fun e w' => e = .returned (.bool true) ∧ Below w.heap.size w w' := by
  have hS := mkH (lawSzNodes o F cap w hF hlen hsz)
  have HF := mkH hF
  clear hF hsz
  unfold maxLen at hlen
  go_enter Try.func3, Try.ntmps3
  go_wp2_with fail
  refine hS.out.mono ?_
  rintro e w1 ⟨r, rfl, hr, hb1⟩
  clear hS
  rcases hr.out with rfl | ⟨h0, hl, hf⟩
  · go_wp2
    go_ret
    exact ⟨rfl, hb1⟩
  · clear hr
    have hfH := mkH hf
    clear hf
    have cT := mkH (lawToNodes o F cap w1 ((HF.out.below hb1).mono hb1.size) hl hfH.out)
    go_wp2_with fail
    refine cT.out.mono ?_
    rintro e w2 ⟨rfl, n2, hb2⟩
    have hB2 := hb1.trans (hb2.mono hb1.size)
    have cS := mkH (specFault (some ⟨w1.heap.size, 0, none⟩) F F.length w2 n2.out hl hfH.out)
    clear cT n2 hb1 hb2
    go_wp2_with fail
    refine cS.out.mono ?_
    rintro e w3 ⟨rfl, hb3⟩
    have hB3 := hB2.trans (hb3.mono hB2.size)
    clear cS hb3 hB2
    have cT := mkH (lawToNodes o F cap w3 ((HF.out.below hB3).mono hB3.size) hl hfH.out)
    go_wp2_with fail
    refine cT.out.mono ?_
    rintro e w4 ⟨rfl, n4, hb4⟩
    have hB4 := hB3.trans (hb4.mono hB3.size)
    have cI := mkH (implFault (some ⟨w3.heap.size, 0, none⟩) F F.length w4 n4.out hl hfH.out)
    clear cT hB3 hb4
    go_wp2_with fail
    refine cI.out.mono ?_
    rintro e w5 ⟨rfl, hb5⟩
    have hB5 := hB4.trans (hb5.mono hB4.size)
    have n5 := mkH ((n4.out.below hb5).mono hb5.size)
    clear cI n4 hb5 hB4
    have cT := mkH (lawToNodes o F cap w5 ((HF.out.below hB5).mono hB5.size) hl hfH.out)
    generalize Fn.code (Fn.good F) = z at *
    have z1 : (z != z) = false := by simp
    go_wp2_with fail
    refine cT.out.mono ?_
    rintro e w6 ⟨rfl, n6, hb6⟩
    have hB6 := hB5.trans (hb6.mono hB5.size)
    have m6 := mkH ((n5.out.below hb6).mono hb6.size)
    have cE := mkH (lawEqNodes (some ⟨w3.heap.size, 0, none⟩) (some ⟨w5.heap.size, 0, none⟩) F F.length F.length w6 m6.out n6.out hl hfH.out)
    clear cT n5 n6 m6 hb6 hB5
    go_wp2_with fail
    refine cE.out.mono ?_
    rintro e w7 ⟨rfl, hb7⟩
    have hB7 := mkH (hB6.trans (hb7.mono hB6.size))
    clear cE hb7 hB6
    go_wp2
    go_ret
    exact ⟨rfl, hB7.out⟩
end Go.Proofs.Ytmpakfpmcohcgaa
