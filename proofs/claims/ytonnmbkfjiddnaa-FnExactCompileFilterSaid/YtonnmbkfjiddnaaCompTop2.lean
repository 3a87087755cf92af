
/- The specification's CompileFilter at a right filter. -/
import Derived.Test.YtonnmbkfjiddnaaCompTop
namespace Go.Proofs.Ytonnmbkfjiddnaa
open Go.RowKit Go.Lib Go.Maps
set_option maxHeartbeats 4000000 in
theorem specCompAt (F : List Nd) (o : Option Addr) (cap d m : Nat) (w : World) (hF : Nds w.heap.size w o F) (hlF : F.length ≤ 1048576) (hfit : ∀ n ∈ F, n.fits 1048576) (hg : Fn.code (Fn.good F) = 0) (hm : F.length = m + 1)
    (hW : Cp.Wf F d m) (hT : Fn.isTest (Fn.kindAt F (m : Int)) = false) (L : List Cd) (hL : Cp.code F d m 0 = L) (hl : L.length ≤ 12000) :
    Calls Try.prog 5 #[.slice o F.length cap] w fun e w' => ∃ v E k, e = .returned v ∧ w.heap.size ≤ k ∧ Cw k v E w' ∧ E.map (·.1) = L ++ [Cp.zc 10 0] ∧ Below w.heap.size w w' := by
  have hS := mkHid (specFault o F cap w hF hlF hfit)
  have hD := mkHid (specDoAll F o cap hlF hfit d)
  have eI : (F.length : Int) - 1 = (m : Int) := by omega
  have hz := mkHid hg
  have HW := mkHid hW
  have HT := mkHid hT
  have HL := mkHid hl
  have HF := mkHid hF
  have HLe := mkHid hL
  have Hm := mkHid hm
  clear hF hfit hg hT hW hl hL hm
  go_enter Try.func5, Try.ntmps5
  go_wp2_with (go_at_call 14; fail)
  refine hS.out.mono ?_
  rintro e w1 ⟨rfl, hb1⟩
  rw [hz.out]
  have HB1 := mkHid hb1
  clear hb1
  obtain ⟨W, hW, hbW, hMW⟩ := made0 F o cap w1
  have hFW := mkHid (((HF.out.below HB1.out).mono HB1.out.size).below hbW)
  have k1 := mkHid (hD.out m w1.heap.size _ [] W HW.out HT.out hMW hFW.out (by
    have e : Cp.code F d m ([] : List Cd).length = L := HLe.out
    have := HL.out
    rw [e]
    simp only [List.length_nil]
    omega))
  have HW2 := mkHid hW
  have HBW := mkHid hbW
  have HMW := mkHid hMW
  clear hW hbW hMW
  go_wp2_with (go_at_call 15; fail)
  rw [HW2.out]
  refine k1.out.mono ?_
  rintro e w2 ⟨rfl, v2, hM2, hE2, hN2⟩
  have e0 : Hid (([] : List Cd) ++ Cp.code F d m ([] : List Cd).length = L) := show _ = _ from HLe.out
  rw [e0.out] at hM2
  have k2 := mkHid (specPut0 w1.heap.size _ v2 L 10 0 w2 hM2 (by have := HL.out; omega))
  have HB2 := mkHid (HBW.out.trans (HMW.out.low hE2))
  have HM2 := mkHid hM2
  clear hM2 hE2 hN2
  go_wp2_with (go_at_call 16; fail)
  refine k2.out.mono ?_
  rintro e w3 ⟨rfl, v3, hM3, hE3, hN3⟩
  have HB3 := mkHid (HB2.out.trans (HM2.out.low hE3))
  have gc := (two_cellsM hM3.blk).2
  have HM3 := mkHid hM3
  clear hM3 hE3 hN3
  go_wp2
  go_ret
  obtain ⟨E, hE, hMk⟩ := HM3.out
  exact ⟨v3, E, w1.heap.size + 1, rfl, Nat.le_succ_of_le HB1.out.size, hMk.cw, hE, HB1.out.trans (HB3.out.mono HB1.out.size)⟩
theorem specCompGood (F : List Nd) (o : Option Addr) (cap : Nat) (w : World) (hF : Nds w.heap.size w o F) (hlF : F.length ≤ 1048576) (hfit : ∀ n ∈ F, n.fits 1048576) (hg : Fn.good F = true) :
    Calls Try.prog 5 #[.slice o F.length cap] w fun e w' => ∃ v E k, e = .returned v ∧ w.heap.size ≤ k ∧ Cw k v E w' ∧ E.map (·.1) = Cp.code F 20 (F.length - 1) 0 ++ [Cp.zc 10 0] ∧ Below w.heap.size w w' := by
  obtain ⟨h1, h2, h3, hW⟩ := Cp.good_wf F hg
  refine specCompAt F o cap 20 (F.length - 1) w hF hlF hfit (by rw [hg]; rfl) (by omega) hW ?_ _ rfl (Cp.good_len F hg 0)
  rw [show ((F.length - 1 : Nat) : Int) = (F.length : Int) - 1 by omega, h3]
  rfl
end Go.Proofs.Ytonnmbkfjiddnaa
