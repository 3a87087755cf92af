
/- Domains that begin with no bracket, both sides. -/
import Derived.Test.YtmpeflmfglbnnaaDoorDomain
import Derived.Test.YtmpeflmfglbnnaaDoorLow
namespace Go.Proofs.YtmpeflmfglbnnaaDoor
open Go.RowKit Go.Lib
namespace Ky
def open_ (d : ByteArray) : Bool := d.data.toList[0]?.getD 0 == 91
def dok (d : ByteArray) : Bool := Pl.domI d.data.toList && !open_ d
theorem dom_pos (d : ByteArray) (h : Pl.domI d.data.toList = true) : 0 < d.size := by
  by_cases h0 : 0 < d.size
  · exact h0
  · have : d.data.toList = [] := List.length_eq_zero_iff.1 (by
      have : d.data.toList.length = d.size := by simp
      omega)
    rw [this] at h
    exact absurd h (by decide)
def low (d : ByteArray) : ByteArray := ⟨(lower d.data.toList).toArray⟩
theorem dok_size (d : ByteArray) (h : dok d = true) : d.size ≤ 255 := by
  simp only [dok, Bool.and_eq_true, Pl.domI, decide_eq_true_eq] at h
  have : d.data.toList.length = d.size := by simp
  omega
theorem ne_of_false (a b : ByteArray) (h : (a.toList == b.toList) = false) : (a.toList != b.toList) = true := by rw [bne, h]; rfl
theorem ne_of_true (a b : ByteArray) (h : (a.toList == b.toList) = true) : (a.toList != b.toList) = false := by rw [bne, h]; rfl
end Ky
theorem Ky.fst (d : ByteArray) (h : 0 < d.size) : Ky.open_ d = ((d[0].toNat : Int) == 91) := by
  have hl : 0 < d.data.toList.length := by simpa using h
  unfold Ky.open_
  rw [List.getElem?_eq_getElem hl, Option.getD_some, Bool.eq_iff_iff, beq_iff_eq, beq_iff_eq]
  constructor
  · intro e
    have e' : d[0] = 91 := e
    rw [e']
    rfl
  · intro e
    have e' : d[0].toNat = 91 := by omega
    exact UInt8.toNat_inj.1 e'
set_option maxHeartbeats 1000000 in
theorem specKDomain (d : ByteArray) (w : World) (hs : d.size ≤ 1100000) :
    Calls Tryd.prog 10 #[.string d] w fun e w' => e = .returned (.bool (Ky.dok d)) ∧ Below w.heap.size w w' := by
  have hD := mkH (specDomain d w hs)
  obtain ⟨R, hR⟩ : ∃ R, Ky.dok d = R := ⟨_, rfl⟩
  rw [hR]
  replace hR := mkH hR
  cases hd : Pl.domI d.data.toList
  · rw [hd] at hD
    have hr : Hid (R = false) := show _ = _ from by rw [← hR.out, Ky.dok, hd, Bool.false_and]
    clear hd
    go_enter Tryd.func10, Tryd.ntmps10
    go_wp2_with fail
    refine hD.out.mono ?_
    rintro e w1 ⟨rfl, hb1⟩
    simp only [dcode]
    go_wp2
    go_ret
    rw [hr.out]
    exact ⟨rfl, hb1⟩
  · rw [hd] at hD
    have hp := Ky.dom_pos d hd
    have hpI : (0 : Int) < (d.size : Int) := by omega
    have h8 : d[0].toNat < 256 := UInt8.toNat_lt _
    obtain ⟨bo, hbo⟩ : ∃ b, ((d[0].toNat : Int) == 91) = b := ⟨_, rfl⟩
    have hr : Hid (R = !bo) := show _ = _ from by rw [← hR.out, Ky.dok, hd, Bool.true_and, Ky.fst d hp, hbo]
    have hbn : ((d[0].toNat : Int) != 91) = !bo := by rw [bne, hbo]
    clear hd hR
    cases bo
    all_goals
      simp only [Bool.not_false, Bool.not_true] at hbn
      go_enter Tryd.func10, Tryd.ntmps10
      go_wp2_with fail
      refine hD.out.mono ?_
      rintro e w1 ⟨rfl, hb1⟩
      simp only [dcode]
      go_wp2
      go_ret
      rw [hr.out]
      exact ⟨rfl, hb1⟩
set_option maxHeartbeats 1000000 in
theorem implDomainName (d : ByteArray) (m : Int) (w : World) (hs : d.size ≤ 1100000) (hm : w.cell? ⟨0, 0, none⟩ = some (.int .i64 m)) :
    Calls Tryd.prog 27 #[.string d] w fun e w' => e = .returned (.bool (Ky.dok d)) ∧ Below w.heap.size w w' := by
  have hD := mkH (implDomain d m w hs hm)
  have hP := mkH (fun w => Tryd.strings_HasPrefix d ⟨#[91]⟩ w)
  have ho : hasPrefix d.data.toList [91] = Ky.open_ d := by
    unfold hasPrefix Ky.open_
    cases d.data.toList with
    | nil => rfl
    | cons c r =>
      rw [List.getElem?_cons_zero, Option.getD_some, List.isPrefixOf, List.isPrefixOf, Bool.and_true, Bool.eq_iff_iff, beq_iff_eq, beq_iff_eq]
      exact ⟨fun e => e.symm, fun e => e.symm⟩
  rw [show (ByteArray.mk #[91]).data.toList = [91] from rfl, ho] at hP
  clear ho hm
  unfold Ky.dok
  generalize Ky.open_ d = b2 at *
  generalize Pl.domI d.data.toList = b1 at *
  cases b1 <;> cases b2
  all_goals
    go_enter Tryd.func27, Tryd.ntmps27
    go_wp2_with first | (go_at_call 36; go_must (refine hD.out.mono ?_; rintro e w2 ⟨rfl, hb2⟩)) | (go_at_call 37; go_must (refine (hP.out _).mono ?_; rintro e w3 ⟨rfl, rfl⟩))
    go_ret
    exact ⟨rfl, hb2⟩
set_option maxHeartbeats 1000000 in
theorem implLocalDomain (d : ByteArray) (mx : Int) (w : World) (hs : d.size ≤ 1048576) (hm : w.cell? ⟨0, 0, none⟩ = some (.int .i64 mx)) :
    Calls Tryd.prog 17 #[.string d] w fun e w' => e = .returned (.bool (Ky.dok d && ((Ky.low d).toList == d.toList))) ∧ Below w.heap.size w w' := by
  have hD := mkH (implDomainName d mx w (by omega) hm)
  clear hm
  cases x1 : Ky.dok d
  · rw [x1] at hD
    go_enter Tryd.func17, Tryd.ntmps17
    go_wp2_with fail
    refine hD.out.mono ?_
    rintro e w2 ⟨rfl, hb2⟩
    go_wp2
    go_ret
    exact ⟨rfl, hb2⟩
  · rw [x1] at hD
    have hds := Ky.dok_size d x1
    have hL := mkH (fun w => implLowered d w (by omega))
    rw [show (ByteArray.mk (lower d.data.toList).toArray) = Ky.low d from rfl] at hL
    generalize Ky.low d = lo at *
    clear x1 hds
    go_enter Tryd.func17, Tryd.ntmps17
    go_wp2_with fail
    refine hD.out.mono ?_
    rintro e w2 ⟨rfl, hb2⟩
    go_wp2_with fail
    refine (hL.out _).mono ?_
    rintro e w3 ⟨rfl, hb3⟩
    go_wp2
    go_ret
    exact ⟨by simp, hb2.trans (hb3.mono hb2.size)⟩
end Go.Proofs.YtmpeflmfglbnnaaDoor
