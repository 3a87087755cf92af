
/- Domains that begin with no bracket, both sides. -/
import Derived.Test.YthgjflgidalmlaaDoorDomain
import Derived.Test.YthgjflgidalmlaaDoorLow
namespace Go.Proofs.YthgjflgidalmlaaDoor
open Go.RowKit Go.Lib
namespace Ky
def open_ (d : ByteArray) : Bool := d.data.toList[0]?.getD 0 == 91
def dok (d : ByteArray) : Bool := Pl.domI d.data.toList && !open_ d
theorem dom_pos (d : ByteArray) (h : Pl.domI d.data.toList = true) : 0 < d.size := by
  by_cases h0 : 0 < d.size
  · exact h0
  · have : d.data.toList = [] := List.length_eq_zero_iff.1 (by
      have : d.data.toList.length = d.size := by simp
      omega)
    rw [this] at h
    exact absurd h (by decide)
def low (d : ByteArray) : ByteArray := ⟨(lower d.data.toList).toArray⟩
theorem dok_size (d : ByteArray) (h : dok d = true) : d.size ≤ 255 := by
  simp only [dok, Bool.and_eq_true, Pl.domI, decide_eq_true_eq] at h
  have : d.data.toList.length = d.size := by simp
  omega
theorem ne_of_false (a b : ByteArray) (h : (a.toList == b.toList) = false) : (a.toList != b.toList) = true := by rw [bne, h]; rfl
theorem ne_of_true (a b : ByteArray) (h : (a.toList == b.toList) = true) : (a.toList != b.toList) = false := by rw [bne, h]; rfl
end Ky
theorem Ky.fst (d : ByteArray) (h : 0 < d.size) : Ky.open_ d = ((d[0].toNat : Int) == 91) := by
  have hl : 0 < d.data.toList.length := by simpa using h
  unfold Ky.open_
  rw [List.getElem?_eq_getElem hl, Option.getD_some, Bool.eq_iff_iff, beq_iff_eq, beq_iff_eq]
  constructor
  · intro e
    have e' : d[0] = 91 := e
    rw [e']
    rfl
  · intro e
    have e' : d[0].toNat = 91 := by omega
    exact UInt8.toNat_inj.1 e'
set_option maxHeartbeats 1000000 in
theorem implDomainName (d : ByteArray) (m : Int) (w : World) (hs : d.size ≤ 1100000) (hm : w.cell? ⟨0, 0, none⟩ = some (.int .i64 m)) :
    Calls Tryd.prog 53 #[.string d] w fun e w' => e = .returned (.bool (Ky.dok d)) ∧ Below w.heap.size w w' := by
  have hD := mkH (implDomain d m w hs hm)
  have hP := mkH (fun w => Tryd.strings_HasPrefix d ⟨#[91]⟩ w)
  have ho : hasPrefix d.data.toList [91] = Ky.open_ d := by
    unfold hasPrefix Ky.open_
    cases d.data.toList with
    | nil => rfl
    | cons c r =>
      rw [List.getElem?_cons_zero, Option.getD_some, List.isPrefixOf, List.isPrefixOf, Bool.and_true, Bool.eq_iff_iff, beq_iff_eq, beq_iff_eq]
      exact ⟨fun e => e.symm, fun e => e.symm⟩
  rw [show (ByteArray.mk #[91]).data.toList = [91] from rfl, ho] at hP
  clear ho hm
  unfold Ky.dok
  generalize Ky.open_ d = b2 at *
  generalize Pl.domI d.data.toList = b1 at *
  cases b1 <;> cases b2
  all_goals
    go_enter Tryd.func53, Tryd.ntmps53
    go_wp2_with first | (go_at_call 15; go_must (refine hD.out.mono ?_; rintro e w2 ⟨rfl, hb2⟩)) | (go_at_call 39; go_must (refine (hP.out _).mono ?_; rintro e w3 ⟨rfl, rfl⟩))
    go_ret
    exact ⟨rfl, hb2⟩
end Go.Proofs.YthgjflgidalmlaaDoor
