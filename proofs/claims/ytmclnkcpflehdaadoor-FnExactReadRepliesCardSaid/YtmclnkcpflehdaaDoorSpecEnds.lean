
/- The specification's l01Ends, asked for a line end. -/
import Derived.Test.YtmclnkcpflehdaaDoorStuffBoth
namespace Go.Proofs.YtmclnkcpflehdaaDoor
open Go.RowKit Go.Lib
/-- Whether a text ends with a line end. -/
def endsLine (s : ByteArray) : Bool := decide (2 ≤ s.size) && ((s.extract (s.size - 2) s.size).toList == ([13, 10] : List UInt8))
set_option maxHeartbeats 1000000 in
theorem specEnds (s : ByteArray) (w : World) (_hs : s.size ≤ 1100000) :
    Calls Tryd.prog 9 #[.string s, .string ⟨#[13, 10]⟩] w fun e w' => e = .returned (.bool (endsLine s)) ∧ w = w' := by
  by_cases h : 2 ≤ s.size
  · have h2 : decide ((2 : Int) ≤ (s.size : Int)) = true := by simp; omega
    have e : endsLine s = ((s.extract (s.size - 2) s.size).toList == ([13, 10] : List UInt8)) := by
      unfold endsLine
      rw [decide_eq_true h, Bool.true_and]
    have hn : ((s.size : Int) - 2).toNat = s.size - 2 := by omega
    have h3 : (0 : Int) ≤ (s.size : Int) - 2 := by omega
    rw [e]
    clear e
    go_enter Tryd.func9, Tryd.ntmps9
    go_wp2
    go_ret
    exact ⟨rfl, rfl⟩
  · have h2 : decide ((2 : Int) ≤ (s.size : Int)) = false := by simp; omega
    have e : endsLine s = false := by
      unfold endsLine
      rw [decide_eq_false h, Bool.false_and]
    rw [e]
    clear e
    go_enter Tryd.func9, Tryd.ntmps9
    go_wp2
    go_ret
    exact ⟨rfl, rfl⟩
end Go.Proofs.YtmclnkcpflehdaaDoor
