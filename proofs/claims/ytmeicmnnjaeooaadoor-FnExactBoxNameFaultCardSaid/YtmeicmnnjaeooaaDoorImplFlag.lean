
/- The program's bytes of flags and names, and its FlagFault. -/
import Derived.Test.YtmeicmnnjaeooaaDoorSpecFlag2
namespace Go.Proofs.YtmeicmnnjaeooaaDoor
open Go.RowKit Go.Lib Go.Maps
namespace St
def alpha (c : UInt8) : Bool := (decide (65 ≤ c.toNat) && decide (c.toNat ≤ 90)) || (decide (97 ≤ c.toNat) && decide (c.toNat ≤ 122))
def dig (c : UInt8) : Bool := decide (48 ≤ c.toNat) && decide (c.toNat ≤ 57)
def boxB (c : UInt8) : Bool := letter c || (c.toNat == 45 || c.toNat == 95)
theorem letter_eq (c : UInt8) : letter c = (alpha c || dig c) := by unfold letter alpha dig; rw [Bool.or_assoc]
theorem flagB_eq (c : UInt8) : flagB c = (c.toNat == 36 || boxB c) := by
  unfold flagB boxB
  cases letter c <;> cases (c.toNat == 36) <;> rfl
theorem range8 (k : Nat) : k < 48 ∨ 48 ≤ k ∧ k ≤ 57 ∨ 58 ≤ k ∧ k ≤ 64 ∨ 65 ≤ k ∧ k ≤ 90 ∨ 91 ≤ k ∧ k ≤ 96 ∨ 97 ≤ k ∧ k ≤ 122 ∨ 123 ≤ k := by omega
end St
theorem implAlpha (c : UInt8) (w : World) : Calls Tryd.prog 21 #[.int .u8 (c.toNat : Int)] w fun e w' => e = .returned (.bool (St.alpha c)) ∧ w = w' := by
  have h8 : c.toNat < 256 := UInt8.toNat_lt _
  unfold St.alpha
  generalize c.toNat = k at *
  rcases St.range8 k with h | h | h | h | h | h | h
  all_goals
    first | rw [show ((decide (65 ≤ k) && decide (k ≤ 90)) || (decide (97 ≤ k) && decide (k ≤ 122))) = true by simp; omega] | rw [show ((decide (65 ≤ k) && decide (k ≤ 90)) || (decide (97 ≤ k) && decide (k ≤ 122))) = false by simp; omega]
    go_enter Tryd.func21, Tryd.ntmps21
    go_wp2
    go_ret
    exact ⟨by first | rfl | exact congrArg (fun b => Ending.returned (.bool b)) (by simp; omega), rfl⟩
theorem implDig (c : UInt8) (w : World) : Calls Tryd.prog 22 #[.int .u8 (c.toNat : Int)] w fun e w' => e = .returned (.bool (St.dig c)) ∧ w = w' := by
  have h8 : c.toNat < 256 := UInt8.toNat_lt _
  unfold St.dig
  generalize c.toNat = k at *
  rcases St.range8 k with h | h | h | h | h | h | h
  all_goals
    first | rw [show (decide (48 ≤ k) && decide (k ≤ 57)) = true by simp; omega] | rw [show (decide (48 ≤ k) && decide (k ≤ 57)) = false by simp; omega]
    go_enter Tryd.func22, Tryd.ntmps22
    go_wp2
    go_ret
    exact ⟨by first | rfl | exact congrArg (fun b => Ending.returned (.bool b)) (by simp; omega), rfl⟩
set_option maxHeartbeats 1000000 in
theorem implBoxB (c : UInt8) (w : World) : Calls Tryd.prog 17 #[.int .u8 (c.toNat : Int)] w fun e w' => e = .returned (.bool (St.boxB c)) ∧ w = w' := by
  have h8 : c.toNat < 256 := UInt8.toNat_lt _
  have hL := mkHid (implAlpha c w)
  have hD := mkHid (implDig c w)
  unfold St.boxB
  rw [St.letter_eq, ← St.beq45 c.toNat, ← St.beq95 c.toNat]
  cases hl : St.alpha c <;> cases hd : St.dig c <;> cases h45 : ((c.toNat : Int) == 45) <;> cases h95 : ((c.toNat : Int) == 95)
  all_goals
    rw [hl] at hL
    rw [hd] at hD
    clear hl hd
    go_enter Tryd.func17, Tryd.ntmps17
    go_wp2_with first | (go_at_call 21; go_must (refine hL.out.mono ?_; rintro e w2 ⟨rfl, rfl⟩)) | (go_at_call 22; go_must (refine hD.out.mono ?_; rintro e w2 ⟨rfl, rfl⟩))
    go_ret
    exact ⟨rfl, rfl⟩
theorem kindBoxB : Kind 17 St.boxB := ⟨Go.Proofs.enters_of Tryd.func17 (by kernel_rfl) rfl, implBoxB⟩
theorem implForm (b : Bool) (w : World) : Calls Tryd.prog 7 #[.bool b] w fun e w' => e = .returned (.int .i64 (St.code b)) ∧ w = w' := by
  cases b
  all_goals
    go_enter Tryd.func7, Tryd.ntmps7
    go_wp2
    go_ret
    exact ⟨rfl, rfl⟩
end Go.Proofs.YtmeicmnnjaeooaaDoor
