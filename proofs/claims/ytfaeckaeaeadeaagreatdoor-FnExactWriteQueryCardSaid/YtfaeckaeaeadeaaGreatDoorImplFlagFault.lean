
/- The program's bytes of flags and names, and its FlagFault. -/

/- The program's FlagFault. -/
import Derived.Test.YtfaeckaeaeadeaaGreatDoorSpecFlag2
namespace Go.Proofs.YtfaeckaeaeadeaaGreatDoor
open Go.RowKit Go.Lib Go.Maps
namespace St
def alpha (c : UInt8) : Bool := (decide (65 ≤ c.toNat) && decide (c.toNat ≤ 90)) || (decide (97 ≤ c.toNat) && decide (c.toNat ≤ 122))
def dig (c : UInt8) : Bool := decide (48 ≤ c.toNat) && decide (c.toNat ≤ 57)
def boxB (c : UInt8) : Bool := letter c || (c.toNat == 45 || c.toNat == 95)
set_option maxRecDepth 20000 in
theorem letter_eq (c : UInt8) : letter c = (alpha c || dig c) := by unfold letter alpha dig; rw [Bool.or_assoc]
set_option maxRecDepth 20000 in
theorem flagB_eq (c : UInt8) : flagB c = (c.toNat == 36 || boxB c) := by
  unfold flagB boxB
  cases letter c <;> cases (c.toNat == 36) <;> rfl
set_option maxRecDepth 20000 in
theorem range8 (k : Nat) : k < 48 ∨ 48 ≤ k ∧ k ≤ 57 ∨ 58 ≤ k ∧ k ≤ 64 ∨ 65 ≤ k ∧ k ≤ 90 ∨ 91 ≤ k ∧ k ≤ 96 ∨ 97 ≤ k ∧ k ≤ 122 ∨ 123 ≤ k := by omega
end St
set_option maxRecDepth 20000 in
theorem implAlpha (c : UInt8) (w : World) : Calls Tryz.prog 118 #[.int .u8 (c.toNat : Int)] w fun e w' => e = .returned (.bool (St.alpha c)) ∧ w = w' := by
  have h8 : c.toNat < 256 := UInt8.toNat_lt _
  unfold St.alpha
  generalize c.toNat = k at *
  rcases St.range8 k with h | h | h | h | h | h | h
  all_goals
    first | rw [show ((decide (65 ≤ k) && decide (k ≤ 90)) || (decide (97 ≤ k) && decide (k ≤ 122))) = true by simp; omega] | rw [show ((decide (65 ≤ k) && decide (k ≤ 90)) || (decide (97 ≤ k) && decide (k ≤ 122))) = false by simp; omega]
    go_enter Tryz.func118, Tryz.ntmps118
    go_wp2
    go_ret
    exact ⟨by first | rfl | exact congrArg (fun b => Ending.returned (.bool b)) (by simp; omega), rfl⟩
set_option maxRecDepth 20000 in
theorem implDig (c : UInt8) (w : World) : Calls Tryz.prog 119 #[.int .u8 (c.toNat : Int)] w fun e w' => e = .returned (.bool (St.dig c)) ∧ w = w' := by
  have h8 : c.toNat < 256 := UInt8.toNat_lt _
  unfold St.dig
  generalize c.toNat = k at *
  rcases St.range8 k with h | h | h | h | h | h | h
  all_goals
    first | rw [show (decide (48 ≤ k) && decide (k ≤ 57)) = true by simp; omega] | rw [show (decide (48 ≤ k) && decide (k ≤ 57)) = false by simp; omega]
    go_enter Tryz.func119, Tryz.ntmps119
    go_wp2
    go_ret
    exact ⟨by first | rfl | exact congrArg (fun b => Ending.returned (.bool b)) (by simp; omega), rfl⟩
set_option maxRecDepth 20000 in
set_option maxHeartbeats 1000000 in
theorem implBoxB (c : UInt8) (w : World) : Calls Tryz.prog 117 #[.int .u8 (c.toNat : Int)] w fun e w' => e = .returned (.bool (St.boxB c)) ∧ w = w' := by
  have h8 : c.toNat < 256 := UInt8.toNat_lt _
  have hL := mkHid (implAlpha c w)
  have hD := mkHid (implDig c w)
  unfold St.boxB
  rw [St.letter_eq, ← St.beq45 c.toNat, ← St.beq95 c.toNat]
  cases hl : St.alpha c <;> cases hd : St.dig c <;> cases h45 : ((c.toNat : Int) == 45) <;> cases h95 : ((c.toNat : Int) == 95)
  all_goals
    rw [hl] at hL
    rw [hd] at hD
    clear hl hd
    go_enter Tryz.func117, Tryz.ntmps117
    go_wp2_with first | (go_at_call 118; go_must (refine hL.out.mono ?_; rintro e w2 ⟨rfl, rfl⟩)) | (go_at_call 119; go_must (refine hD.out.mono ?_; rintro e w2 ⟨rfl, rfl⟩))
    go_ret
    exact ⟨rfl, rfl⟩
set_option maxRecDepth 20000 in
theorem implFlagB (c : UInt8) (w : World) : Calls Tryz.prog 116 #[.int .u8 (c.toNat : Int)] w fun e w' => e = .returned (.bool (St.flagB c)) ∧ w = w' := by
  have h8 : c.toNat < 256 := UInt8.toNat_lt _
  have hL := mkHid (implBoxB c w)
  rw [St.flagB_eq, ← St.beq36 c.toNat]
  cases hl : St.boxB c <;> cases h36 : ((c.toNat : Int) == 36)
  all_goals
    rw [hl] at hL
    clear hl
    go_enter Tryz.func116, Tryz.ntmps116
    go_wp2_with (go_at_call 117; go_must (refine hL.out.mono ?_; rintro e w2 ⟨rfl, rfl⟩))
    go_ret
    exact ⟨rfl, rfl⟩
set_option maxRecDepth 20000 in
theorem kindFlagB : Kind 116 St.flagB := ⟨Go.Proofs.enters_of Tryz.func116 (by kernel_rfl) rfl, implFlagB⟩
set_option maxRecDepth 20000 in
theorem kindBoxB : Kind 117 St.boxB := ⟨Go.Proofs.enters_of Tryz.func117 (by kernel_rfl) rfl, implBoxB⟩
set_option maxRecDepth 20000 in
theorem implForm (b : Bool) (w : World) : Calls Tryz.prog 29 #[.bool b] w fun e w' => e = .returned (.int .i64 (St.code b)) ∧ w = w' := by
  cases b
  all_goals
    go_enter Tryz.func29, Tryz.ntmps29
    go_wp2
    go_ret
    exact ⟨rfl, rfl⟩
set_option maxRecDepth 20000 in
set_option maxHeartbeats 2000000 in
theorem implNoFlag (s : ByteArray) (w : World) (hs : s.size ≤ 1048576) : Calls Tryz.prog 114 #[.string s] w fun e w' => e = .returned (.bool (!St.flag s)) ∧ w = w' := by
  have hA := mkHid (implAllOf kindFlagB s w (by omega))
  have htl : s.data.toList = s.toList := (ByteArray.toList_eq s).symm
  unfold St.flag
  cases hsy : St.sys s
  · rw [St.sys, htl] at hsy
    rw [Bool.or_eq_false_iff, Bool.or_eq_false_iff, Bool.or_eq_false_iff, Bool.or_eq_false_iff] at hsy
    obtain ⟨h1, h2, h3, h4, h5⟩ := hsy
    cases ha : s.data.toList.all St.flagB
    all_goals
      rw [ha] at hA
      clear ha
      by_cases h0 : s.size = 0
      · have he : (s.toList == []) = true := by
          rw [← htl]; simp; exact Array.eq_empty_of_size_eq_zero h0
        rw [show decide (1 ≤ s.size) = false from decide_eq_false (by omega)]
        clear htl h0
        go_enter Tryz.func114, Tryz.ntmps114
        go_wp2
        go_ret
        exact ⟨rfl, rfl⟩
      · have he : (s.toList == []) = false := by
          rw [← htl]; simp; intro e; apply h0; rw [ByteArray.size, e]; rfl
        rw [show decide (1 ≤ s.size) = true from decide_eq_true (by omega)]
        clear htl
        by_cases h30 : s.size ≤ 30
        · rw [decide_eq_true h30]
          have x1 : decide ((30 : Int) < (s.size : Int)) = false := decide_eq_false (by omega)
          go_enter Tryz.func114, Tryz.ntmps114
          go_wp2_with (go_at_call 107; go_must (refine hA.out.mono ?_; rintro e w2 ⟨rfl, rfl⟩))
          go_ret
          exact ⟨rfl, rfl⟩
        · rw [decide_eq_false h30]
          have x1 : decide ((30 : Int) < (s.size : Int)) = true := decide_eq_true (by omega)
          go_enter Tryz.func114, Tryz.ntmps114
          go_wp2_with (go_at_call 107; go_must (refine hA.out.mono ?_; rintro e w2 ⟨rfl, rfl⟩))
          go_ret
          exact ⟨rfl, rfl⟩
  · clear hA
    unfold St.sys at hsy
    rw [htl] at hsy
    cases h1 : (s.toList == [92, 83, 101, 101, 110])
    · cases h2 : (s.toList == [92, 65, 110, 115, 119, 101, 114, 101, 100])
      · cases h3 : (s.toList == [92, 70, 108, 97, 103, 103, 101, 100])
        · cases h4 : (s.toList == [92, 68, 101, 108, 101, 116, 101, 100])
          · cases h5 : (s.toList == [92, 68, 114, 97, 102, 116])
            · rw [h1, h2, h3, h4, h5] at hsy
              exact absurd hsy (by decide)
            · clear hsy htl
              go_enter Tryz.func114, Tryz.ntmps114
              go_wp2
              go_ret
              exact ⟨rfl, rfl⟩
          · clear hsy htl
            go_enter Tryz.func114, Tryz.ntmps114
            go_wp2
            go_ret
            exact ⟨rfl, rfl⟩
        · clear hsy htl
          go_enter Tryz.func114, Tryz.ntmps114
          go_wp2
          go_ret
          exact ⟨rfl, rfl⟩
      · clear hsy htl
        go_enter Tryz.func114, Tryz.ntmps114
        go_wp2
        go_ret
        exact ⟨rfl, rfl⟩
    · clear hsy htl
      go_enter Tryz.func114, Tryz.ntmps114
      go_wp2
      go_ret
      exact ⟨rfl, rfl⟩
end Go.Proofs.YtfaeckaeaeadeaaGreatDoor
namespace Go.Proofs.YtfaeckaeaeadeaaGreatDoor
open Go.RowKit Go.Lib Go.Maps
set_option maxRecDepth 20000 in
theorem implFlagFault (s : ByteArray) (w : World) (hs : s.size ≤ 1048576) : Calls Tryz.prog 105 #[.string s] w fun e w' => e = .returned (.int .i64 (plFlagFault s)) ∧ Below w.heap.size w w' := by
  have hN := mkHid (implNoFlag s w hs)
  unfold plFlagFault
  generalize St.flag s = b at *
  have hF := mkHid (implForm b w)
  go_enter Tryz.func105, Tryz.ntmps105
  cases b
  all_goals
    go_wp2_with first | (go_at_call 114; go_must (refine hN.out.mono ?_; rintro e w2 ⟨rfl, rfl⟩)) | (go_at_call 29; go_must (refine hF.out.mono ?_; rintro e w2 ⟨rfl, rfl⟩))
    go_ret
    exact ⟨rfl, Below.refl _ _⟩
end Go.Proofs.YtfaeckaeaeadeaaGreatDoor
