
/- Flags and names of boxes: plain, and the specification's tests. -/

/- The specification's FlagFault and BoxNameFault. -/
import Derived.Test.YtfaeckaeaeadeaaGreatDoorGenBase
namespace Go.Proofs.YtfaeckaeaeadeaaGreatDoor
open Go.RowKit Go.Lib Go.Maps
namespace St
def letter (c : UInt8) : Bool := (decide (65 ≤ c.toNat) && decide (c.toNat ≤ 90)) || ((decide (97 ≤ c.toNat) && decide (c.toNat ≤ 122)) || (decide (48 ≤ c.toNat) && decide (c.toNat ≤ 57)))
def flagB (c : UInt8) : Bool := letter c || (c.toNat == 36 || (c.toNat == 45 || c.toNat == 95))
def sys (t : ByteArray) : Bool := t.data.toList == [92, 83, 101, 101, 110] || (t.data.toList == [92, 65, 110, 115, 119, 101, 114, 101, 100] || (t.data.toList == [92, 70, 108, 97, 103, 103, 101, 100] || (t.data.toList == [92, 68, 101, 108, 101, 116, 101, 100] || t.data.toList == [92, 68, 114, 97, 102, 116])))
def flag (t : ByteArray) : Bool := sys t || (decide (1 ≤ t.size) && (decide (t.size ≤ 30) && t.data.toList.all flagB))
def code (b : Bool) : Int := if b then 0 else 1
end St
set_option maxRecDepth 20000 in
set_option maxHeartbeats 1000000 in
theorem specLetter (c : UInt8) (w : World) : Calls Tryz.prog 85 #[.int .u8 (c.toNat : Int)] w fun e w' => e = .returned (.bool (St.letter c)) ∧ w = w' := by
  have h8 : c.toNat < 256 := UInt8.toNat_lt _
  unfold St.letter
  generalize c.toNat = k at *
  by_cases h1 : 48 ≤ k
  · by_cases h2 : k ≤ 57
    · rw [show ((decide (65 ≤ k) && decide (k ≤ 90)) || ((decide (97 ≤ k) && decide (k ≤ 122)) || (decide (48 ≤ k) && decide (k ≤ 57)))) = true by simp; omega]
      first | have y1 : decide ((k : Int) ≤ 57) = true := decide_eq_true (by omega) | have y1 : decide ((k : Int) ≤ 57) = false := decide_eq_false (by omega) | skip
      first | have y2 : decide ((k : Int) ≤ 122) = true := decide_eq_true (by omega) | have y2 : decide ((k : Int) ≤ 122) = false := decide_eq_false (by omega) | skip
      go_enter Tryz.func85, Tryz.ntmps85
      go_wp2
      go_ret
      exact ⟨rfl, rfl⟩
    · by_cases h3 : 65 ≤ k
      · by_cases h4 : k ≤ 90
        · rw [show ((decide (65 ≤ k) && decide (k ≤ 90)) || ((decide (97 ≤ k) && decide (k ≤ 122)) || (decide (48 ≤ k) && decide (k ≤ 57)))) = true by simp; omega]
          first | have y1 : decide ((k : Int) ≤ 57) = true := decide_eq_true (by omega) | have y1 : decide ((k : Int) ≤ 57) = false := decide_eq_false (by omega) | skip
          first | have y2 : decide ((k : Int) ≤ 122) = true := decide_eq_true (by omega) | have y2 : decide ((k : Int) ≤ 122) = false := decide_eq_false (by omega) | skip
          go_enter Tryz.func85, Tryz.ntmps85
          go_wp2
          go_ret
          exact ⟨rfl, rfl⟩
        · by_cases h5 : 97 ≤ k
          · by_cases h6 : k ≤ 122
            · rw [show ((decide (65 ≤ k) && decide (k ≤ 90)) || ((decide (97 ≤ k) && decide (k ≤ 122)) || (decide (48 ≤ k) && decide (k ≤ 57)))) = true by simp; omega]
              first | have y1 : decide ((k : Int) ≤ 57) = true := decide_eq_true (by omega) | have y1 : decide ((k : Int) ≤ 57) = false := decide_eq_false (by omega) | skip
              first | have y2 : decide ((k : Int) ≤ 122) = true := decide_eq_true (by omega) | have y2 : decide ((k : Int) ≤ 122) = false := decide_eq_false (by omega) | skip
              go_enter Tryz.func85, Tryz.ntmps85
              go_wp2
              go_ret
              exact ⟨rfl, rfl⟩
            · rw [show ((decide (65 ≤ k) && decide (k ≤ 90)) || ((decide (97 ≤ k) && decide (k ≤ 122)) || (decide (48 ≤ k) && decide (k ≤ 57)))) = false by simp; omega]
              first | have y1 : decide ((k : Int) ≤ 57) = true := decide_eq_true (by omega) | have y1 : decide ((k : Int) ≤ 57) = false := decide_eq_false (by omega) | skip
              first | have y2 : decide ((k : Int) ≤ 122) = true := decide_eq_true (by omega) | have y2 : decide ((k : Int) ≤ 122) = false := decide_eq_false (by omega) | skip
              go_enter Tryz.func85, Tryz.ntmps85
              go_wp2
              go_ret
              exact ⟨rfl, rfl⟩
          · rw [show ((decide (65 ≤ k) && decide (k ≤ 90)) || ((decide (97 ≤ k) && decide (k ≤ 122)) || (decide (48 ≤ k) && decide (k ≤ 57)))) = false by simp; omega]
            first | have y1 : decide ((k : Int) ≤ 57) = true := decide_eq_true (by omega) | have y1 : decide ((k : Int) ≤ 57) = false := decide_eq_false (by omega) | skip
            first | have y2 : decide ((k : Int) ≤ 122) = true := decide_eq_true (by omega) | have y2 : decide ((k : Int) ≤ 122) = false := decide_eq_false (by omega) | skip
            go_enter Tryz.func85, Tryz.ntmps85
            go_wp2
            go_ret
            exact ⟨rfl, rfl⟩
      · rw [show ((decide (65 ≤ k) && decide (k ≤ 90)) || ((decide (97 ≤ k) && decide (k ≤ 122)) || (decide (48 ≤ k) && decide (k ≤ 57)))) = false by simp; omega]
        first | have y1 : decide ((k : Int) ≤ 57) = true := decide_eq_true (by omega) | have y1 : decide ((k : Int) ≤ 57) = false := decide_eq_false (by omega) | skip
        first | have y2 : decide ((k : Int) ≤ 122) = true := decide_eq_true (by omega) | have y2 : decide ((k : Int) ≤ 122) = false := decide_eq_false (by omega) | skip
        go_enter Tryz.func85, Tryz.ntmps85
        go_wp2
        go_ret
        exact ⟨rfl, rfl⟩
  · rw [show ((decide (65 ≤ k) && decide (k ≤ 90)) || ((decide (97 ≤ k) && decide (k ≤ 122)) || (decide (48 ≤ k) && decide (k ≤ 57)))) = false by simp; omega]
    first | have y1 : decide ((k : Int) ≤ 57) = true := decide_eq_true (by omega) | have y1 : decide ((k : Int) ≤ 57) = false := decide_eq_false (by omega) | skip
    first | have y2 : decide ((k : Int) ≤ 122) = true := decide_eq_true (by omega) | have y2 : decide ((k : Int) ≤ 122) = false := decide_eq_false (by omega) | skip
    go_enter Tryz.func85, Tryz.ntmps85
    go_wp2
    go_ret
    exact ⟨rfl, rfl⟩
set_option maxRecDepth 20000 in
set_option maxHeartbeats 1000000 in
theorem specSys (t : ByteArray) (w : World) : Calls Tryz.prog 84 #[.string t] w fun e w' => e = .returned (.bool (St.sys t)) ∧ w = w' := by
  have htl : t.data.toList = t.toList := (ByteArray.toList_eq t).symm
  unfold St.sys
  rw [htl]
  cases h1 : (t.toList == [92, 83, 101, 101, 110])
  · cases h2 : (t.toList == [92, 65, 110, 115, 119, 101, 114, 101, 100])
    · cases h3 : (t.toList == [92, 70, 108, 97, 103, 103, 101, 100])
      · cases h4 : (t.toList == [92, 68, 101, 108, 101, 116, 101, 100])
        · cases h5 : (t.toList == [92, 68, 114, 97, 102, 116])
          · go_enter Tryz.func84, Tryz.ntmps84
            go_wp2
            go_ret
            exact ⟨rfl, rfl⟩
          · go_enter Tryz.func84, Tryz.ntmps84
            go_wp2
            go_ret
            exact ⟨rfl, rfl⟩
        · go_enter Tryz.func84, Tryz.ntmps84
          go_wp2
          go_ret
          exact ⟨rfl, rfl⟩
      · go_enter Tryz.func84, Tryz.ntmps84
        go_wp2
        go_ret
        exact ⟨rfl, rfl⟩
    · go_enter Tryz.func84, Tryz.ntmps84
      go_wp2
      go_ret
      exact ⟨rfl, rfl⟩
  · go_enter Tryz.func84, Tryz.ntmps84
    go_wp2
    go_ret
    exact ⟨rfl, rfl⟩
end Go.Proofs.YtfaeckaeaeadeaaGreatDoor
namespace Go.Proofs.YtfaeckaeaeadeaaGreatDoor
open Go.RowKit Go.Lib Go.Maps
namespace St
set_option maxRecDepth 20000 in
theorem all_drop {α : Type} (f : α → Bool) (l : List α) (k : Nat) (h : k < l.length) : (l.drop k).all f = (f l[k] && (l.drop (k + 1)).all f) := by
  rw [List.drop_eq_getElem_cons h, List.all_cons]
set_option maxRecDepth 20000 in
theorem beq36 (k : Nat) : ((k : Int) == 36) = (k == 36) := by rw [Bool.eq_iff_iff]; simp; omega
set_option maxRecDepth 20000 in
theorem beq45 (k : Nat) : ((k : Int) == 45) = (k == 45) := by rw [Bool.eq_iff_iff]; simp; omega
set_option maxRecDepth 20000 in
theorem beq47 (k : Nat) : ((k : Int) == 47) = (k == 47) := by rw [Bool.eq_iff_iff]; simp; omega
set_option maxRecDepth 20000 in
theorem beq95 (k : Nat) : ((k : Int) == 95) = (k == 95) := by rw [Bool.eq_iff_iff]; simp; omega
end St
def plFlagFault (t : ByteArray) : Int := St.code (St.flag t)
set_option maxRecDepth 20000 in
set_option maxHeartbeats 2000000 in
theorem specFlagC (s : ByteArray) (w : World) (hs : s.size ≤ 1048576) : Calls Tryz.prog 62 #[.string s] w fun e w' => e = .returned (.int .i64 (plFlagFault s)) ∧ w = w' := by
  have cS := mkHid (specSys s w)
  unfold plFlagFault St.flag
  cases hsy : St.sys s
  · rw [hsy] at cS
    by_cases h1 : 1 ≤ s.size
    · by_cases h2 : s.size ≤ 30
      · rw [decide_eq_true h1, decide_eq_true h2, Bool.true_and, Bool.true_and, Bool.false_or]
        obtain ⟨A, hA⟩ : ∃ A, s.data.toList.all St.flagB = A := ⟨_, rfl⟩
        rw [hA]
        replace hA := mkHid hA
        have hll : Hid (s.data.toList.length = s.size) := by simp [Hid]
        clear hsy
        go_enter Tryz.func62, Tryz.ntmps62
        go_wp2_with fail
        refine cS.out.mono ?_
        rintro e w1 ⟨rfl, rfl⟩
        clear cS
        go_wp2
        go_loopw [3] (fun i wr => ∃ k : Nat, k ≤ s.size ∧ i = .int .i64 k ∧ Hid ((s.data.toList.drop k).all St.flagB = A) ∧ wr = w) (fun i _ => s.size - (Lib.intOf i).toNat)
        case atStart => exact ⟨0, Nat.zero_le _, rfl, hA, rfl⟩
        case round =>
          obtain ⟨k, hk, rfl, hal, hWr⟩ := hrel
          have hWr' : wr = w := hWr
          clear hWr
          subst hWr'
          by_cases hlt : k < s.size
          · have hst := St.all_drop St.flagB s.data.toList k (by rw [hll.out]; exact hlt)
            rw [hal.out, show s.data.toList[k]'(by rw [hll.out]; exact hlt) = s[k] from rfl] at hst
            unfold St.flagB at hst
            replace hst := mkHid hst
            have h8 : s[k].toNat < 256 := UInt8.toNat_lt _
            have cL := mkHid (specLetter s[k] wr)
            have e36 := mkHid (St.beq36 s[k].toNat)
            have e45 := mkHid (St.beq45 s[k].toNat)
            have e95 := mkHid (St.beq95 s[k].toNat)
            cases hl : St.letter s[k]
            · rw [hl] at cL
              cases h36 : ((s[k].toNat : Int) == 36)
              · have n36 : ((s[k].toNat : Int) != 36) = true := by rw [bne, h36]; rfl
                cases h45 : ((s[k].toNat : Int) == 45)
                · have n45 : ((s[k].toNat : Int) != 45) = true := by rw [bne, h45]; rfl
                  cases h95 : ((s[k].toNat : Int) == 95)
                  · have n95 : ((s[k].toNat : Int) != 95) = true := by rw [bne, h95]; rfl
                    have hf : Hid (A = false) := by rw [hst.out, hl, ← e36.out, ← e45.out, ← e95.out, h36, h45, h95]; rfl
                    clear hst hal hl
                    go_wp2_with fail
                    refine cL.out.mono ?_
                    rintro e w2 ⟨rfl, rfl⟩
                    go_wp2
                    go_ret
                    rw [hf.out]
                    exact ⟨rfl, rfl⟩
                  · have n95 : ((s[k].toNat : Int) != 95) = false := by rw [bne, h95]; rfl
                    have hf : Hid ((s.data.toList.drop (k + 1)).all St.flagB = A) := by rw [hst.out, hl, ← e36.out, ← e45.out, ← e95.out, h36, h45, h95]; rfl
                    clear hst hal hl
                    go_wp2_with fail
                    refine cL.out.mono ?_
                    rintro e w2 ⟨rfl, rfl⟩
                    go_wp2
                    go_roundw
                    case rel => exact ⟨k + 1, by omega, by go_num, hf, trivial⟩
                    case measure => simp [Lib.intOf]; omega
                · have n45 : ((s[k].toNat : Int) != 45) = false := by rw [bne, h45]; rfl
                  have hf : Hid ((s.data.toList.drop (k + 1)).all St.flagB = A) := by rw [hst.out, hl, ← e36.out, ← e45.out, h36, h45]; rfl
                  clear hst hal hl
                  go_wp2_with fail
                  refine cL.out.mono ?_
                  rintro e w2 ⟨rfl, rfl⟩
                  go_wp2
                  go_roundw
                  case rel => exact ⟨k + 1, by omega, by go_num, hf, trivial⟩
                  case measure => simp [Lib.intOf]; omega
              · have n36 : ((s[k].toNat : Int) != 36) = false := by rw [bne, h36]; rfl
                have hf : Hid ((s.data.toList.drop (k + 1)).all St.flagB = A) := by rw [hst.out, hl, ← e36.out, h36]; rfl
                clear hst hal hl
                go_wp2_with fail
                refine cL.out.mono ?_
                rintro e w2 ⟨rfl, rfl⟩
                go_wp2
                go_roundw
                case rel => exact ⟨k + 1, by omega, by go_num, hf, trivial⟩
                case measure => simp [Lib.intOf]; omega
            · rw [hl] at cL
              have hf : Hid ((s.data.toList.drop (k + 1)).all St.flagB = A) := by rw [hst.out, hl]; rfl
              clear hst hal hl
              go_wp2_with fail
              refine cL.out.mono ?_
              rintro e w2 ⟨rfl, rfl⟩
              go_wp2
              go_roundw
              case rel => exact ⟨k + 1, by omega, by go_num, hf, trivial⟩
              case measure => simp [Lib.intOf]; omega
          · have hf : Hid (A = true) := by
              have := hal.out
              rw [List.drop_eq_nil_of_le (by rw [hll.out]; omega)] at this
              exact this.symm
            go_wp2
            go_ret
            rw [hf.out]
            exact ⟨rfl, rfl⟩
      · rw [decide_eq_true h1, decide_eq_false h2]
        clear hsy
        go_enter Tryz.func62, Tryz.ntmps62
        go_wp2_with fail
        refine cS.out.mono ?_
        rintro e w1 ⟨rfl, rfl⟩
        go_wp2
        go_ret
        exact ⟨rfl, rfl⟩
    · rw [decide_eq_false h1]
      clear hsy
      go_enter Tryz.func62, Tryz.ntmps62
      go_wp2_with fail
      refine cS.out.mono ?_
      rintro e w1 ⟨rfl, rfl⟩
      go_wp2
      go_ret
      exact ⟨rfl, rfl⟩
  · rw [hsy] at cS
    rw [Bool.true_or]
    clear hsy
    go_enter Tryz.func62, Tryz.ntmps62
    go_wp2_with fail
    refine cS.out.mono ?_
    rintro e w1 ⟨rfl, rfl⟩
    go_wp2
    go_ret
    exact ⟨rfl, rfl⟩
set_option maxRecDepth 20000 in
theorem specFlagFault (s0 : ByteArray) (w : World) (hs0 : s0.size ≤ 1048576) : Calls Tryz.prog 62 #[.string s0] w fun e w' => e = .returned (.int .i64 (plFlagFault s0)) ∧ Below w.heap.size w w' :=
  (specFlagC s0 w hs0).mono fun _ _ ⟨h1, h2⟩ => ⟨h1, h2 ▸ Below.refl _ _⟩
end Go.Proofs.YtfaeckaeaeadeaaGreatDoor
