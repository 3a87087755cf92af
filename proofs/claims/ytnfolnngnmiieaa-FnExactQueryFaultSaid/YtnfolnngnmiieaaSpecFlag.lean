
/- Flags and names of boxes: plain, and the specification's tests. -/
import Derived.Test.YtnfolnngnmiieaaGenBase
namespace Go.Proofs.Ytnfolnngnmiieaa
open Go.RowKit Go.Lib Go.Maps
namespace St
def letter (c : UInt8) : Bool := (decide (65 ≤ c.toNat) && decide (c.toNat ≤ 90)) || ((decide (97 ≤ c.toNat) && decide (c.toNat ≤ 122)) || (decide (48 ≤ c.toNat) && decide (c.toNat ≤ 57)))
def flagB (c : UInt8) : Bool := letter c || (c.toNat == 36 || (c.toNat == 45 || c.toNat == 95))
def sys (t : ByteArray) : Bool := t.data.toList == [92, 83, 101, 101, 110] || (t.data.toList == [92, 65, 110, 115, 119, 101, 114, 101, 100] || (t.data.toList == [92, 70, 108, 97, 103, 103, 101, 100] || (t.data.toList == [92, 68, 101, 108, 101, 116, 101, 100] || t.data.toList == [92, 68, 114, 97, 102, 116])))
def flag (t : ByteArray) : Bool := sys t || (decide (1 ≤ t.size) && (decide (t.size ≤ 30) && t.data.toList.all flagB))
def code (b : Bool) : Int := if b then 0 else 1
end St
set_option maxHeartbeats 1000000 in
theorem specLetter (c : UInt8) (w : World) : Calls Try.prog 39 #[.int .u8 (c.toNat : Int)] w fun e w' => e = .returned (.bool (St.letter c)) ∧ w = w' := by
  have h8 : c.toNat < 256 := UInt8.toNat_lt _
  unfold St.letter
  generalize c.toNat = k at *
  by_cases h1 : 48 ≤ k
  · by_cases h2 : k ≤ 57
    · rw [show ((decide (65 ≤ k) && decide (k ≤ 90)) || ((decide (97 ≤ k) && decide (k ≤ 122)) || (decide (48 ≤ k) && decide (k ≤ 57)))) = true by simp; omega]
      first | have y1 : decide ((k : Int) ≤ 57) = true := decide_eq_true (by omega) | have y1 : decide ((k : Int) ≤ 57) = false := decide_eq_false (by omega) | skip
      first | have y2 : decide ((k : Int) ≤ 122) = true := decide_eq_true (by omega) | have y2 : decide ((k : Int) ≤ 122) = false := decide_eq_false (by omega) | skip
      go_enter Try.func39, Try.ntmps39
      go_wp2
      go_ret
      exact ⟨rfl, rfl⟩
    · by_cases h3 : 65 ≤ k
      · by_cases h4 : k ≤ 90
        · rw [show ((decide (65 ≤ k) && decide (k ≤ 90)) || ((decide (97 ≤ k) && decide (k ≤ 122)) || (decide (48 ≤ k) && decide (k ≤ 57)))) = true by simp; omega]
          first | have y1 : decide ((k : Int) ≤ 57) = true := decide_eq_true (by omega) | have y1 : decide ((k : Int) ≤ 57) = false := decide_eq_false (by omega) | skip
          first | have y2 : decide ((k : Int) ≤ 122) = true := decide_eq_true (by omega) | have y2 : decide ((k : Int) ≤ 122) = false := decide_eq_false (by omega) | skip
          go_enter Try.func39, Try.ntmps39
          go_wp2
          go_ret
          exact ⟨rfl, rfl⟩
        · by_cases h5 : 97 ≤ k
          · by_cases h6 : k ≤ 122
            · rw [show ((decide (65 ≤ k) && decide (k ≤ 90)) || ((decide (97 ≤ k) && decide (k ≤ 122)) || (decide (48 ≤ k) && decide (k ≤ 57)))) = true by simp; omega]
              first | have y1 : decide ((k : Int) ≤ 57) = true := decide_eq_true (by omega) | have y1 : decide ((k : Int) ≤ 57) = false := decide_eq_false (by omega) | skip
              first | have y2 : decide ((k : Int) ≤ 122) = true := decide_eq_true (by omega) | have y2 : decide ((k : Int) ≤ 122) = false := decide_eq_false (by omega) | skip
              go_enter Try.func39, Try.ntmps39
              go_wp2
              go_ret
              exact ⟨rfl, rfl⟩
            · rw [show ((decide (65 ≤ k) && decide (k ≤ 90)) || ((decide (97 ≤ k) && decide (k ≤ 122)) || (decide (48 ≤ k) && decide (k ≤ 57)))) = false by simp; omega]
              first | have y1 : decide ((k : Int) ≤ 57) = true := decide_eq_true (by omega) | have y1 : decide ((k : Int) ≤ 57) = false := decide_eq_false (by omega) | skip
              first | have y2 : decide ((k : Int) ≤ 122) = true := decide_eq_true (by omega) | have y2 : decide ((k : Int) ≤ 122) = false := decide_eq_false (by omega) | skip
              go_enter Try.func39, Try.ntmps39
              go_wp2
              go_ret
              exact ⟨rfl, rfl⟩
          · rw [show ((decide (65 ≤ k) && decide (k ≤ 90)) || ((decide (97 ≤ k) && decide (k ≤ 122)) || (decide (48 ≤ k) && decide (k ≤ 57)))) = false by simp; omega]
            first | have y1 : decide ((k : Int) ≤ 57) = true := decide_eq_true (by omega) | have y1 : decide ((k : Int) ≤ 57) = false := decide_eq_false (by omega) | skip
            first | have y2 : decide ((k : Int) ≤ 122) = true := decide_eq_true (by omega) | have y2 : decide ((k : Int) ≤ 122) = false := decide_eq_false (by omega) | skip
            go_enter Try.func39, Try.ntmps39
            go_wp2
            go_ret
            exact ⟨rfl, rfl⟩
      · rw [show ((decide (65 ≤ k) && decide (k ≤ 90)) || ((decide (97 ≤ k) && decide (k ≤ 122)) || (decide (48 ≤ k) && decide (k ≤ 57)))) = false by simp; omega]
        first | have y1 : decide ((k : Int) ≤ 57) = true := decide_eq_true (by omega) | have y1 : decide ((k : Int) ≤ 57) = false := decide_eq_false (by omega) | skip
        first | have y2 : decide ((k : Int) ≤ 122) = true := decide_eq_true (by omega) | have y2 : decide ((k : Int) ≤ 122) = false := decide_eq_false (by omega) | skip
        go_enter Try.func39, Try.ntmps39
        go_wp2
        go_ret
        exact ⟨rfl, rfl⟩
  · rw [show ((decide (65 ≤ k) && decide (k ≤ 90)) || ((decide (97 ≤ k) && decide (k ≤ 122)) || (decide (48 ≤ k) && decide (k ≤ 57)))) = false by simp; omega]
    first | have y1 : decide ((k : Int) ≤ 57) = true := decide_eq_true (by omega) | have y1 : decide ((k : Int) ≤ 57) = false := decide_eq_false (by omega) | skip
    first | have y2 : decide ((k : Int) ≤ 122) = true := decide_eq_true (by omega) | have y2 : decide ((k : Int) ≤ 122) = false := decide_eq_false (by omega) | skip
    go_enter Try.func39, Try.ntmps39
    go_wp2
    go_ret
    exact ⟨rfl, rfl⟩
set_option maxHeartbeats 1000000 in
theorem specSys (t : ByteArray) (w : World) : Calls Try.prog 38 #[.string t] w fun e w' => e = .returned (.bool (St.sys t)) ∧ w = w' := by
  have htl : t.data.toList = t.toList := (ByteArray.toList_eq t).symm
  unfold St.sys
  rw [htl]
  cases h1 : (t.toList == [92, 83, 101, 101, 110])
  · cases h2 : (t.toList == [92, 65, 110, 115, 119, 101, 114, 101, 100])
    · cases h3 : (t.toList == [92, 70, 108, 97, 103, 103, 101, 100])
      · cases h4 : (t.toList == [92, 68, 101, 108, 101, 116, 101, 100])
        · cases h5 : (t.toList == [92, 68, 114, 97, 102, 116])
          · go_enter Try.func38, Try.ntmps38
            go_wp2
            go_ret
            exact ⟨rfl, rfl⟩
          · go_enter Try.func38, Try.ntmps38
            go_wp2
            go_ret
            exact ⟨rfl, rfl⟩
        · go_enter Try.func38, Try.ntmps38
          go_wp2
          go_ret
          exact ⟨rfl, rfl⟩
      · go_enter Try.func38, Try.ntmps38
        go_wp2
        go_ret
        exact ⟨rfl, rfl⟩
    · go_enter Try.func38, Try.ntmps38
      go_wp2
      go_ret
      exact ⟨rfl, rfl⟩
  · go_enter Try.func38, Try.ntmps38
    go_wp2
    go_ret
    exact ⟨rfl, rfl⟩
end Go.Proofs.Ytnfolnngnmiieaa
