
/- Words of a table: plain, and the specification's test. -/
import Derived.Test.YtgmjbgnjmpllmaaCounts2
namespace Go.Proofs.Ytgmjbgnjmpllmaa
open Go.RowKit Go.Lib Go.Maps
namespace Sc
def low (c : UInt8) : Bool := decide (97 ≤ c.toNat) && decide (c.toNat ≤ 122)
def dig (c : UInt8) : Bool := decide (48 ≤ c.toNat) && decide (c.toNat ≤ 57)
def ch (c : UInt8) : Bool := low c || dig c
def word (t : ByteArray) : Bool := decide (3 ≤ t.size) && (decide (t.size ≤ 20) && t.data.toList.all ch)
end Sc
set_option maxHeartbeats 400000 in
theorem specLowC (c : UInt8) (w : World) : Calls Try.prog 27 #[.int .u8 (c.toNat : Int)] w fun e w' => e = .returned (.bool (Sc.low c)) ∧ w = w' := by
  have h8 : c.toNat < 256 := UInt8.toNat_lt _
  unfold Sc.low
  by_cases h1 : 97 ≤ c.toNat
  · by_cases h2 : c.toNat ≤ 122
    · rw [decide_eq_true h1, decide_eq_true h2]
      have h2' : decide ((c.toNat : Int) ≤ 122) = true := by simp; omega
      go_enter Try.func27, Try.ntmps27
      go_wp2
      go_ret
      exact ⟨rfl, rfl⟩
    · rw [decide_eq_true h1, decide_eq_false h2]
      have h2' : decide ((c.toNat : Int) ≤ 122) = false := by simp; omega
      go_enter Try.func27, Try.ntmps27
      go_wp2
      go_ret
      exact ⟨rfl, rfl⟩
  · rw [decide_eq_false h1]
    go_enter Try.func27, Try.ntmps27
    go_wp2
    go_ret
    exact ⟨rfl, rfl⟩
set_option maxHeartbeats 400000 in
theorem specDigC (c : UInt8) (w : World) : Calls Try.prog 28 #[.int .u8 (c.toNat : Int)] w fun e w' => e = .returned (.bool (Sc.dig c)) ∧ w = w' := by
  have h8 : c.toNat < 256 := UInt8.toNat_lt _
  unfold Sc.dig
  by_cases h1 : 48 ≤ c.toNat
  · by_cases h2 : c.toNat ≤ 57
    · rw [decide_eq_true h1, decide_eq_true h2]
      have h2' : decide ((c.toNat : Int) ≤ 57) = true := by simp; omega
      go_enter Try.func28, Try.ntmps28
      go_wp2
      go_ret
      exact ⟨rfl, rfl⟩
    · rw [decide_eq_true h1, decide_eq_false h2]
      have h2' : decide ((c.toNat : Int) ≤ 57) = false := by simp; omega
      go_enter Try.func28, Try.ntmps28
      go_wp2
      go_ret
      exact ⟨rfl, rfl⟩
  · rw [decide_eq_false h1]
    go_enter Try.func28, Try.ntmps28
    go_wp2
    go_ret
    exact ⟨rfl, rfl⟩
theorem all_dropW {α : Type} (f : α → Bool) (l : List α) (k : Nat) (h : k < l.length) : (l.drop k).all f = (f l[k] && (l.drop (k + 1)).all f) := by
  rw [List.drop_eq_getElem_cons h, List.all_cons]
set_option maxHeartbeats 1000000 in
theorem specWord (s : ByteArray) (w : World) (hs : s.size ≤ 1048576) : Calls Try.prog 18 #[.string s] w fun e w' => e = .returned (.bool (Sc.word s)) ∧ w = w' := by
  unfold Sc.word
  by_cases h1 : 3 ≤ s.size
  · by_cases h2 : s.size ≤ 20
    · rw [decide_eq_true h1, decide_eq_true h2, Bool.true_and, Bool.true_and]
      obtain ⟨A, hA⟩ : ∃ A, s.data.toList.all Sc.ch = A := ⟨_, rfl⟩
      rw [hA]
      replace hA := mkHw hA
      have hll : Hid (s.data.toList.length = s.size) := by simp [Hid]
      go_enter Try.func18, Try.ntmps18
      go_wp2
      go_loopw [3] (fun i wr => ∃ k : Nat, k ≤ s.size ∧ i = .int .i64 k ∧ Hid ((s.data.toList.drop k).all Sc.ch = A) ∧ wr = w) (fun i _ => s.size - (Lib.intOf i).toNat)
      case atStart => exact ⟨0, Nat.zero_le _, rfl, hA, rfl⟩
      case round =>
        obtain ⟨k, hk, rfl, hal, hWr⟩ := hrel
        have hWr' : wr = w := hWr
        clear hWr
        subst hWr'
        by_cases hlt : k < s.size
        · have hst := all_dropW Sc.ch s.data.toList k (by rw [hll.out]; exact hlt)
          rw [hal.out, show s.data.toList[k]'(by rw [hll.out]; exact hlt) = s[k] from rfl] at hst
          unfold Sc.ch at hst
          replace hst := mkHw hst
          cases hc : Sc.low s[k]
          · cases hd : Sc.dig s[k]
            · have hf : Hid (A = false) := by rw [hst.out, hc, hd]; exact Bool.false_and _
              have hL := specLowC s[k] wr
              rw [hc] at hL
              have hD := specDigC s[k] wr
              rw [hd] at hD
              clear hst hal hc hd
              go_wp2_with fail
              refine hL.mono ?_
              rintro e w2 ⟨rfl, rfl⟩
              go_wp2_with fail
              refine hD.mono ?_
              rintro e w2 ⟨rfl, rfl⟩
              go_wp2
              go_ret
              rw [hf.out]
              exact ⟨rfl, rfl⟩
            · have hf : Hid ((s.data.toList.drop (k + 1)).all Sc.ch = A) := by rw [hst.out, hc, hd]; exact (Bool.true_and _).symm
              have hL := specLowC s[k] wr
              rw [hc] at hL
              have hD := specDigC s[k] wr
              rw [hd] at hD
              clear hst hal hc hd
              go_wp2_with fail
              refine hL.mono ?_
              rintro e w2 ⟨rfl, rfl⟩
              go_wp2_with fail
              refine hD.mono ?_
              rintro e w2 ⟨rfl, rfl⟩
              go_wp2
              go_roundw
              case rel => exact ⟨k + 1, by omega, by go_num, hf, trivial⟩
              case measure => simp [Lib.intOf]; omega
          · have hf : Hid ((s.data.toList.drop (k + 1)).all Sc.ch = A) := by rw [hst.out, hc, Bool.true_or]; exact (Bool.true_and _).symm
            have hL := specLowC s[k] wr
            rw [hc] at hL
            clear hst hal hc
            go_wp2_with fail
            refine hL.mono ?_
            rintro e w2 ⟨rfl, rfl⟩
            go_wp2
            go_roundw
            case rel => exact ⟨k + 1, by omega, by go_num, hf, trivial⟩
            case measure => simp [Lib.intOf]; omega
        · have hf : Hid (A = true) := by
            have := hal.out
            rw [List.drop_eq_nil_of_le (by rw [hll.out]; omega)] at this
            exact this.symm
          go_wp2
          go_ret
          rw [hf.out]
          exact ⟨rfl, rfl⟩
    · rw [decide_eq_true h1, decide_eq_false h2]
      go_enter Try.func18, Try.ntmps18
      go_wp2
      go_ret
      exact ⟨rfl, rfl⟩
  · rw [decide_eq_false h1]
    go_enter Try.func18, Try.ntmps18
    go_wp2
    go_ret
    exact ⟨rfl, rfl⟩
end Go.Proofs.Ytgmjbgnjmpllmaa
