
/- What a filter's node may be: plain, and the specification's tests. -/
import Derived.Test.YtmpakfpmcohcgaaNodes3
namespace Go.Proofs.Ytmpakfpmcohcgaa
open Go.RowKit Go.Lib Go.Maps
theorem mkH {p : Prop} (h : p) : Hid p := h
namespace Fn
def low (c : UInt8) : Bool := decide (97 ≤ c.toNat) && decide (c.toNat ≤ 122)
def nameOk (t : ByteArray) : Bool := decide (1 ≤ t.size) && (decide (t.size ≤ 20) && t.data.toList.all low)
def textsOk (l : List ByteArray) : Bool := decide (1 ≤ l.length) && (decide (l.length ≤ 100) && l.all fun t => decide (t.size ≤ 1000))
def isTest (k : Int) : Bool := decide (20 ≤ k) && decide (k ≤ 31)
def isCmd (k : Int) : Bool := decide (2 ≤ k) && decide (k ≤ 11)
end Fn
set_option maxHeartbeats 400000 in
theorem specLow (c : UInt8) (w : World) : Calls Try.prog 42 #[.int .u8 (c.toNat : Int)] w fun e w' => e = .returned (.bool (Fn.low c)) ∧ w = w' := by
  have h8 : c.toNat < 256 := UInt8.toNat_lt _
  unfold Fn.low
  by_cases h1 : 97 ≤ c.toNat
  · by_cases h2 : c.toNat ≤ 122
    · rw [decide_eq_true h1, decide_eq_true h2]
      have h2' : decide ((c.toNat : Int) ≤ 122) = true := by simp; omega
      go_enter Try.func42, Try.ntmps42
      go_wp2
      go_ret
      exact ⟨rfl, rfl⟩
    · rw [decide_eq_true h1, decide_eq_false h2]
      have h2' : decide ((c.toNat : Int) ≤ 122) = false := by simp; omega
      go_enter Try.func42, Try.ntmps42
      go_wp2
      go_ret
      exact ⟨rfl, rfl⟩
  · rw [decide_eq_false h1]
    go_enter Try.func42, Try.ntmps42
    go_wp2
    go_ret
    exact ⟨rfl, rfl⟩
set_option maxHeartbeats 400000 in
theorem specIsTest (k : Int) (w : World) : Calls Try.prog 31 #[.int .i64 k] w fun e w' => e = .returned (.bool (Fn.isTest k)) ∧ w = w' := by
  unfold Fn.isTest
  by_cases h1 : 20 ≤ k
  · by_cases h2 : k ≤ 31
    · rw [decide_eq_true h1, decide_eq_true h2]
      go_enter Try.func31, Try.ntmps31
      go_wp2
      go_ret
      exact ⟨rfl, rfl⟩
    · rw [decide_eq_true h1, decide_eq_false h2]
      go_enter Try.func31, Try.ntmps31
      go_wp2
      go_ret
      exact ⟨rfl, rfl⟩
  · rw [decide_eq_false h1]
    go_enter Try.func31, Try.ntmps31
    go_wp2
    go_ret
    exact ⟨rfl, rfl⟩
set_option maxHeartbeats 400000 in
theorem specIsCmd (k : Int) (w : World) : Calls Try.prog 30 #[.int .i64 k] w fun e w' => e = .returned (.bool (Fn.isCmd k)) ∧ w = w' := by
  unfold Fn.isCmd
  by_cases h1 : 2 ≤ k
  · by_cases h2 : k ≤ 11
    · rw [decide_eq_true h1, decide_eq_true h2]
      go_enter Try.func30, Try.ntmps30
      go_wp2
      go_ret
      exact ⟨rfl, rfl⟩
    · rw [decide_eq_true h1, decide_eq_false h2]
      go_enter Try.func30, Try.ntmps30
      go_wp2
      go_ret
      exact ⟨rfl, rfl⟩
  · rw [decide_eq_false h1]
    go_enter Try.func30, Try.ntmps30
    go_wp2
    go_ret
    exact ⟨rfl, rfl⟩
theorem all_drop {α : Type} (f : α → Bool) (l : List α) (k : Nat) (h : k < l.length) : (l.drop k).all f = (f l[k] && (l.drop (k + 1)).all f) := by
  rw [List.drop_eq_getElem_cons h, List.all_cons]
set_option maxHeartbeats 400000 in
theorem specName (s : ByteArray) (w : World) (hs : s.size ≤ 1048576) :
    Calls Try.prog 28 #[.string s] w fun e w' => e = .returned (.bool (Fn.nameOk s)) ∧ w = w' := by
  unfold Fn.nameOk
  by_cases h1 : 1 ≤ s.size
  · by_cases h2 : s.size ≤ 20
    · rw [decide_eq_true h1, decide_eq_true h2, Bool.true_and, Bool.true_and]
      obtain ⟨A, hA⟩ : ∃ A, s.data.toList.all Fn.low = A := ⟨_, rfl⟩
      rw [hA]
      have hA := mkH hA
      have hll : Hid (s.data.toList.length = s.size) := by simp [Hid]
      go_enter Try.func28, Try.ntmps28
      go_wp2
      go_loopw [3] (fun i wr => ∃ k : Nat, k ≤ s.size ∧ i = .int .i64 k ∧ Hid ((s.data.toList.drop k).all Fn.low = A) ∧ wr = w) (fun i _ => s.size - (Lib.intOf i).toNat)
      case atStart => exact ⟨0, Nat.zero_le _, rfl, hA, rfl⟩
      case round =>
        obtain ⟨k, hk, rfl, hal, hWr⟩ := hrel
        have hWr' : wr = w := hWr
        clear hWr
        subst hWr'
        by_cases hlt : k < s.size
        · have hst := all_drop Fn.low s.data.toList k (by rw [hll.out]; exact hlt)
          rw [hal.out, show s.data.toList[k]'(by rw [hll.out]; exact hlt) = s[k] from rfl] at hst
          replace hst := mkH hst
          cases hc : Fn.low s[k]
          · have hf : Hid (A = false) := by rw [hst.out, hc]; exact Bool.false_and _
            have hL := specLow s[k] wr
            rw [hc] at hL
            clear hst hal hc
            go_wp2_with fail
            refine hL.mono ?_
            rintro e w2 ⟨rfl, rfl⟩
            go_wp2
            go_ret
            rw [hf.out]
            exact ⟨rfl, rfl⟩
          · have hf : Hid ((s.data.toList.drop (k + 1)).all Fn.low = A) := by rw [hst.out, hc]; exact (Bool.true_and _).symm
            have hL := specLow s[k] wr
            rw [hc] at hL
            clear hst hal hc
            go_wp2_with fail
            refine hL.mono ?_
            rintro e w2 ⟨rfl, rfl⟩
            go_wp2
            go_roundw
            case rel => exact ⟨k + 1, by omega, by go_num, hf, trivial⟩
            case measure => simp [Lib.intOf]; omega
        · have hf : Hid (A = true) := by
            have := hal.out
            rw [List.drop_eq_nil_of_le (by rw [hll.out]; omega)] at this
            exact this.symm
          go_wp2
          go_ret
          rw [hf.out]
          exact ⟨rfl, rfl⟩
    · rw [decide_eq_true h1, decide_eq_false h2]
      go_enter Try.func28, Try.ntmps28
      go_wp2
      go_ret
      exact ⟨rfl, rfl⟩
  · rw [decide_eq_false h1]
    go_enter Try.func28, Try.ntmps28
    go_wp2
    go_ret
    exact ⟨rfl, rfl⟩
set_option maxHeartbeats 400000 in
theorem specTexts (o : Option Addr) (F : List ByteArray) (cap : Nat) (w : World) (hF : Tx w.heap.size w o F) (hlen : F.length ≤ 1048576) (hsz : ∀ t ∈ F, t.size ≤ 1048576) :
    Calls Try.prog 29 #[.slice o F.length cap] w fun e w' => e = .returned (.bool (Fn.textsOk F)) ∧ w = w' := by
  have HF := mkH hF
  have Hsz := mkH hsz
  clear hF hsz
  unfold Fn.textsOk
  by_cases h1 : 1 ≤ F.length
  · by_cases h2 : F.length ≤ 100
    · rw [decide_eq_true h1, decide_eq_true h2, Bool.true_and, Bool.true_and]
      obtain ⟨A, hA⟩ : ∃ A, F.all (fun t => decide (t.size ≤ 1000)) = A := ⟨_, rfl⟩
      rw [hA]
      have hA := mkH hA
      go_enter Try.func29, Try.ntmps29
      go_wp2
      go_loopw [3] (fun i wr => ∃ k : Nat, k ≤ F.length ∧ i = .int .i64 k ∧ Hid ((F.drop k).all (fun t => decide (t.size ≤ 1000)) = A) ∧ wr = w) (fun i _ => F.length - (Lib.intOf i).toNat)
      case atStart => exact ⟨0, Nat.zero_le _, rfl, hA, rfl⟩
      case round =>
        obtain ⟨k, hk, rfl, hal, hWr⟩ := hrel
        have hWr' : wr = w := hWr
        clear hWr
        subst hWr'
        by_cases hlt : k < F.length
        · have hst := mkH (hal.out.symm.trans (all_drop (fun t => decide (t.size ≤ 1000)) F k hlt))
          obtain ⟨a, rfl, ha, hc⟩ := HF.out k hlt
          have hkz := Hsz.out F[k] (List.getElem_mem hlt)
          generalize F[k] = f at *
          by_cases hz : f.size ≤ 1000
          · have hf : Hid ((F.drop (k + 1)).all (fun t => decide (t.size ≤ 1000)) = A) := by rw [hst.out, decide_eq_true hz]; exact (Bool.true_and _).symm
            clear hst hal
            go_wp2
            go_roundw
            case rel => exact ⟨k + 1, by omega, by go_num, hf, trivial⟩
            case measure => simp [Lib.intOf]; omega
          · have hf : Hid (A = false) := by rw [hst.out, decide_eq_false hz]; exact Bool.false_and _
            clear hst hal
            go_wp2
            go_ret
            rw [hf.out]
            exact ⟨rfl, rfl⟩
        · have hf : Hid (A = true) := by
            have := hal.out
            rw [List.drop_eq_nil_of_le (by omega)] at this
            exact this.symm
          go_wp2
          go_ret
          rw [hf.out]
          exact ⟨rfl, rfl⟩
    · rw [decide_eq_true h1, decide_eq_false h2]
      go_enter Try.func29, Try.ntmps29
      go_wp2
      go_ret
      exact ⟨rfl, rfl⟩
  · rw [decide_eq_false h1]
    go_enter Try.func29, Try.ntmps29
    go_wp2
    go_ret
    exact ⟨rfl, rfl⟩
end Go.Proofs.Ytmpakfpmcohcgaa
