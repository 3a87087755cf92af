
/- The specification's number of three digits. -/
import Derived.Test.YtmclnkcpflehdaaDoorSpecCut
namespace Go.Proofs.YtmclnkcpflehdaaDoor
open Go.RowKit Go.Lib Go.Maps
namespace Cu
def numG (n : Nat) (l : List UInt8) : Int := if l.all digit then (val n l : Nat) else -1
set_option maxRecDepth 20000 in
theorem numG_step (n : Nat) (c : UInt8) (r : List UInt8) : numG n (c :: r) = if digit c then numG (n * 10 + (c.toNat - 48)) r else -1 := by
  unfold numG
  rw [List.all_cons]
  cases digit c
  · rfl
  · rw [Bool.true_and]
    rfl
end Cu
set_option maxRecDepth 20000 in
set_option maxHeartbeats 4000000 in
theorem specNum3 (t : ByteArray) (w : World) (h3 : t.size = 3) : Calls Tryd.prog 11 #[.string t, .int .i64 3] w fun e w' => e = .returned (.int .i64 (Cu.numI t.data.toList)) ∧ w = w' := by
  have htl : t.data.toList = t.toList := (ByteArray.toList_eq t).symm
  have hll : t.data.toList.length = t.size := by simp
  have he : (t.toList == []) = false := by
    rw [← htl]; simp; intro e; rw [ByteArray.size, e] at h3; cases h3
  have hs3 : t.size ≤ 3 := by omega
  clear h3
  have x1 : decide ((3 : Int) < (t.size : Int)) = false := decide_eq_false (by omega)
  obtain ⟨Z, hZ⟩ : ∃ Z, Cu.numI t.data.toList = Z := ⟨_, rfl⟩
  rw [hZ]
  have HZ : Hid (Cu.numG 0 (t.data.toList.drop 0) = Z) := hZ
  have Hll := mkHid hll
  clear hZ htl hll
  go_enter Tryd.func11, Tryd.ntmps11
  go_wp2
  go_loopw [5, 6] (fun nv iv wr => ∃ i n : Nat, i ≤ t.size ∧ iv = .int .i64 i ∧ nv = .int .i64 (n : Int) ∧ Hid (n < 10 ^ i) ∧ n ≤ 10000000000 ∧ Hid (Cu.numG n (t.data.toList.drop i) = Z) ∧ wr = w) (fun _ iv _ => t.size - (Lib.intOf iv).toNat)
  case atStart => exact ⟨0, 0, Nat.zero_le _, rfl, rfl, by show (0 : Nat) < 10 ^ 0; decide, Nat.zero_le _, HZ, rfl⟩
  case round =>
    clear HZ
    obtain ⟨i, n, hi, rfl, rfl, hpw, hnb, hz, rfl⟩ := hrel
    by_cases hlt : i < t.size
    · have hli : i < t.data.toList.length := by rw [Hll.out]; exact hlt
      have hst := hz.out
      rw [List.drop_eq_getElem_cons hli, show t.data.toList[i]'hli = t[i] from rfl, Cu.numG_step] at hst
      have h8 : t[i].toNat < 256 := UInt8.toNat_lt _
      have hn9 : n ≤ 999999999 := by
        have h1' := hpw.out
        have h2' : 10 ^ i ≤ 10 ^ 9 := Nat.pow_le_pow_right (by decide) (by omega)
        have h3' : (10 : Nat) ^ 9 = 1000000000 := rfl
        omega
      unfold Cu.digit at hst
      clear hz
      by_cases y0 : 48 ≤ t[i].toNat
      · have u0 : decide ((t[i].toNat : Int) < 48) = false := decide_eq_false (by omega)
        by_cases y1 : t[i].toNat ≤ 57
        · have u1 : decide ((57 : Int) < (t[i].toNat : Int)) = false := decide_eq_false (by omega)
          rw [decide_eq_true y0, decide_eq_true y1, Bool.true_and, if_pos rfl] at hst
          obtain ⟨m, hm⟩ : ∃ m, m = n * 10 + (t[i].toNat - 48) := ⟨_, rfl⟩
          rw [← hm] at hst
          have hpw2 : Hid (m < 10 ^ (i + 1)) := by
            show m < 10 ^ (i + 1)
            rw [Nat.pow_succ]
            have := hpw.out
            omega
          have hmb : m ≤ 10000000000 := by omega
          have hmI : (n : Int) * 10 + ((t[i].toNat : Int) - 48) = (m : Int) := by omega
          replace hst := mkHid hst
          replace hm := mkHid hm
          go_wp2
          go_roundw
          case rel => exact ⟨i + 1, m, by omega, by go_num, by first | (rw [← hmI]; go_num) | go_num, hpw2, hmb, hst, trivial⟩
          case measure => simp [Lib.intOf]; omega
        · have u1 : decide ((57 : Int) < (t[i].toNat : Int)) = true := decide_eq_true (by omega)
          have hr : Hid (Z = -1) := by rw [← hst, decide_eq_false y1, Bool.and_false, if_neg (by decide)]; rfl
          clear hst
          go_wp2
          go_ret
          rw [hr.out]
          exact ⟨rfl, rfl⟩
      · have u0 : decide ((t[i].toNat : Int) < 48) = true := decide_eq_true (by omega)
        have hr : Hid (Z = -1) := by rw [← hst, decide_eq_false y0, Bool.false_and, if_neg (by decide)]; rfl
        clear hst
        go_wp2
        go_ret
        rw [hr.out]
        exact ⟨rfl, rfl⟩
    · have hr : Hid (Z = (n : Int)) := by
        rw [← hz.out, List.drop_eq_nil_of_le (by rw [Hll.out]; omega)]
        rfl
      clear hz
      go_wp2
      go_ret
      rw [hr.out]
      exact ⟨rfl, rfl⟩
end Go.Proofs.YtmclnkcpflehdaaDoor
