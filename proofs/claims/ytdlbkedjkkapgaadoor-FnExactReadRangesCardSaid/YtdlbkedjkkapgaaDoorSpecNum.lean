
/- The specification's number of at most ten digits, and a range's number. -/
import Derived.Test.YtdlbkedjkkapgaaDoorSpecCut
namespace Go.Proofs.YtdlbkedjkkapgaaDoor
open Go.RowKit Go.Lib Go.Maps
namespace Cu
def numG (n : Nat) (l : List UInt8) : Int := if l.all digit then (val n l : Nat) else -1
theorem numG_step (n : Nat) (c : UInt8) (r : List UInt8) : numG n (c :: r) = if digit c then numG (n * 10 + (c.toNat - 48)) r else -1 := by
  unfold numG
  rw [List.all_cons]
  cases digit c
  · rfl
  · rw [Bool.true_and]
    rfl
/-- A number of a range; -1: none. -/
def rnum (l : List UInt8) : Int := if l = [42] then 4294967295 else if num10 l < 1 ∨ 4294967295 < num10 l ∨ l.head? = some 48 then -1 else num10 l
theorem num10_le (l : List UInt8) : -1 ≤ num10 l ∧ num10 l ≤ 9999999999 := by
  unfold num10 numI
  split
  · omega
  · rename_i h
    split
    · rename_i ha
      have h1 := val_lt l 0 ha
      have h2 : 10 ^ l.length ≤ 10 ^ 10 := Nat.pow_le_pow_right (by decide) (by omega)
      have h3 : (10 : Nat) ^ 10 = 10000000000 := rfl
      omega
    · omega
end Cu
set_option maxHeartbeats 4000000 in
theorem specNum10 (t : ByteArray) (w : World) (hs : t.size ≤ 1048576) : Calls Tryd.prog 16 #[.string t, .int .i64 10] w fun e w' => e = .returned (.int .i64 (Cu.num10 t.data.toList)) ∧ w = w' := by
  have htl : t.data.toList = t.toList := (ByteArray.toList_eq t).symm
  have hll : t.data.toList.length = t.size := by simp
  unfold Cu.num10
  rw [hll]
  by_cases h0 : t.size = 0
  · have he : (t.toList == []) = true := by
      rw [← htl]; simp; exact Array.eq_empty_of_size_eq_zero h0
    rw [if_pos (.inl h0)]
    clear htl h0 hll
    go_enter Tryd.func16, Tryd.ntmps16
    go_wp2
    go_ret
    exact ⟨rfl, rfl⟩
  · have he : (t.toList == []) = false := by
      rw [← htl]; simp; intro e; apply h0; rw [ByteArray.size, e]; rfl
    by_cases h1 : 10 < t.size
    · rw [if_pos (.inr h1)]
      have x1 : decide ((10 : Int) < (t.size : Int)) = true := decide_eq_true (by omega)
      clear htl hll
      go_enter Tryd.func16, Tryd.ntmps16
      go_wp2
      go_ret
      exact ⟨rfl, rfl⟩
    · rw [if_neg (by omega)]
      have x1 : decide ((10 : Int) < (t.size : Int)) = false := decide_eq_false (by omega)
      obtain ⟨Z, hZ⟩ : ∃ Z, Cu.numI t.data.toList = Z := ⟨_, rfl⟩
      rw [hZ]
      have HZ : Hid (Cu.numG 0 (t.data.toList.drop 0) = Z) := hZ
      have Hll := mkHid hll
      clear hZ htl hll
      go_enter Tryd.func16, Tryd.ntmps16
      go_wp2
      go_loopw [5, 6] (fun nv iv wr => ∃ i n : Nat, i ≤ t.size ∧ iv = .int .i64 i ∧ nv = .int .i64 (n : Int) ∧ Hid (n < 10 ^ i) ∧ n ≤ 10000000000 ∧ Hid (Cu.numG n (t.data.toList.drop i) = Z) ∧ wr = w) (fun _ iv _ => t.size - (Lib.intOf iv).toNat)
      case atStart => exact ⟨0, 0, Nat.zero_le _, rfl, rfl, by show (0 : Nat) < 10 ^ 0; decide, Nat.zero_le _, HZ, rfl⟩
      case round =>
        clear HZ
        obtain ⟨i, n, hi, rfl, rfl, hpw, hnb, hz, rfl⟩ := hrel
        by_cases hlt : i < t.size
        · have hli : i < t.data.toList.length := by rw [Hll.out]; exact hlt
          have hst := hz.out
          rw [List.drop_eq_getElem_cons hli, show t.data.toList[i]'hli = t[i] from rfl, Cu.numG_step] at hst
          have h8 : t[i].toNat < 256 := UInt8.toNat_lt _
          have hn9 : n ≤ 999999999 := by
            have h1' := hpw.out
            have h2' : 10 ^ i ≤ 10 ^ 9 := Nat.pow_le_pow_right (by decide) (by omega)
            have h3' : (10 : Nat) ^ 9 = 1000000000 := rfl
            omega
          unfold Cu.digit at hst
          clear hz
          by_cases y0 : 48 ≤ t[i].toNat
          · have u0 : decide ((t[i].toNat : Int) < 48) = false := decide_eq_false (by omega)
            by_cases y1 : t[i].toNat ≤ 57
            · have u1 : decide ((57 : Int) < (t[i].toNat : Int)) = false := decide_eq_false (by omega)
              rw [decide_eq_true y0, decide_eq_true y1, Bool.true_and, if_pos rfl] at hst
              obtain ⟨m, hm⟩ : ∃ m, m = n * 10 + (t[i].toNat - 48) := ⟨_, rfl⟩
              rw [← hm] at hst
              have hpw2 : Hid (m < 10 ^ (i + 1)) := by
                show m < 10 ^ (i + 1)
                rw [Nat.pow_succ]
                have := hpw.out
                omega
              have hmb : m ≤ 10000000000 := by omega
              have hmI : (n : Int) * 10 + ((t[i].toNat : Int) - 48) = (m : Int) := by omega
              replace hst := mkHid hst
              replace hm := mkHid hm
              go_wp2
              go_roundw
              case rel => exact ⟨i + 1, m, by omega, by go_num, by first | (rw [← hmI]; go_num) | go_num, hpw2, hmb, hst, trivial⟩
              case measure => simp [Lib.intOf]; omega
            · have u1 : decide ((57 : Int) < (t[i].toNat : Int)) = true := decide_eq_true (by omega)
              have hr : Hid (Z = -1) := by rw [← hst, decide_eq_false y1, Bool.and_false, if_neg (by decide)]; rfl
              clear hst
              go_wp2
              go_ret
              rw [hr.out]
              exact ⟨rfl, rfl⟩
          · have u0 : decide ((t[i].toNat : Int) < 48) = true := decide_eq_true (by omega)
            have hr : Hid (Z = -1) := by rw [← hst, decide_eq_false y0, Bool.false_and, if_neg (by decide)]; rfl
            clear hst
            go_wp2
            go_ret
            rw [hr.out]
            exact ⟨rfl, rfl⟩
        · have hr : Hid (Z = (n : Int)) := by
            rw [← hz.out, List.drop_eq_nil_of_le (by rw [Hll.out]; omega)]
            rfl
          clear hz
          go_wp2
          go_ret
          rw [hr.out]
          exact ⟨rfl, rfl⟩
set_option maxHeartbeats 1000000 in
theorem specRnum (t : ByteArray) (w : World) (hs : t.size ≤ 1048576) : Calls Tryd.prog 10 #[.string t] w fun e w' => e = .returned (.int .i64 (Cu.rnum t.data.toList)) ∧ w = w' := by
  have htl : t.data.toList = t.toList := (ByteArray.toList_eq t).symm
  have cN := mkHid (specNum10 t w hs)
  have hb := Cu.num10_le t.data.toList
  have hpos : 1 ≤ Cu.num10 t.data.toList → 0 < t.size := by
    intro h
    unfold Cu.num10 at h
    split at h
    · omega
    · rename_i h2
      have : t.data.toList.length = t.size := by simp
      omega
  unfold Cu.rnum
  by_cases h42 : t.data.toList = [42]
  · have e42 : (t.toList == [42]) = true := by rw [← htl, h42]; rfl
    rw [if_pos h42]
    clear htl h42 hpos
    go_enter Tryd.func10, Tryd.ntmps10
    go_wp2
    go_ret
    exact ⟨rfl, rfl⟩
  · have e42 : (t.toList == [42]) = false := by rw [← htl, beq_eq_false_iff_ne]; exact h42
    rw [if_neg h42]
    have hhd : ∀ h : 0 < t.size, t.data.toList.head? = some t[0] := by
      intro h
      rw [List.head?_eq_getElem?, List.getElem?_eq_getElem (by simpa using h)]
      rfl
    generalize Cu.num10 t.data.toList = z at *
    by_cases h1 : z < 1
    · have u1 : decide (z < 1) = true := decide_eq_true h1
      rw [if_pos (.inl h1)]
      clear htl h42 hpos hhd
      go_enter Tryd.func10, Tryd.ntmps10
      go_wp2_with fail
      refine cN.out.mono ?_
      rintro e w1 ⟨rfl, rfl⟩
      go_wp2
      go_ret
      exact ⟨rfl, rfl⟩
    · have u1 : decide (z < 1) = false := decide_eq_false h1
      by_cases h2 : 4294967295 < z
      · have u2 : decide (4294967295 < z) = true := decide_eq_true h2
        rw [if_pos (.inr (.inl h2))]
        clear htl h42 hpos hhd
        go_enter Tryd.func10, Tryd.ntmps10
        go_wp2_with fail
        refine cN.out.mono ?_
        rintro e w1 ⟨rfl, rfl⟩
        go_wp2
        go_ret
        exact ⟨rfl, rfl⟩
      · have u2 : decide (4294967295 < z) = false := decide_eq_false h2
        have hp := hpos (by omega)
        have hh := hhd hp
        have h8 : t[0].toNat < 256 := UInt8.toNat_lt _
        rw [hh]
        by_cases h3 : t[0] = 48
        · have u3 : ((t[0].toNat : Int) == 48) = true := by rw [h3]; rfl
          rw [if_pos (.inr (.inr (by rw [h3])))]
          clear htl h42 hpos hhd hh h3
          go_enter Tryd.func10, Tryd.ntmps10
          go_wp2_with fail
          refine cN.out.mono ?_
          rintro e w1 ⟨rfl, rfl⟩
          go_wp2
          go_ret
          exact ⟨rfl, rfl⟩
        · have u3 : ((t[0].toNat : Int) == 48) = false := by
            rw [beq_eq_false_iff_ne]
            intro e
            exact h3 (UInt8.toNat_inj.1 (by show t[0].toNat = 48; omega))
          rw [if_neg (by rintro (h | h | h); exact h1 h; exact h2 h; exact h3 (Option.some.inj h))]
          clear htl h42 hpos hhd hh h3
          go_enter Tryd.func10, Tryd.ntmps10
          go_wp2_with fail
          refine cN.out.mono ?_
          rintro e w1 ⟨rfl, rfl⟩
          go_wp2
          go_ret
          exact ⟨rfl, rfl⟩
end Go.Proofs.YtdlbkedjkkapgaaDoor
