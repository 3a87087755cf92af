
/- The program's ranges, read: their ends. -/
import Derived.Test.YtdlbkedjkkapgaaDoorRangePlain
import Derived.Test.YtdlbkedjkkapgaaDoorImplRanges
import Derived.Test.YtdlbkedjkkapgaaDoorRangeMarks
import Derived.Test.YtdlbkedjkkapgaaDoorShelfB
namespace Go.Proofs.YtdlbkedjkkapgaaDoor
open Go.RowKit Go.Lib Go.Maps
set_option linter.unusedVariables false
theorem implDigitC (c : UInt8) (w : World) : Calls Tryd.prog 38 #[.int .u8 (c.toNat : Int)] w fun e w' => e = .returned (.bool (Cu.digit c)) ∧ w = w' := by
  have h8 : c.toNat < 256 := UInt8.toNat_lt _
  unfold Cu.digit
  generalize c.toNat = k at *
  have e1 : decide (48 ≤ k) = decide ((48 : Int) ≤ (k : Int)) := by rw [Bool.eq_iff_iff]; simp; omega
  have e2 : decide (k ≤ 57) = decide ((k : Int) ≤ 57) := by rw [Bool.eq_iff_iff]; simp; omega
  rw [e1, e2]
  clear e1 e2
  cases x1 : decide ((48 : Int) ≤ (k : Int)) <;> cases x2 : decide ((k : Int) ≤ 57)
  all_goals
    go_enter Tryd.func38, Tryd.ntmps38
    go_wp2
    go_ret
    exact ⟨rfl, rfl⟩
theorem kindDigitC : Kind 38 Cu.digit := ⟨Go.Proofs.enters_of Tryd.func38 (by kernel_rfl) rfl, implDigitC⟩
namespace Cu
def isNum (l : List UInt8) : Bool := !(decide (l.length = 0)) && (decide (l.length ≤ 10) && l.all digit)
theorem parse_ok : ∀ (l : List UInt8) (acc : Nat), l.all digit = true → (acc + 1) * 10 ^ l.length ≤ 1000000000000000000 → parseUintM 18446744073709551615 acc l = .ok (val acc l)
  | [], acc, _, _ => rfl
  | c :: r, acc, h, hb => by
    rw [List.all_cons, Bool.and_eq_true] at h
    obtain ⟨h1, h2⟩ := h
    unfold digit at h1
    simp only [Bool.and_eq_true, decide_eq_true_eq] at h1
    rw [List.length_cons, Nat.pow_succ, Nat.mul_comm (10 ^ r.length) 10, ← Nat.mul_assoc] at hb
    have hp : 1 ≤ 10 ^ r.length := Nat.succ_le_of_lt (Nat.pow_pos (by decide))
    have ha : (acc + 1) * 10 ≤ 1000000000000000000 := Nat.le_trans (Nat.le_mul_of_pos_right _ hp) hb
    have hn : (acc * 10 + (c.toNat - 48) + 1) * 10 ^ r.length ≤ 1000000000000000000 := Nat.le_trans (Nat.mul_le_mul_right _ (by omega)) hb
    unfold parseUintM
    rw [if_pos h1, if_neg (by omega), if_neg (by omega), parse_ok r _ h2 hn]
    rfl
theorem parse_int (l : List UInt8) (h : isNum l = true) : parseIntB 64 l = .ok ((val 0 l : Nat) : Int) := by
  unfold isNum at h
  simp only [Bool.and_eq_true, Bool.not_eq_true', decide_eq_false_iff_not, decide_eq_true_eq] at h
  obtain ⟨h0, h10, hd⟩ := h
  cases l with
  | nil => exact absurd rfl h0
  | cons c r =>
    have hc := hd
    rw [List.all_cons, Bool.and_eq_true] at hc
    have h1 := hc.1
    unfold digit at h1
    simp only [Bool.and_eq_true, decide_eq_true_eq] at h1
    have hpow : 10 ^ (c :: r).length ≤ 10 ^ 10 := Nat.pow_le_pow_right (by decide) h10
    have hk := parse_ok (c :: r) 0 hd (by
      have : (10 : Nat) ^ 10 = 10000000000 := rfl
      omega)
    have hv := val_lt (c :: r) 0 hd
    have hv2 : val 0 (c :: r) < 10000000000 := by
      have : (10 : Nat) ^ 10 = 10000000000 := rfl
      omega
    unfold parseIntB
    dsimp only
    rw [if_neg (by omega)]
    unfold parseUintB
    rw [if_neg (by simp), show 2 ^ 64 - 1 = 18446744073709551615 from rfl, hk]
    dsimp only
    rw [if_neg (by
      rintro ⟨-, h⟩
      have : (2 : Nat) ^ (64 - 1) = 9223372036854775808 := rfl
      omega), if_neg (by rintro ⟨h, -⟩; omega), if_neg (by omega)]
end Cu
theorem implNumUpTo (t : ByteArray) (w : World) (hs : t.size ≤ 1048576) : Calls Tryd.prog 27 #[.int .i64 10, .string t] w fun e w' => e = .returned (.bool (Cu.isNum t.data.toList)) ∧ w = w' := by
  have hA := mkHid (implAllOf kindDigitC t w (by omega))
  have htl : t.data.toList = t.toList := (ByteArray.toList_eq t).symm
  have hll : t.data.toList.length = t.size := by simp
  unfold Cu.isNum
  rw [hll]
  generalize t.data.toList.all Cu.digit = A at *
  by_cases h0 : t.size = 0
  · have he : (t.toList == []) = true := by
      rw [← htl]; simp; exact Array.eq_empty_of_size_eq_zero h0
    have he2 : (t.toList != []) = false := by rw [bne, he]; rfl
    rw [decide_eq_true h0]
    clear htl h0 hll hA
    go_enter Tryd.func27, Tryd.ntmps27
    go_wp2
    go_ret
    exact ⟨rfl, rfl⟩
  · have he : (t.toList == []) = false := by
      rw [← htl]; simp; intro e; apply h0; rw [ByteArray.size, e]; rfl
    have he2 : (t.toList != []) = true := by rw [bne, he]; rfl
    rw [decide_eq_false h0]
    by_cases h1 : t.size ≤ 10
    · rw [decide_eq_true h1]
      have x1 : decide ((t.size : Int) ≤ 10) = true := decide_eq_true (by omega)
      clear htl hll
      go_enter Tryd.func27, Tryd.ntmps27
      go_wp2_with (go_at_call 37; go_must (refine hA.out.mono ?_; rintro e w2 ⟨rfl, rfl⟩))
      go_ret
      exact ⟨rfl, rfl⟩
    · rw [decide_eq_false h1]
      have x1 : decide ((t.size : Int) ≤ 10) = false := decide_eq_false (by omega)
      clear htl hll hA
      go_enter Tryd.func27, Tryd.ntmps27
      go_wp2
      go_ret
      exact ⟨rfl, rfl⟩
theorem implNumText (t : ByteArray) (w : World) (hs : t.size ≤ 1048576) : Calls Tryd.prog 19 #[.string t] w fun e w' => e = .returned (.bool (Cu.isNum t.data.toList)) ∧ w = w' := by
  have hA := mkHid (implNumUpTo t w hs)
  generalize Cu.isNum t.data.toList = A at *
  go_enter Tryd.func19, Tryd.ntmps19
  go_wp2_with (go_at_call 27; go_must (refine hA.out.mono ?_; rintro e w2 ⟨rfl, rfl⟩))
  go_ret
  exact ⟨rfl, rfl⟩
theorem implNumberOf (t : ByteArray) (w : World) (hn : Cu.isNum t.data.toList = true) (hs : t.size ≤ 1048576) : Calls Tryd.prog 20 #[.string t] w fun e w' => e = .returned (.int .i64 ((Cu.val 0 t.data.toList : Nat) : Int)) ∧ Below w.heap.size w w' := by
  have cP0 := Tryd.strconv_ParseInt_10_at64_ok t (by omega) _ (Cu.parse_int _ hn) w
  have cP : Hid (Calls Tryd.prog 28 #[.string t, .int .i64 10, .int .i64 64] w fun e w' => e = .returned (.tuple #[.int .i64 ((Cu.val 0 t.data.toList : Nat) : Int), .nilIface]) ∧ Below w.heap.size w w') := by
    refine cP0.mono ?_
    rintro e w' ⟨rfl, h⟩
    refine ⟨rfl, ?_⟩
    rcases h with rfl | ⟨b, rfl⟩
    · exact Below.refl _ _
    · exact bytesWorld_below _ _ _
  clear cP0 hn
  generalize ((Cu.val 0 t.data.toList : Nat) : Int) = v at *
  go_enter Tryd.func20, Tryd.ntmps20
  go_wp2_with fail
  refine cP.out.mono ?_
  rintro e w1 ⟨rfl, hb⟩
  go_wp2
  go_ret
  exact ⟨rfl, hb⟩
namespace Cu
theorem re_eq (l : List UInt8) : re l = if l = [42] then (4294967295 : Int) else if isNum l = false then (0 : Int) else if l.head? = some 48 then (0 : Int) else ((val 0 l : Nat) : Int) := by
  unfold re isNum
  by_cases h1 : l = [42]
  · rw [if_pos h1, if_pos h1]
  · rw [if_neg h1, if_neg h1]
    by_cases h0 : l.length = 0
    · rw [if_pos (.inl h0), if_pos (by rw [decide_eq_true h0]; rfl)]
    · by_cases h10 : l.length ≤ 10
      · rw [decide_eq_false h0, decide_eq_true h10]
        cases hd : l.all digit
        · rw [if_pos (.inr (.inr (.inl rfl))), if_pos (by rfl)]
        · rw [if_neg (c := (!false && (true && true)) = false) (by simp)]
          by_cases h3 : l.head? = some 48
          · rw [if_pos (.inr (.inr (.inr h3))), if_pos h3]
          · rw [if_neg h3, if_neg (by
              rintro (h | h | h | h)
              · exact h0 h
              · omega
              · cases h
              · exact h3 h)]
      · rw [if_pos (.inr (.inl (by omega))), if_pos (by rw [decide_eq_false h10]; simp)]
end Cu
set_option maxHeartbeats 1000000 in
theorem implRangeEnd (t : ByteArray) (w : World) (hs : t.size ≤ 1048576) : Calls Tryd.prog 13 #[.string t] w fun e w' => e = .returned (.int .i64 (Cu.re t.data.toList)) ∧ Below w.heap.size w w' := by
  have cT := mkHid (implNumText t w hs)
  have cN := mkHid (fun h => implNumberOf t w h hs)
  have htl : t.data.toList = t.toList := (ByteArray.toList_eq t).symm
  rw [Cu.re_eq]
  by_cases h1 : t.data.toList = [42]
  · rw [if_pos h1]
    have x1 : (t.toList == [42]) = true := by rw [← htl, h1]; rfl
    clear cT cN htl h1
    go_enter Tryd.func13, Tryd.ntmps13
    go_wp2
    go_ret
    exact ⟨rfl, Below.refl _ _⟩
  · rw [if_neg h1]
    have x1 : (t.toList == [42]) = false := by rw [← htl]; simpa using h1
    cases hn : Cu.isNum t.data.toList
    · rw [hn] at cT
      rw [if_pos rfl]
      clear cN htl h1 hn
      go_enter Tryd.func13, Tryd.ntmps13
      go_wp2_with fail
      refine cT.out.mono ?_
      rintro e w1 ⟨rfl, rfl⟩
      go_wp2
      go_ret
      exact ⟨rfl, Below.refl _ _⟩
    · rw [hn] at cT
      rw [if_neg (by simp)]
      have c2 := mkHid (cN.out hn)
      have hpos : 0 < t.size := by
        unfold Cu.isNum at hn
        simp only [Bool.and_eq_true, Bool.not_eq_true', decide_eq_false_iff_not] at hn
        have := hn.1
        have hll : t.data.toList.length = t.size := by simp
        omega
      have hh : t.data.toList.head? = some t[0] := by
        rw [List.head?_eq_getElem?, List.getElem?_eq_getElem (by simpa using hpos)]
        rfl
      rw [hh]
      have h8 : t[0].toNat < 256 := UInt8.toNat_lt _
      by_cases h48 : t[0] = 48
      · rw [if_pos (by rw [h48])]
        have x2 : ((t[0].toNat : Int) == 48) = true := by rw [h48]; rfl
        clear cN c2 htl h1 hn hh h48
        go_enter Tryd.func13, Tryd.ntmps13
        go_wp2_with fail
        refine cT.out.mono ?_
        rintro e w1 ⟨rfl, rfl⟩
        go_wp2
        go_ret
        exact ⟨rfl, Below.refl _ _⟩
      · rw [if_neg (by simpa using h48)]
        have x2 : ((t[0].toNat : Int) == 48) = false := by
          rw [beq_eq_false_iff_ne]
          intro e
          exact h48 (UInt8.toNat_inj.1 (by show _ = 48; omega))
        clear cN htl h1 hn hh h48
        generalize ((Cu.val 0 t.data.toList : Nat) : Int) = v at *
        go_enter Tryd.func13, Tryd.ntmps13
        go_wp2_with fail
        refine cT.out.mono ?_
        rintro e w1 ⟨rfl, rfl⟩
        go_wp2_with fail
        refine c2.out.mono ?_
        rintro e w2 ⟨rfl, hb⟩
        go_wp2
        go_ret
        exact ⟨rfl, hb⟩
theorem bcell_ltR {w : World} {a : Addr} {v : Value} (h : w.cell? a = some v) : a.block < w.heap.size := by
  by_cases hb : a.block < w.heap.size
  · exact hb
  · have e : w.heap[a.block]? = none := Array.getElem?_eq_none (by omega)
    simp [World.cell?, e] at h
theorem part_sizeR (sep : ByteArray) (sv : Nat) : ∀ (k : Nat) (s q : ByteArray), q ∈ splitB sep sv k s → q.size ≤ s.size
  | 0, s, q, h => by
    rw [splitB_zero, List.mem_singleton] at h
    rw [h]; exact Nat.le_refl _
  | k + 1, s, q, h => by
    unfold splitB at h
    split at h
    · rw [List.mem_singleton] at h
      rw [h]; exact Nat.le_refl _
    · rcases List.mem_cons.1 h with h | h
      · rw [h, ByteArray.size_extract]; omega
      · have := part_sizeR sep sv k _ q h
        rw [ByteArray.size_extract] at this
        omega
theorem OwnR.base {B B' : Nat} {v : Value} {P : List GRange} {w : World} (h : OwnR B v P w) (hb : B' ≤ B) : OwnR B' v P w := by
  refine ⟨h.1, ?_⟩
  rcases h.2 with h | ⟨g, cap, cur, h1, h2, h3⟩
  · exact .inl h
  · exact .inr ⟨g, cap, cur, h1, Nat.le_trans hb h2, h3⟩
theorem OwnR.nil (B : Nat) (w : World) : OwnR B (.slice none 0 0) [] w := World.ownsRow_nil w B 31 2
theorem splitB_len (sep : ByteArray) (sv : Nat) : ∀ (k : Nat) (s : ByteArray), (splitB sep sv k s).length ≤ k + 1
  | 0, s => by rw [splitB_zero]; simp
  | k + 1, s => by
    unfold splitB
    split
    · simp
    · have := splitB_len sep sv k (s.extract ((indexB s sep).toNat + sep.size) s.size)
      rw [List.length_cons]
      omega
end Go.Proofs.YtdlbkedjkkapgaaDoor
