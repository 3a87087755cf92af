
/- The walks of the model's Phrase. -/
import Derived.Test.YtgabjiamabbheaaGreatDoorPhraseTests
namespace Go.Proofs.YtgabjiamabbheaaGreatDoor
open Go.RowKit Go.Lib
set_option maxRecDepth 20000 in
theorem ix_hit (l : List UInt8) (c : UInt8) (k : Nat) (hk : k < l.length) (h : l[k] = c) : indexByte (l.drop k) c = 0 := by
  rw [Pl.drop_cons l k hk, indexByte, if_pos (by simpa using h)]
set_option maxRecDepth 20000 in
theorem ix_miss (l : List UInt8) (c : UInt8) (k : Nat) (hk : k < l.length) (h : l[k] ≠ c) : indexByte (l.drop k) c = if indexByte (l.drop (k + 1)) c == -1 then -1 else indexByte (l.drop (k + 1)) c + 1 := by
  rw [Pl.drop_cons l k hk, indexByte, if_neg (by simpa using h)]
set_option maxRecDepth 20000 in
theorem ext_one (s : ByteArray) (k : Nat) (h : k < s.size) : s.extract k (k + 1) = ⟨#[s[k]]⟩ := by
  apply ByteArray.ext
  apply Array.ext'
  rw [Pl.ext_data, Pl.drop_cons _ k (by simpa using h)]
  simp
  rfl
/-- A byte's first place in a text, looked for as a text. -/
def ixFrom (l : List UInt8) (c : UInt8) (k : Nat) : Int := if indexByte (l.drop k) c == -1 then -1 else indexByte (l.drop k) c + k
set_option maxRecDepth 20000 in
theorem ixFrom_hit (l : List UInt8) (c : UInt8) (k : Nat) (hk : k < l.length) (h : l[k] = c) : ixFrom l c k = k := by
  rw [ixFrom, ix_hit l c k hk h]; simp
set_option maxRecDepth 20000 in
theorem ixFrom_miss (l : List UInt8) (c : UInt8) (k : Nat) (hk : k < l.length) (h : l[k] ≠ c) : ixFrom l c (k + 1) = ixFrom l c k := by
  rw [ixFrom, ixFrom, ix_miss l c k hk h]
  have := indexByte_ge (l.drop (k + 1)) c
  generalize indexByte (l.drop (k + 1)) c = i at *
  by_cases hi : i = -1
  · subst hi; rfl
  · have h1 : (i == -1) = false := by simpa using hi
    have h2 : (i + 1 == -1) = false := by simp; omega
    rw [h1]
    simp only [Bool.false_eq_true, if_false, h2]
    omega
set_option maxRecDepth 20000 in
theorem ixFrom_end (l : List UInt8) (c : UInt8) (k : Nat) (hk : l.length ≤ k) : ixFrom l c k = -1 := by
  rw [ixFrom, List.drop_eq_nil_of_le hk]; rfl
set_option maxRecDepth 20000 in
set_option maxHeartbeats 1000000 in
theorem specIndex1 (s : ByteArray) (c : UInt8) (w : World) (_hs : s.size ≤ 1100000) :
    Calls Tryz.prog 71 #[.string s, .string ⟨#[c]⟩, .int .i64 0] w fun e w' => e = .returned (.int .i64 (ixFrom s.data.toList c 0)) ∧ w = w' := by
  obtain ⟨R, hR⟩ : ∃ R, ixFrom s.data.toList c 0 = R := ⟨_, rfl⟩
  rw [hR]
  have HR := (show Hid (ixFrom s.data.toList c 0 = R) from hR)
  clear hR
  have h1 : (ByteArray.mk #[c]).size = 1 := rfl
  go_enter Tryz.func71, Tryz.ntmps71
  go_wp2
  go_loopw [7] (fun i wr => ∃ k : Nat, k ≤ s.size ∧ i = .int .i64 k ∧ Hid (ixFrom s.data.toList c k = R) ∧ wr = w) (fun i _ => s.size - (Lib.intOf i).toNat)
  case atStart => exact ⟨0, Nat.zero_le _, rfl, HR, rfl⟩
  case round =>
    clear HR
    obtain ⟨k, hk, rfl, hp, rfl⟩ := hrel
    by_cases hlt : k < s.size
    · have he := ext_one s k hlt
      by_cases hc : s[k] = c
      · have hE : Hid (R = k) := show _ = _ from by rw [← hp.out, ixFrom_hit s.data.toList c k (by simpa using hlt) hc]
        rw [hc] at he
        clear hp
        go_wp2
        go_ret
        rw [hE.out]
        exact ⟨rfl, rfl⟩
      · have hE : Hid (ixFrom s.data.toList c (k + 1) = R) := show _ = _ from by rw [← hp.out, ixFrom_miss s.data.toList c k (by simpa using hlt) hc]
        have hcc : (s[k] == c) = false := by simpa using hc
        clear hp
        go_wp2
        go_roundw
        case rel => exact ⟨k + 1, by omega, by go_num, hE, trivial⟩
        case measure => simp [Lib.intOf]; omega
    · have hE : Hid (R = -1) := show _ = _ from by rw [← hp.out, ixFrom_end s.data.toList c k (by simp; omega)]
      clear hp
      go_wp2
      go_ret
      rw [hE.out]
      exact ⟨rfl, rfl⟩
set_option maxRecDepth 20000 in
theorem ix_zero (l : List UInt8) (c : UInt8) : ixFrom l c 0 = indexByte l c := by
  rw [ixFrom, List.drop_zero]
  by_cases h : indexByte l c = -1
  · rw [h]; rfl
  · have : (indexByte l c == -1) = false := by simpa using h
    rw [this]
    simp
set_option maxRecDepth 20000 in
theorem specSigns (c : UInt8) (w : World) : Calls Tryz.prog 71 #[.string ⟨#[33, 35, 36, 37, 38, 39, 42, 43, 45, 47, 61, 63, 94, 95, 123, 124, 125, 126]⟩, .string ⟨#[c]⟩, .int .i64 0] w fun e w' => e = .returned (.int .i64 (indexByte Pl.signs0 c)) ∧ w = w' := by
  refine (specIndex1 _ c w (by show 18 ≤ 1100000; omega)).mono ?_
  rintro e w' ⟨rfl, rfl⟩
  rw [ix_zero]
  exact ⟨rfl, rfl⟩
set_option maxRecDepth 20000 in
set_option maxHeartbeats 1000000 in
theorem specAtomByte (c : UInt8) (w : World) : Calls Tryz.prog 128 #[.int .u8 (c.toNat : Int)] w fun e w' => e = .returned (.bool (Pl.atom c)) ∧ Below w.heap.size w w' := by
  have h8 : c.toNat < 256 := UInt8.toNat_lt _
  have hx := fun w => specSigns c w
  have hcv : (convert 69 9 (.slice (some ⟨w.heap.size, 0, none⟩) 1 1)).run Tryz.prog (w.alloc (.cells #[.int .u8 (c.toNat : Int)] 5)) = .ok (.string ⟨#[c]⟩) (w.alloc (.cells #[.int .u8 (c.toNat : Int)] 5)) := by
    refine run_convert_bytes_back (P := Tryz.prog) _ 69 9 5 ⟨w.heap.size, 0, none⟩ 1 [c] Tryz.underlying69 Tryz.underlying5 Tryz.underlying9 ?_
    intro j hj
    match j, hj with
    | 0, hj => rw [add_off]; simp
  have hbA : Below w.heap.size w (w.alloc (.cells #[.int .u8 (c.toNat : Int)] 5)) := (Below.refl _ _).alloc (Nat.le_refl _) _
  have hb0 : Below w.heap.size w w := Below.refl _ _
  rw [← Pl.atom_eq]
  unfold Pl.atom'
  generalize indexByte Pl.signs0 c = i at hx ⊢
  cases h96 : ((c.toNat : Int) == 96)
  · have hc96 : (c == 96) = false := by simpa using Pl.byte_ne c 96 _ rfl h96
    rw [hc96, Bool.false_or]
    by_cases h32 : 32 < c.toNat
    · by_cases h127 : c.toNat < 127
      · rw [decide_eq_true h32, decide_eq_true h127, Bool.true_and, Bool.true_and]
        rcases range_cases c with ⟨h0, ha⟩ | ⟨h0, h1, ha⟩ | ⟨h0, h1, ha⟩ | ⟨h0, h1, ha⟩ | ⟨h0, h1, ha⟩ | ⟨h0, h1, ha⟩ | ⟨h0, h1, ha⟩ | ⟨h0, ha⟩ <;> rw [ha] <;> clear ha <;> (try (exfalso; omega)) <;> (try rw [Bool.false_or]) <;> (try rw [Bool.true_or])
        all_goals
          go_enter Tryz.func128, Tryz.ntmps128
          go_wp2_with (go_at_call 71; go_must (refine (hx _).mono ?_; rintro e w2 ⟨rfl, rfl⟩))
          go_ret
          first | exact ⟨rfl, hb0⟩ | exact ⟨rfl, hbA⟩
      · rw [decide_eq_true h32, decide_eq_false h127, Bool.true_and, Bool.false_and, Bool.or_false]
        rcases range_cases c with ⟨h0, ha⟩ | ⟨h0, h1, ha⟩ | ⟨h0, h1, ha⟩ | ⟨h0, h1, ha⟩ | ⟨h0, h1, ha⟩ | ⟨h0, h1, ha⟩ | ⟨h0, h1, ha⟩ | ⟨h0, ha⟩ <;> rw [ha] <;> clear ha <;> (try (exfalso; omega))
        all_goals
          go_enter Tryz.func128, Tryz.ntmps128
          go_wp2
          go_ret
          exact ⟨rfl, hb0⟩
    · rw [decide_eq_false h32, Bool.false_and, Bool.or_false]
      rcases range_cases c with ⟨h0, ha⟩ | ⟨h0, h1, ha⟩ | ⟨h0, h1, ha⟩ | ⟨h0, h1, ha⟩ | ⟨h0, h1, ha⟩ | ⟨h0, h1, ha⟩ | ⟨h0, h1, ha⟩ | ⟨h0, ha⟩ <;> rw [ha] <;> clear ha <;> (try (exfalso; omega))
      all_goals
        go_enter Tryz.func128, Tryz.ntmps128
        go_wp2
        go_ret
        exact ⟨rfl, hb0⟩
  · have hc96 : c = 96 := Pl.byte_eq c 96 _ rfl h96
    rw [show (c == 96) = true from by rw [hc96]; rfl, Bool.true_or, Bool.or_true]
    have hn : c.toNat = 96 := by rw [hc96]; rfl
    clear hc96
    go_enter Tryz.func128, Tryz.ntmps128
    go_wp2
    go_ret
    exact ⟨rfl, hb0⟩
set_option maxRecDepth 20000 in
theorem scan_atom (d : UInt8) (l : List UInt8) (k : Nat) (b : Bool) (hk : k < l.length) (h : Pl.atom l[k] = true) : Pl.scan d b (l.drop k) = Pl.scan d true (l.drop (k + 1)) := by
  rw [Pl.drop_cons l k hk, Pl.scan, if_pos h]
set_option maxRecDepth 20000 in
theorem scan_blank (d : UInt8) (l : List UInt8) (k : Nat) (hk : k < l.length) (h : Pl.atom l[k] = false) (h2 : l[k] = d) : Pl.scan d true (l.drop k) = Pl.scan d false (l.drop (k + 1)) := by
  rw [Pl.drop_cons l k hk, Pl.scan, if_neg (by rw [h]; simp), if_pos (by rw [h2]; simp)]
set_option maxRecDepth 20000 in
theorem scan_bad (d : UInt8) (l : List UInt8) (k : Nat) (b : Bool) (hk : k < l.length) (h : Pl.atom l[k] = false) (h2 : l[k] ≠ d ∨ b = false) : Pl.scan d b (l.drop k) = false := by
  rw [Pl.drop_cons l k hk, Pl.scan, if_neg (by rw [h]; simp), if_neg]
  rcases h2 with h2 | h2
  · have : (l[k] == d) = false := by simpa using h2
    rw [this]; simp
  · rw [h2]; simp
set_option maxRecDepth 20000 in
theorem scan_end (d : UInt8) (l : List UInt8) (k : Nat) (b : Bool) (hk : l.length ≤ k) : Pl.scan d b (l.drop k) = b := by
  rw [List.drop_eq_nil_of_le hk]; rfl
set_option maxRecDepth 20000 in
set_option maxHeartbeats 1000000 in
theorem specAtoms (d : UInt8) (n : Int) (hn0 : n = (d.toNat : Int)) (s : ByteArray) (w : World) (_hs : s.size ≤ 1100000) :
    Calls Tryz.prog 98 #[.string s, .int .u8 n] w fun e w' => e = .returned (.bool (Pl.scan d false s.data.toList)) ∧ Below w.heap.size w w' := by
  obtain ⟨A, hA⟩ : ∃ A, Pl.scan d false s.data.toList = A := ⟨_, rfl⟩
  rw [hA]
  have HA : Hid (Pl.scan d false (s.data.toList.drop 0) = A) := hA
  clear hA
  have Hn0 := (show Hid (n = (d.toNat : Int)) from hn0)
  clear hn0
  go_enter Tryz.func98, Tryz.ntmps98
  go_wp2
  go_loopw [5, 6] (fun v i wr => ∃ (k : Nat) (b : Bool), k ≤ s.size ∧ i = .int .i64 k ∧ v = .bool b ∧ Hid (Pl.scan d b (s.data.toList.drop k) = A) ∧ Below w.heap.size w wr) (fun _ i _ => s.size - (Lib.intOf i).toNat)
  case atStart => exact ⟨0, false, Nat.zero_le _, rfl, rfl, HA, Below.refl _ _⟩
  case round =>
    clear HA
    obtain ⟨k, b, hk, rfl, rfl, hp, hb⟩ := hrel
    by_cases hlt : k < s.size
    · have h8 : s[k].toNat < 256 := UInt8.toNat_lt _
      have hll : k < s.data.toList.length := by simpa using hlt
      have hc := fun w => specAtomByte s[k] w
      cases ha : Pl.atom s[k] <;> simp only [ha] at hc
      · cases h32 : ((s[k].toNat : Int) == n)
        · have hB : Hid (A = false) := show _ = _ from by rw [← hp.out]; exact scan_bad d _ k b hll ha (.inl (Pl.byte_ne _ d _ Hn0.out h32))
          have hn : ((s[k].toNat : Int) != n) = true := by rw [bne, h32]; rfl
          clear hp ha
          go_wp2_with (go_at_call 128; go_must (refine (hc _).mono ?_; rintro e w2 ⟨rfl, hb2⟩))
          go_ret
          exact ⟨by rw [hB.out]; rfl, hb.trans (hb2.mono hb.size)⟩
        · have hn : ((s[k].toNat : Int) != n) = false := by rw [bne, h32]; rfl
          cases b
          · have hB : Hid (A = false) := show _ = _ from by rw [← hp.out]; exact scan_bad d _ k false hll ha (.inr rfl)
            clear hp ha
            go_wp2_with (go_at_call 128; go_must (refine (hc _).mono ?_; rintro e w2 ⟨rfl, hb2⟩))
            go_ret
            exact ⟨by rw [hB.out]; rfl, hb.trans (hb2.mono hb.size)⟩
          · have hB : Hid (Pl.scan d false (s.data.toList.drop (k + 1)) = A) := show _ = _ from by rw [← hp.out]; exact (scan_blank d _ k hll ha (Pl.byte_eq _ d _ Hn0.out h32)).symm
            clear hp ha
            go_wp2_with (go_at_call 128; go_must (refine (hc _).mono ?_; rintro e w2 ⟨rfl, hb2⟩))
            go_roundw
            case rel => exact ⟨k + 1, false, by omega, by go_num, rfl, hB, hb.trans (hb2.mono hb.size)⟩
            case measure => simp [Lib.intOf]; omega
      · have hB : Hid (Pl.scan d true (s.data.toList.drop (k + 1)) = A) := show _ = _ from by rw [← hp.out]; exact (scan_atom d _ k b hll ha).symm
        clear hp ha
        go_wp2_with (go_at_call 128; go_must (refine (hc _).mono ?_; rintro e w2 ⟨rfl, hb2⟩))
        go_roundw
        case rel => exact ⟨k + 1, true, by omega, by go_num, rfl, hB, hb.trans (hb2.mono hb.size)⟩
        case measure => simp [Lib.intOf]; omega
    · have H0 : Hid (A = b) := show _ = _ from by rw [← hp.out]; exact scan_end d _ k b (by simp; omega)
      clear hp
      go_wp2
      go_ret
      exact ⟨by rw [H0.out]; rfl, hb⟩
end Go.Proofs.YtgabjiamabbheaaGreatDoor
