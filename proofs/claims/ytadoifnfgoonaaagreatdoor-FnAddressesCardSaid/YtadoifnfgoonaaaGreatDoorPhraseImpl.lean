
/- The walks of the model's Phrase. -/

/- The walks of quoting, and of the program's Phrase. -/

/- The walks of the two Phrase. -/
import Derived.Test.YtadoifnfgoonaaaGreatDoorPhraseTests
import Derived.Laws.OwnMore
namespace Go.Proofs.YtadoifnfgoonaaaGreatDoor
open Go.RowKit Go.Lib
set_option maxRecDepth 20000 in
theorem ix_hit (l : List UInt8) (c : UInt8) (k : Nat) (hk : k < l.length) (h : l[k] = c) : indexByte (l.drop k) c = 0 := by
  rw [Pl.drop_cons l k hk, indexByte, if_pos (by simpa using h)]
set_option maxRecDepth 20000 in
theorem ix_miss (l : List UInt8) (c : UInt8) (k : Nat) (hk : k < l.length) (h : l[k] ≠ c) : indexByte (l.drop k) c = if indexByte (l.drop (k + 1)) c == -1 then -1 else indexByte (l.drop (k + 1)) c + 1 := by
  rw [Pl.drop_cons l k hk, indexByte, if_neg (by simpa using h)]
set_option maxRecDepth 20000 in
theorem ext_one (s : ByteArray) (k : Nat) (h : k < s.size) : s.extract k (k + 1) = ⟨#[s[k]]⟩ := by
  apply ByteArray.ext
  apply Array.ext'
  rw [Pl.ext_data, Pl.drop_cons _ k (by simpa using h)]
  simp
  rfl
/-- A byte's first place in a text, looked for as a text. -/
def ixFrom (l : List UInt8) (c : UInt8) (k : Nat) : Int := if indexByte (l.drop k) c == -1 then -1 else indexByte (l.drop k) c + k
set_option maxRecDepth 20000 in
theorem ixFrom_hit (l : List UInt8) (c : UInt8) (k : Nat) (hk : k < l.length) (h : l[k] = c) : ixFrom l c k = k := by
  rw [ixFrom, ix_hit l c k hk h]; simp
set_option maxRecDepth 20000 in
theorem ixFrom_miss (l : List UInt8) (c : UInt8) (k : Nat) (hk : k < l.length) (h : l[k] ≠ c) : ixFrom l c (k + 1) = ixFrom l c k := by
  rw [ixFrom, ixFrom, ix_miss l c k hk h]
  have := indexByte_ge (l.drop (k + 1)) c
  generalize indexByte (l.drop (k + 1)) c = i at *
  by_cases hi : i = -1
  · subst hi; rfl
  · have h1 : (i == -1) = false := by simpa using hi
    have h2 : (i + 1 == -1) = false := by simp; omega
    rw [h1]
    simp only [Bool.false_eq_true, if_false, h2]
    omega
set_option maxRecDepth 20000 in
theorem ixFrom_end (l : List UInt8) (c : UInt8) (k : Nat) (hk : l.length ≤ k) : ixFrom l c k = -1 := by
  rw [ixFrom, List.drop_eq_nil_of_le hk]; rfl
set_option maxRecDepth 20000 in
set_option maxHeartbeats 1000000 in
theorem specIndex1 (s : ByteArray) (c : UInt8) (w : World) (_hs : s.size ≤ 1100000) :
    Calls Tryz.prog 98 #[.string s, .string ⟨#[c]⟩, .int .i64 0] w fun e w' => e = .returned (.int .i64 (ixFrom s.data.toList c 0)) ∧ w = w' := by
  obtain ⟨R, hR⟩ : ∃ R, ixFrom s.data.toList c 0 = R := ⟨_, rfl⟩
  rw [hR]
  have HR := (show Hid (ixFrom s.data.toList c 0 = R) from hR)
  clear hR
  have h1 : (ByteArray.mk #[c]).size = 1 := rfl
  go_enter Tryz.func98, Tryz.ntmps98
  go_wp2
  go_loopw [7] (fun i wr => ∃ k : Nat, k ≤ s.size ∧ i = .int .i64 k ∧ Hid (ixFrom s.data.toList c k = R) ∧ wr = w) (fun i _ => s.size - (Lib.intOf i).toNat)
  case atStart => exact ⟨0, Nat.zero_le _, rfl, HR, rfl⟩
  case round =>
    clear HR
    obtain ⟨k, hk, rfl, hp, rfl⟩ := hrel
    by_cases hlt : k < s.size
    · have he := ext_one s k hlt
      by_cases hc : s[k] = c
      · have hE : Hid (R = k) := show _ = _ from by rw [← hp.out, ixFrom_hit s.data.toList c k (by simpa using hlt) hc]
        rw [hc] at he
        clear hp
        go_wp2
        go_ret
        rw [hE.out]
        exact ⟨rfl, rfl⟩
      · have hE : Hid (ixFrom s.data.toList c (k + 1) = R) := show _ = _ from by rw [← hp.out, ixFrom_miss s.data.toList c k (by simpa using hlt) hc]
        have hcc : (s[k] == c) = false := by simpa using hc
        clear hp
        go_wp2
        go_roundw
        case rel => exact ⟨k + 1, by omega, by go_num, hE, trivial⟩
        case measure => simp [Lib.intOf]; omega
    · have hE : Hid (R = -1) := show _ = _ from by rw [← hp.out, ixFrom_end s.data.toList c k (by simp; omega)]
      clear hp
      go_wp2
      go_ret
      rw [hE.out]
      exact ⟨rfl, rfl⟩
set_option maxRecDepth 20000 in
theorem ix_zero (l : List UInt8) (c : UInt8) : ixFrom l c 0 = indexByte l c := by
  rw [ixFrom, List.drop_zero]
  by_cases h : indexByte l c = -1
  · rw [h]; rfl
  · have : (indexByte l c == -1) = false := by simpa using h
    rw [this]
    simp
set_option maxRecDepth 20000 in
theorem specSigns (c : UInt8) (w : World) : Calls Tryz.prog 98 #[.string ⟨#[33, 35, 36, 37, 38, 39, 42, 43, 45, 47, 61, 63, 94, 95, 123, 124, 125, 126]⟩, .string ⟨#[c]⟩, .int .i64 0] w fun e w' => e = .returned (.int .i64 (indexByte Pl.signs0 c)) ∧ w = w' := by
  refine (specIndex1 _ c w (by show 18 ≤ 1100000; omega)).mono ?_
  rintro e w' ⟨rfl, rfl⟩
  rw [ix_zero]
  exact ⟨rfl, rfl⟩
set_option maxRecDepth 20000 in
set_option maxHeartbeats 1000000 in
theorem specAtomByte (c : UInt8) (w : World) : Calls Tryz.prog 69 #[.int .u8 (c.toNat : Int)] w fun e w' => e = .returned (.bool (Pl.atom c)) ∧ Below w.heap.size w w' := by
  have h8 : c.toNat < 256 := UInt8.toNat_lt _
  have hx := fun w => specSigns c w
  have hcv : (convert 22 9 (.slice (some ⟨w.heap.size, 0, none⟩) 1 1)).run Tryz.prog (w.alloc (.cells #[.int .u8 (c.toNat : Int)] 5)) = .ok (.string ⟨#[c]⟩) (w.alloc (.cells #[.int .u8 (c.toNat : Int)] 5)) := by
    refine run_convert_bytes_back (P := Tryz.prog) _ 22 9 5 ⟨w.heap.size, 0, none⟩ 1 [c] Tryz.underlying22 Tryz.underlying5 Tryz.underlying9 ?_
    intro j hj
    match j, hj with
    | 0, hj => rw [add_off]; simp
  have hbA : Below w.heap.size w (w.alloc (.cells #[.int .u8 (c.toNat : Int)] 5)) := (Below.refl _ _).alloc (Nat.le_refl _) _
  have hb0 : Below w.heap.size w w := Below.refl _ _
  rw [← Pl.atom_eq]
  unfold Pl.atom'
  generalize indexByte Pl.signs0 c = i at hx ⊢
  cases h96 : ((c.toNat : Int) == 96)
  · have hc96 : (c == 96) = false := by simpa using Pl.byte_ne c 96 _ rfl h96
    rw [hc96, Bool.false_or]
    by_cases h32 : 32 < c.toNat
    · by_cases h127 : c.toNat < 127
      · rw [decide_eq_true h32, decide_eq_true h127, Bool.true_and, Bool.true_and]
        rcases range_cases c with ⟨h0, ha⟩ | ⟨h0, h1, ha⟩ | ⟨h0, h1, ha⟩ | ⟨h0, h1, ha⟩ | ⟨h0, h1, ha⟩ | ⟨h0, h1, ha⟩ | ⟨h0, h1, ha⟩ | ⟨h0, ha⟩ <;> rw [ha] <;> clear ha <;> (try (exfalso; omega)) <;> (try rw [Bool.false_or]) <;> (try rw [Bool.true_or])
        all_goals
          go_enter Tryz.func69, Tryz.ntmps69
          go_wp2_with (go_at_call 98; go_must (refine (hx _).mono ?_; rintro e w2 ⟨rfl, rfl⟩))
          go_ret
          first | exact ⟨rfl, hb0⟩ | exact ⟨rfl, hbA⟩
      · rw [decide_eq_true h32, decide_eq_false h127, Bool.true_and, Bool.false_and, Bool.or_false]
        rcases range_cases c with ⟨h0, ha⟩ | ⟨h0, h1, ha⟩ | ⟨h0, h1, ha⟩ | ⟨h0, h1, ha⟩ | ⟨h0, h1, ha⟩ | ⟨h0, h1, ha⟩ | ⟨h0, h1, ha⟩ | ⟨h0, ha⟩ <;> rw [ha] <;> clear ha <;> (try (exfalso; omega))
        all_goals
          go_enter Tryz.func69, Tryz.ntmps69
          go_wp2
          go_ret
          exact ⟨rfl, hb0⟩
    · rw [decide_eq_false h32, Bool.false_and, Bool.or_false]
      rcases range_cases c with ⟨h0, ha⟩ | ⟨h0, h1, ha⟩ | ⟨h0, h1, ha⟩ | ⟨h0, h1, ha⟩ | ⟨h0, h1, ha⟩ | ⟨h0, h1, ha⟩ | ⟨h0, h1, ha⟩ | ⟨h0, ha⟩ <;> rw [ha] <;> clear ha <;> (try (exfalso; omega))
      all_goals
        go_enter Tryz.func69, Tryz.ntmps69
        go_wp2
        go_ret
        exact ⟨rfl, hb0⟩
  · have hc96 : c = 96 := Pl.byte_eq c 96 _ rfl h96
    rw [show (c == 96) = true from by rw [hc96]; rfl, Bool.true_or, Bool.or_true]
    have hn : c.toNat = 96 := by rw [hc96]; rfl
    clear hc96
    go_enter Tryz.func69, Tryz.ntmps69
    go_wp2
    go_ret
    exact ⟨rfl, hb0⟩
set_option maxRecDepth 20000 in
set_option maxHeartbeats 1000000 in
theorem specClean (s : ByteArray) (w : World) (_hs : s.size ≤ 1100000) :
    Calls Tryz.prog 45 #[.string s] w fun e w' => e = .returned (.bool (s.data.toList.all Pl.tb)) ∧ w = w' := by
  obtain ⟨A, hA⟩ : ∃ A, s.data.toList.all Pl.tb = A := ⟨_, rfl⟩
  rw [hA]
  have HA : Hid ((s.data.toList.drop 0).all Pl.tb = A) := hA
  clear hA
  go_enter Tryz.func45, Tryz.ntmps45
  go_wp2
  go_loopw [3] (fun i wr => ∃ k : Nat, k ≤ s.size ∧ i = .int .i64 k ∧ Hid ((s.data.toList.drop k).all Pl.tb = A) ∧ wr = w) (fun i _ => s.size - (Lib.intOf i).toNat)
  case atStart => exact ⟨0, Nat.zero_le _, rfl, HA, rfl⟩
  case round =>
    clear HA
    obtain ⟨k, hk, rfl, hp, rfl⟩ := hrel
    by_cases hlt : k < s.size
    · have h8 : s[k].toNat < 256 := UInt8.toNat_lt _
      have hst : Hid ((s.data.toList.drop k).all Pl.tb = (Pl.tb s[k] && (s.data.toList.drop (k + 1)).all Pl.tb)) := Pl.all_step Pl.tb s.data.toList k (by simpa using hlt)
      have bad : Pl.tb s[k] = false → Hid (A = false) := by
        intro h
        have := hst.out
        rw [h, Bool.false_and, hp.out] at this
        exact this
      rcases tb_cases s[k] with ⟨h, hb⟩ | ⟨h, h1, hb⟩ | ⟨h, h1, hb⟩
      · have hB := bad hb
        clear bad hb hst hp
        go_wp2
        go_ret
        exact ⟨by rw [hB.out]; rfl, rfl⟩
      · have hB := bad hb
        clear bad hb hst hp
        go_wp2
        go_ret
        exact ⟨by rw [hB.out]; rfl, rfl⟩
      · have hg : Hid ((s.data.toList.drop (k + 1)).all Pl.tb = A) := show _ = _ from by
          have := hst.out
          rw [hb, Bool.true_and, hp.out] at this
          exact this.symm
        clear bad hb hst hp
        go_wp2
        go_roundw
        case rel => exact ⟨k + 1, by omega, by go_num, hg, trivial⟩
        case measure => simp [Lib.intOf]; omega
    · have H0 : Hid (A = true) := show _ = _ from by rw [← hp.out]; exact Pl.all_done Pl.tb _ k (by simp; omega)
      clear hp
      go_wp2
      go_ret
      exact ⟨by rw [H0.out]; rfl, rfl⟩
set_option maxRecDepth 20000 in
theorem scan_atom (d : UInt8) (l : List UInt8) (k : Nat) (b : Bool) (hk : k < l.length) (h : Pl.atom l[k] = true) : Pl.scan d b (l.drop k) = Pl.scan d true (l.drop (k + 1)) := by
  rw [Pl.drop_cons l k hk, Pl.scan, if_pos h]
set_option maxRecDepth 20000 in
theorem scan_blank (d : UInt8) (l : List UInt8) (k : Nat) (hk : k < l.length) (h : Pl.atom l[k] = false) (h2 : l[k] = d) : Pl.scan d true (l.drop k) = Pl.scan d false (l.drop (k + 1)) := by
  rw [Pl.drop_cons l k hk, Pl.scan, if_neg (by rw [h]; simp), if_pos (by rw [h2]; simp)]
set_option maxRecDepth 20000 in
theorem scan_bad (d : UInt8) (l : List UInt8) (k : Nat) (b : Bool) (hk : k < l.length) (h : Pl.atom l[k] = false) (h2 : l[k] ≠ d ∨ b = false) : Pl.scan d b (l.drop k) = false := by
  rw [Pl.drop_cons l k hk, Pl.scan, if_neg (by rw [h]; simp), if_neg]
  rcases h2 with h2 | h2
  · have : (l[k] == d) = false := by simpa using h2
    rw [this]; simp
  · rw [h2]; simp
set_option maxRecDepth 20000 in
theorem scan_end (d : UInt8) (l : List UInt8) (k : Nat) (b : Bool) (hk : l.length ≤ k) : Pl.scan d b (l.drop k) = b := by
  rw [List.drop_eq_nil_of_le hk]; rfl
set_option maxRecDepth 20000 in
set_option maxHeartbeats 1000000 in
theorem specAtoms (d : UInt8) (n : Int) (hn0 : n = (d.toNat : Int)) (s : ByteArray) (w : World) (_hs : s.size ≤ 1100000) :
    Calls Tryz.prog 47 #[.string s, .int .u8 n] w fun e w' => e = .returned (.bool (Pl.scan d false s.data.toList)) ∧ Below w.heap.size w w' := by
  obtain ⟨A, hA⟩ : ∃ A, Pl.scan d false s.data.toList = A := ⟨_, rfl⟩
  rw [hA]
  have HA : Hid (Pl.scan d false (s.data.toList.drop 0) = A) := hA
  clear hA
  have Hn0 := (show Hid (n = (d.toNat : Int)) from hn0)
  clear hn0
  go_enter Tryz.func47, Tryz.ntmps47
  go_wp2
  go_loopw [5, 6] (fun v i wr => ∃ (k : Nat) (b : Bool), k ≤ s.size ∧ i = .int .i64 k ∧ v = .bool b ∧ Hid (Pl.scan d b (s.data.toList.drop k) = A) ∧ Below w.heap.size w wr) (fun _ i _ => s.size - (Lib.intOf i).toNat)
  case atStart => exact ⟨0, false, Nat.zero_le _, rfl, rfl, HA, Below.refl _ _⟩
  case round =>
    clear HA
    obtain ⟨k, b, hk, rfl, rfl, hp, hb⟩ := hrel
    by_cases hlt : k < s.size
    · have h8 : s[k].toNat < 256 := UInt8.toNat_lt _
      have hll : k < s.data.toList.length := by simpa using hlt
      have hc := fun w => specAtomByte s[k] w
      cases ha : Pl.atom s[k] <;> simp only [ha] at hc
      · cases h32 : ((s[k].toNat : Int) == n)
        · have hB : Hid (A = false) := show _ = _ from by rw [← hp.out]; exact scan_bad d _ k b hll ha (.inl (Pl.byte_ne _ d _ Hn0.out h32))
          have hn : ((s[k].toNat : Int) != n) = true := by rw [bne, h32]; rfl
          clear hp ha
          go_wp2_with (go_at_call 69; go_must (refine (hc _).mono ?_; rintro e w2 ⟨rfl, hb2⟩))
          go_ret
          exact ⟨by rw [hB.out]; rfl, hb.trans (hb2.mono hb.size)⟩
        · have hn : ((s[k].toNat : Int) != n) = false := by rw [bne, h32]; rfl
          cases b
          · have hB : Hid (A = false) := show _ = _ from by rw [← hp.out]; exact scan_bad d _ k false hll ha (.inr rfl)
            clear hp ha
            go_wp2_with (go_at_call 69; go_must (refine (hc _).mono ?_; rintro e w2 ⟨rfl, hb2⟩))
            go_ret
            exact ⟨by rw [hB.out]; rfl, hb.trans (hb2.mono hb.size)⟩
          · have hB : Hid (Pl.scan d false (s.data.toList.drop (k + 1)) = A) := show _ = _ from by rw [← hp.out]; exact (scan_blank d _ k hll ha (Pl.byte_eq _ d _ Hn0.out h32)).symm
            clear hp ha
            go_wp2_with (go_at_call 69; go_must (refine (hc _).mono ?_; rintro e w2 ⟨rfl, hb2⟩))
            go_roundw
            case rel => exact ⟨k + 1, false, by omega, by go_num, rfl, hB, hb.trans (hb2.mono hb.size)⟩
            case measure => simp [Lib.intOf]; omega
      · have hB : Hid (Pl.scan d true (s.data.toList.drop (k + 1)) = A) := show _ = _ from by rw [← hp.out]; exact (scan_atom d _ k b hll ha).symm
        clear hp ha
        go_wp2_with (go_at_call 69; go_must (refine (hc _).mono ?_; rintro e w2 ⟨rfl, hb2⟩))
        go_roundw
        case rel => exact ⟨k + 1, true, by omega, by go_num, rfl, hB, hb.trans (hb2.mono hb.size)⟩
        case measure => simp [Lib.intOf]; omega
    · have H0 : Hid (A = b) := show _ = _ from by rw [← hp.out]; exact scan_end d _ k b (by simp; omega)
      clear hp
      go_wp2
      go_ret
      exact ⟨by rw [H0.out]; rfl, hb⟩
end Go.Proofs.YtadoifnfgoonaaaGreatDoor
namespace Go.Proofs.YtadoifnfgoonaaaGreatDoor
open Go.RowKit Go.Lib
set_option maxRecDepth 20000 in
set_option maxHeartbeats 1000000 in
theorem specQuote (s : ByteArray) (w : World) (hs : s.size ≤ 100000) :
    Calls Tryz.prog 48 #[.string s] w fun e w' => e = .returned (.string ⟨(34 :: Pl.qs s.data.toList ++ [34]).toArray⟩) ∧ Below w.heap.size w w' := by
  obtain ⟨i0, hi, hy0, hy1, hy2⟩ := info_parts Tryz.info5
  obtain ⟨X, hX⟩ : ∃ X, 34 :: Pl.qs s.data.toList = X := ⟨_, rfl⟩
  rw [hX]
  have HX : Hid ([34] ++ Pl.qs (s.data.toList.drop 0) = X) := hX
  clear hX
  have hown0 : Own w.heap.size (.slice (some ⟨w.heap.size, 0, none⟩) 1 1) [34] (w.alloc (.cells #[.int .u8 34] 5)) := World.ownsRow_lit w #[.int .u8 34] 1 (Nat.le_refl _) (by unfold maxLen; omega) rfl
  have Hown0 := (show Hid _ from hown0)
  clear hown0
  go_enter Tryz.func48, Tryz.ntmps48
  go_wp2
  go_loopw [3, 4] (fun v i wr => ∃ (k : Nat) (p : List UInt8), k ≤ s.size ∧ i = .int .i64 k ∧ p.length ≤ 1 + 2 * k ∧ Hid (p ++ Pl.qs (s.data.toList.drop k) = X) ∧ Own w.heap.size v p wr ∧ Below w.heap.size w wr) (fun _ i _ => s.size - (Lib.intOf i).toNat)
  case atStart => exact ⟨0, [34], Nat.zero_le _, rfl, by simp, HX, Hown0.out, (Below.refl _ _).alloc (Nat.le_refl _) _⟩
  case round =>
    clear HX Hown0
    obtain ⟨k, p, hk, rfl, hpl, hp, hown, hb⟩ := hrel
    by_cases hlt : k < s.size
    · have h8 : s[k].toNat < 256 := UInt8.toNat_lt _
      have hll : k < s.data.toList.length := by simpa using hlt
      cases h34 : ((s[k].toNat : Int) == 34)
      · cases h92 : ((s[k].toNat : Int) == 92)
        · have hg : Hid ((p ++ [s[k]]) ++ Pl.qs (s.data.toList.drop (k + 1)) = X) := Pl.qs_plain s.data.toList p X k hll (by
            have a := Pl.byte_ne _ 34 _ rfl h34
            have b := Pl.byte_ne _ 92 _ rfl h92
            show (s[k] == 34 || s[k] == 92) = false
            simp [a, b]) hp.out
          clear hp
          go_wp2_with (at_builtin; go_must (refine wp_app (W := w) rfl _ _ 22 rfl i0 Tryz.underlying22 hi hy0 hy1 hy2 w.heap.size u3 p rfl hown _ [s[k]] rfl 1 1 rfl rfl (by simp; omega) (Nat.le_refl _) hb ?_; intro v' w' hown' hb'))
          go_roundw
          case rel => exact ⟨k + 1, _, by omega, by go_num, by simp; omega, hg, hown', hb'⟩
          case measure => simp [Lib.intOf]; omega
        · have hg : Hid ((p ++ [92] ++ [s[k]]) ++ Pl.qs (s.data.toList.drop (k + 1)) = X) := Pl.qs_esc s.data.toList p X k hll (by
            show (s[k] == 34 || s[k] == 92) = true
            rw [Pl.byte_eq _ 92 _ rfl h92]; rfl) hp.out
          clear hp
          go_wp2_with (at_builtin; go_must (first | (refine wp_app (W := w) rfl _ _ 22 rfl i0 Tryz.underlying22 hi hy0 hy1 hy2 w.heap.size v' (p ++ [92]) rfl hown' _ [s[k]] rfl 1 1 rfl rfl (by simp; omega) (Nat.le_refl _) hb' ?_; intro v2 w2 hown2 hb2) | (refine wp_app (W := w) rfl _ _ 22 rfl i0 Tryz.underlying22 hi hy0 hy1 hy2 w.heap.size u3 p rfl hown _ [92] rfl 1 1 rfl rfl (by simp; omega) (Nat.le_refl _) hb ?_; intro v' w' hown' hb')))
          go_roundw
          case rel => exact ⟨k + 1, _, by omega, by go_num, by simp; omega, hg, hown2, hb2⟩
          case measure => simp [Lib.intOf]; omega
      · have hg : Hid ((p ++ [92] ++ [s[k]]) ++ Pl.qs (s.data.toList.drop (k + 1)) = X) := Pl.qs_esc s.data.toList p X k hll (by
          show (s[k] == 34 || s[k] == 92) = true
          rw [Pl.byte_eq _ 34 _ rfl h34]; rfl) hp.out
        clear hp
        go_wp2_with (at_builtin; go_must (first | (refine wp_app (W := w) rfl _ _ 22 rfl i0 Tryz.underlying22 hi hy0 hy1 hy2 w.heap.size v' (p ++ [92]) rfl hown' _ [s[k]] rfl 1 1 rfl rfl (by simp; omega) (Nat.le_refl _) hb' ?_; intro v2 w2 hown2 hb2) | (refine wp_app (W := w) rfl _ _ 22 rfl i0 Tryz.underlying22 hi hy0 hy1 hy2 w.heap.size u3 p rfl hown _ [92] rfl 1 1 rfl rfl (by simp; omega) (Nat.le_refl _) hb ?_; intro v' w' hown' hb')))
        go_roundw
        case rel => exact ⟨k + 1, _, by omega, by go_num, by simp; omega, hg, hown2, hb2⟩
        case measure => simp [Lib.intOf]; omega
    · have hpn : Hid (p = X) := Pl.qs_done s.data.toList p X k (by simp; omega) hp.out
      clear hp
      go_wp2_with (at_builtin; go_must (refine wp_app (W := w) rfl _ _ 22 rfl i0 Tryz.underlying22 hi hy0 hy1 hy2 w.heap.size u3 p rfl hown _ [34] rfl 1 1 rfl rfl (by simp; omega) (Nat.le_refl _) hb ?_; intro v' w' hown' hb'; have hbk := hown'.back (P := Tryz.prog) 22 9 Tryz.underlying22 Tryz.underlying5 Tryz.underlying9))
      go_ret
      rw [← hpn.out]
      exact ⟨rfl, hb'⟩
set_option maxRecDepth 20000 in
set_option maxHeartbeats 1000000 in
theorem implQuotes (s : ByteArray) (w : World) (hs : s.size ≤ 100000) :
    Calls Tryz.prog 36 #[.string s] w fun e w' => e = .returned (.string ⟨(34 :: Pl.qs s.data.toList ++ [34]).toArray⟩) ∧ Below w.heap.size w w' := by
  obtain ⟨i0, hi, hy0, hy1, hy2⟩ := info_parts Tryz.info5
  obtain ⟨X, hX⟩ : ∃ X, 34 :: Pl.qs s.data.toList = X := ⟨_, rfl⟩
  rw [hX]
  have HX : Hid ([34] ++ Pl.qs (s.data.toList.drop 0) = X) := hX
  clear hX
  have hown0 : Own w.heap.size (.slice (some ⟨w.heap.size, 0, none⟩) 1 1) [34] (w.alloc (.cells #[.int .u8 34] 5)) := World.ownsRow_lit w #[.int .u8 34] 1 (Nat.le_refl _) (by unfold maxLen; omega) rfl
  have Hown0 := (show Hid _ from hown0)
  clear hown0
  go_enter Tryz.func36, Tryz.ntmps36
  go_wp2
  go_loopw [3, 4, 8] (fun v _ i wr => ∃ (k : Nat) (p : List UInt8), k ≤ s.size ∧ i = .int .i64 k ∧ p.length ≤ 1 + 2 * k ∧ Hid (p ++ Pl.qs (s.data.toList.drop k) = X) ∧ Own w.heap.size v p wr ∧ Below w.heap.size w wr) (fun _ _ i _ => s.size - (Lib.intOf i).toNat)
  case atStart => exact ⟨0, [34], Nat.zero_le _, rfl, by simp, HX, Hown0.out, (Below.refl _ _).alloc (Nat.le_refl _) _⟩
  case round =>
    clear HX Hown0
    obtain ⟨k, p, hk, rfl, hpl, hp, hown, hb⟩ := hrel
    by_cases hlt : k < s.size
    · have h8 : s[k].toNat < 256 := UInt8.toNat_lt _
      have hll : k < s.data.toList.length := by simpa using hlt
      cases h34 : ((s[k].toNat : Int) == 34)
      · cases h92 : ((s[k].toNat : Int) == 92)
        · have hg : Hid ((p ++ [s[k]]) ++ Pl.qs (s.data.toList.drop (k + 1)) = X) := Pl.qs_plain s.data.toList p X k hll (by
            have a := Pl.byte_ne _ 34 _ rfl h34
            have b := Pl.byte_ne _ 92 _ rfl h92
            show (s[k] == 34 || s[k] == 92) = false
            simp [a, b]) hp.out
          clear hp
          go_wp2_with (at_builtin; go_must (refine wp_app (W := w) rfl _ _ 22 rfl i0 Tryz.underlying22 hi hy0 hy1 hy2 w.heap.size u3 p rfl hown _ [s[k]] rfl 1 1 rfl rfl (by simp; omega) (Nat.le_refl _) hb ?_; intro v' w' hown' hb'))
          go_roundw
          case rel => exact ⟨k + 1, _, by omega, by go_num, by simp; omega, hg, hown', hb'⟩
          case measure => simp [Lib.intOf]; omega
        · have hg : Hid ((p ++ [92] ++ [s[k]]) ++ Pl.qs (s.data.toList.drop (k + 1)) = X) := Pl.qs_esc s.data.toList p X k hll (by
            show (s[k] == 34 || s[k] == 92) = true
            rw [Pl.byte_eq _ 92 _ rfl h92]; rfl) hp.out
          clear hp
          go_wp2_with (at_builtin; go_must (first | (refine wp_app (W := w) rfl _ _ 22 rfl i0 Tryz.underlying22 hi hy0 hy1 hy2 w.heap.size v' (p ++ [92]) rfl hown' _ [s[k]] rfl 1 1 rfl rfl (by simp; omega) (Nat.le_refl _) hb' ?_; intro v2 w2 hown2 hb2) | (refine wp_app (W := w) rfl _ _ 22 rfl i0 Tryz.underlying22 hi hy0 hy1 hy2 w.heap.size u3 p rfl hown _ [92] rfl 1 1 rfl rfl (by simp; omega) (Nat.le_refl _) hb ?_; intro v' w' hown' hb')))
          go_roundw
          case rel => exact ⟨k + 1, _, by omega, by go_num, by simp; omega, hg, hown2, hb2⟩
          case measure => simp [Lib.intOf]; omega
      · have hg : Hid ((p ++ [92] ++ [s[k]]) ++ Pl.qs (s.data.toList.drop (k + 1)) = X) := Pl.qs_esc s.data.toList p X k hll (by
          show (s[k] == 34 || s[k] == 92) = true
          rw [Pl.byte_eq _ 34 _ rfl h34]; rfl) hp.out
        clear hp
        go_wp2_with (at_builtin; go_must (first | (refine wp_app (W := w) rfl _ _ 22 rfl i0 Tryz.underlying22 hi hy0 hy1 hy2 w.heap.size v' (p ++ [92]) rfl hown' _ [s[k]] rfl 1 1 rfl rfl (by simp; omega) (Nat.le_refl _) hb' ?_; intro v2 w2 hown2 hb2) | (refine wp_app (W := w) rfl _ _ 22 rfl i0 Tryz.underlying22 hi hy0 hy1 hy2 w.heap.size u3 p rfl hown _ [92] rfl 1 1 rfl rfl (by simp; omega) (Nat.le_refl _) hb ?_; intro v' w' hown' hb')))
        go_roundw
        case rel => exact ⟨k + 1, _, by omega, by go_num, by simp; omega, hg, hown2, hb2⟩
        case measure => simp [Lib.intOf]; omega
    · have hpn : Hid (p = X) := Pl.qs_done s.data.toList p X k (by simp; omega) hp.out
      clear hp
      go_wp2_with (at_builtin; go_must (refine wp_app (W := w) rfl _ _ 22 rfl i0 Tryz.underlying22 hi hy0 hy1 hy2 w.heap.size u3 p rfl hown _ [34] rfl 1 1 rfl rfl (by simp; omega) (Nat.le_refl _) hb ?_; intro v' w' hown' hb'; have hbk := hown'.back (P := Tryz.prog) 22 9 Tryz.underlying22 Tryz.underlying5 Tryz.underlying9))
      go_ret
      rw [← hpn.out]
      exact ⟨rfl, hb'⟩
end Go.Proofs.YtadoifnfgoonaaaGreatDoor
namespace Go.Proofs.YtadoifnfgoonaaaGreatDoor
open Go.RowKit Go.Lib
set_option maxRecDepth 20000 in
theorem part_size (sep : ByteArray) (sv : Nat) : ∀ (k : Nat) (s q : ByteArray), q ∈ splitB sep sv k s → q.size ≤ s.size
  | 0, s, q, h => by
    rw [splitB_zero, List.mem_singleton] at h
    rw [h]; exact Nat.le_refl _
  | k + 1, s, q, h => by
    unfold splitB at h
    split at h
    · rw [List.mem_singleton] at h
      rw [h]; exact Nat.le_refl _
    · rcases List.mem_cons.1 h with h | h
      · rw [h, ByteArray.size_extract]; omega
      · have := part_size sep sv k _ q h
        rw [ByteArray.size_extract] at this
        omega
set_option maxRecDepth 20000 in
theorem parts_all (d : UInt8) (hd : Pl.atom d = false) (s : ByteArray) : ((splitB ⟨#[d]⟩ 0 (countB s ⟨#[d]⟩) s).all fun q => Pl.okA q.data.toList) = Pl.scan d false s.data.toList := by
  rw [← Pl.scan_all d hd, ← Pl.split_sp]
  have := splitB_data ⟨#[d]⟩ 0 (countB s ⟨#[d]⟩) s
  rw [show (ByteArray.mk #[d]).data.toList = [d] from rfl] at this
  rw [show count s.data.toList [d] = countB s ⟨#[d]⟩ from rfl, ← this, List.all_map]
  rfl
set_option maxRecDepth 20000 in
theorem bcell_lt {w : World} {a : Addr} {v : Value} (h : w.cell? a = some v) : a.block < w.heap.size := by
  by_cases hb : a.block < w.heap.size
  · exact hb
  · have e : w.heap[a.block]? = none := Array.getElem?_eq_none (by omega)
    simp [World.cell?, e] at h
set_option maxRecDepth 20000 in
set_option maxHeartbeats 1000000 in
theorem implAreAtoms (d : UInt8) (hd : Pl.atom d = false) (s : ByteArray) (m : Int) (w : World) (hs : s.size ≤ 100000) (hm : w.cell? ⟨1, 0, none⟩ = some (.int .i64 m)) :
    Calls Tryz.prog 35 #[.string s, .string ⟨#[d]⟩] w fun e w' => e = .returned (.bool (Pl.scan d false s.data.toList)) ∧ Below w.heap.size w w' := by
  have h1 : (ByteArray.mk #[d]).size = 1 := rfl
  have hsp := Tryz.strings_Split s ⟨#[d]⟩ m w (by omega) hm (by omega)
  have hln := splitB_all ⟨#[d]⟩ (by omega) 0 _ s rfl
  have hsz := part_size ⟨#[d]⟩ 0 (countB s ⟨#[d]⟩) s
  have hcl := countB_le ⟨#[d]⟩ (by omega) s.size s (Nat.le_refl _)
  rw [← parts_all d hd]
  rw [← hln] at hsp
  generalize hP : splitB ⟨#[d]⟩ 0 (countB s ⟨#[d]⟩) s = parts at hsp hln hsz ⊢
  obtain ⟨A, hA⟩ : ∃ A, (parts.all fun q => Pl.okA q.data.toList) = A := ⟨_, rfl⟩
  rw [hA]
  have HA : Hid (((parts.drop 0).all fun q => Pl.okA q.data.toList) = A) := hA
  have Hsz := (show Hid (∀ q, q ∈ parts → q.size ≤ s.size) from fun q hq => hsz q hq)
  have hn : parts.length ≤ 100001 := by omega
  obtain ⟨W1, hW1⟩ : ∃ W1, w.alloc (.cells (parts.map Value.string).toArray 9) = W1 := ⟨_, rfl⟩
  have hcell : Hid (∀ k (h : k < parts.length), W1.cell? ⟨w.heap.size, k, none⟩ = some (.string parts[k])) := show ∀ k (h : k < parts.length), _ from by
    intro k h
    rw [← hW1]
    simp [h]
  have hbW : Below w.heap.size w W1 := by rw [← hW1]; exact (Below.refl _ _).alloc (Nat.le_refl _) _
  rw [hW1] at hsp
  have hadd := fun k => add_off w.heap.size k
  clear hd hA hP hsz hln hcl hm hW1
  go_enter Tryz.func35, Tryz.ntmps35
  go_wp2_with fail
  refine hsp.mono ?_
  rintro e w1 ⟨rfl, rfl⟩
  clear hsp
  go_wp2
  go_loopw [6, 11] (fun _ i wr => ∃ k : Nat, k ≤ parts.length ∧ i = .int .i64 k ∧ Hid (((parts.drop k).all fun q => Pl.okA q.data.toList) = A) ∧ wr = w1) (fun _ i _ => parts.length - (Lib.intOf i).toNat)
  case atStart => exact ⟨0, Nat.zero_le _, rfl, HA, rfl⟩
  case round =>
    clear HA
    obtain ⟨k, hk, rfl, hp, rfl⟩ := hrel
    by_cases hlt : k < parts.length
    · have hc := hcell.out k hlt
      have hq := Hsz.out parts[k] (List.getElem_mem _)
      have hst : Hid (((parts.drop k).all fun q => Pl.okA q.data.toList) = (Pl.okA parts[k].data.toList && ((parts.drop (k + 1)).all fun q => Pl.okA q.data.toList))) := show _ = _ from by
        rw [List.drop_eq_getElem_cons hlt, List.all_cons]
      generalize parts[k] = q at hc hq hst
      have hall := fun w => implAllOf kindAtom q w (by omega)
      by_cases h0 : q.size = 0
      · have hE : q.toList.isEmpty = true := by
          rw [ByteArray.toList_eq, List.isEmpty_iff]
          exact List.length_eq_zero_iff.1 (by rw [Pl.len_list]; exact h0)
        have hB : Hid (A = false) := show _ = _ from by
          rw [← hp.out, hst.out]
          rw [ByteArray.toList_eq] at hE
          simp [Pl.okA, hE]
        clear hp hst
        go_wp2
        go_ret
        exact ⟨by rw [hB.out]; rfl, hbW⟩
      · have hE : q.toList.isEmpty = false := by
          rw [ByteArray.toList_eq, List.isEmpty_eq_false_iff]
          intro e
          exact h0 (by rw [← Pl.len_list, e]; rfl)
        cases hall2 : q.data.toList.all Pl.atom <;> simp only [hall2] at hall
        · have hB : Hid (A = false) := show _ = _ from by
            rw [← hp.out, hst.out, Pl.okA, hall2, Bool.and_false, Bool.false_and]
          clear hp hst hall2
          go_wp2_with (go_at_call 62; go_must (refine (hall _).mono ?_; rintro e w2 ⟨rfl, rfl⟩))
          go_ret
          exact ⟨by rw [hB.out]; rfl, hbW⟩
        · have hB : Hid (((parts.drop (k + 1)).all fun q => Pl.okA q.data.toList) = A) := show _ = _ from by
            have := hst.out
            rw [ByteArray.toList_eq] at hE
            rw [hp.out, Pl.okA, hall2, hE, Bool.not_false, Bool.true_and, Bool.true_and] at this
            exact this.symm
          clear hp hst hall2
          go_wp2_with (go_at_call 62; go_must (refine (hall _).mono ?_; rintro e w2 ⟨rfl, rfl⟩))
          go_roundw
          case rel => exact ⟨k + 1, by omega, by go_num, hB, trivial⟩
          case measure => simp [Lib.intOf]; omega
    · have H0 : Hid (A = true) := show _ = _ from by rw [← hp.out, List.drop_eq_nil_of_le (by omega)]; rfl
      clear hp
      go_wp2
      go_ret
      exact ⟨by rw [H0.out]; rfl, hbW⟩
set_option maxRecDepth 20000 in
set_option maxHeartbeats 1000000 in
theorem implPhrase (s : ByteArray) (m : Int) (w : World) (hs : s.size ≤ 100000) (hm : w.cell? ⟨1, 0, none⟩ = some (.int .i64 m)) :
    Calls Tryz.prog 37 #[.string s] w fun e w' => e = .returned (.string ⟨(Pl.phrase s.data.toList).toArray⟩) ∧ Below w.heap.size w w' := by
  have ht := implTooLong s w (by omega)
  rw [decide_eq_false (by omega)] at ht
  have ha := implAllOf kindText s w (by omega)
  have hat := implAreAtoms 32 Pl.atom_blank s m w hs hm
  clear hm
  cases hT : s.data.toList.all Pl.tb
  · have hE : Hid (Pl.phrase s.data.toList = []) := show _ = _ from by rw [Pl.phrase, if_neg (by rw [hT]; simp)]
    rw [hT] at ha
    clear hT hat
    go_enter Tryz.func37, Tryz.ntmps37
    go_wp2_with fail
    refine ht.mono ?_
    rintro e w1 ⟨rfl, rfl⟩
    go_wp2_with fail
    refine ha.mono ?_
    rintro e w1 ⟨rfl, rfl⟩
    go_wp2
    go_ret
    rw [hE.out]
    exact ⟨rfl, Below.refl _ _⟩
  · rw [hT] at ha
    cases hA : Pl.scan 32 false s.data.toList
    · have hE : Hid (Pl.phrase s.data.toList = 34 :: Pl.qs s.data.toList ++ [34]) := show _ = _ from by rw [Pl.phrase, if_pos hT, if_neg (by rw [hA]; simp)]
      rw [hA] at hat
      clear hT hA
      go_enter Tryz.func37, Tryz.ntmps37
      go_wp2_with fail
      refine ht.mono ?_
      rintro e w1 ⟨rfl, rfl⟩
      go_wp2_with fail
      refine ha.mono ?_
      rintro e w1 ⟨rfl, rfl⟩
      go_wp2_with fail
      refine hat.mono ?_
      rintro e w1 ⟨rfl, hb1⟩
      go_wp2_with fail
      refine (implQuotes s _ hs).mono ?_
      rintro e w2 ⟨rfl, hb2⟩
      go_wp2
      go_ret
      rw [hE.out]
      exact ⟨rfl, hb1.trans (hb2.mono hb1.size)⟩
    · have hE : Hid (Pl.phrase s.data.toList = s.data.toList) := show _ = _ from by rw [Pl.phrase, if_pos hT, if_pos hA]
      rw [hA] at hat
      clear hT hA
      go_enter Tryz.func37, Tryz.ntmps37
      go_wp2_with fail
      refine ht.mono ?_
      rintro e w1 ⟨rfl, rfl⟩
      go_wp2_with fail
      refine ha.mono ?_
      rintro e w1 ⟨rfl, rfl⟩
      go_wp2_with fail
      refine hat.mono ?_
      rintro e w1 ⟨rfl, hb1⟩
      go_wp2_with fail
      refine (libClone s _ (by omega)).mono ?_
      rintro e w2 ⟨rfl, hb2⟩
      go_wp2
      go_ret
      rw [hE.out]
      exact ⟨rfl, hb1.trans (hb2.mono hb1.size)⟩
set_option maxRecDepth 20000 in
set_option maxHeartbeats 1000000 in
theorem specPhrase (s : ByteArray) (w : World) (hs : s.size ≤ 100000) :
    Calls Tryz.prog 27 #[.string s] w fun e w' => e = .returned (.string ⟨(Pl.phrase s.data.toList).toArray⟩) ∧ Below w.heap.size w w' := by
  have hc0 : decide ((100000 : Int) < (s.size : Int)) = false := by simp; omega
  have ha := specClean s w (by omega)
  have hat := specAtoms 32 32 rfl s w (by omega)
  cases hT : s.data.toList.all Pl.tb
  · have hE : Hid (Pl.phrase s.data.toList = []) := show _ = _ from by rw [Pl.phrase, if_neg (by rw [hT]; simp)]
    rw [hT] at ha
    clear hT hat
    go_enter Tryz.func27, Tryz.ntmps27
    go_wp2_with fail
    refine ha.mono ?_
    rintro e w1 ⟨rfl, rfl⟩
    go_wp2
    go_ret
    rw [hE.out]
    exact ⟨rfl, Below.refl _ _⟩
  · rw [hT] at ha
    cases hA : Pl.scan 32 false s.data.toList
    · have hE : Hid (Pl.phrase s.data.toList = 34 :: Pl.qs s.data.toList ++ [34]) := show _ = _ from by rw [Pl.phrase, if_pos hT, if_neg (by rw [hA]; simp)]
      rw [hA] at hat
      clear hT hA
      go_enter Tryz.func27, Tryz.ntmps27
      go_wp2_with fail
      refine ha.mono ?_
      rintro e w1 ⟨rfl, rfl⟩
      go_wp2_with fail
      refine hat.mono ?_
      rintro e w1 ⟨rfl, hb1⟩
      go_wp2_with fail
      refine (specQuote s _ hs).mono ?_
      rintro e w2 ⟨rfl, hb2⟩
      go_wp2
      go_ret
      rw [hE.out]
      exact ⟨rfl, hb1.trans (hb2.mono hb1.size)⟩
    · have hE : Hid (Pl.phrase s.data.toList = s.data.toList) := show _ = _ from by rw [Pl.phrase, if_pos hT, if_pos hA]
      rw [hA] at hat
      clear hT hA
      go_enter Tryz.func27, Tryz.ntmps27
      go_wp2_with fail
      refine ha.mono ?_
      rintro e w1 ⟨rfl, rfl⟩
      go_wp2_with fail
      refine hat.mono ?_
      rintro e w1 ⟨rfl, hb1⟩
      go_wp2
      go_ret
      rw [hE.out]
      exact ⟨rfl, hb1⟩
end Go.Proofs.YtadoifnfgoonaaaGreatDoor
