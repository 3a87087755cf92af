
/- The bytes of phrases and atoms. -/

/- The walks of the model's Phrase. -/

/- The walks of quoting, and of the program's Phrase. -/
import Derived.Test.YtfaeckaeaeadeaaGreatDoorBase
import Derived.Test.YtfaeckaeaeadeaaGreatDoorPhrasePlain
import Derived.Laws.OwnMore
namespace Go.Proofs.YtfaeckaeaeadeaaGreatDoor
open Go.RowKit Go.Lib
set_option maxRecDepth 20000 in
theorem tb_cases (c : UInt8) : c.toNat < 32 ∧ Pl.tb c = false ∨ 32 ≤ c.toNat ∧ ((c.toNat : Int) == 127) = true ∧ Pl.tb c = false ∨ 32 ≤ c.toNat ∧ ((c.toNat : Int) == 127) = false ∧ Pl.tb c = true := by
  by_cases h1 : c.toNat < 32
  · exact .inl ⟨h1, by simp [Pl.tb]; omega⟩
  · cases h3 : ((c.toNat : Int) == 127)
    · refine .inr (.inr ⟨by omega, rfl, ?_⟩)
      have := Pl.byte_ne c 127 _ rfl h3
      simp [Pl.tb, this]; omega
    · refine .inr (.inl ⟨by omega, rfl, ?_⟩)
      rw [Pl.byte_eq c 127 _ rfl h3]; rfl
def Pl.letter (c : UInt8) : Bool := decide (65 ≤ c.toNat ∧ c.toNat ≤ 90) || decide (97 ≤ c.toNat ∧ c.toNat ≤ 122)
def Pl.digit (c : UInt8) : Bool := decide (48 ≤ c.toNat ∧ c.toNat ≤ 57)
set_option maxRecDepth 20000 in
/-- The ranges of a byte. -/
theorem range_cases (c : UInt8) : (c.toNat < 48 ∧ Pl.alnum c = false) ∨ (48 ≤ c.toNat ∧ c.toNat ≤ 57 ∧ Pl.alnum c = true) ∨ (58 ≤ c.toNat ∧ c.toNat ≤ 64 ∧ Pl.alnum c = false) ∨ (65 ≤ c.toNat ∧ c.toNat ≤ 90 ∧ Pl.alnum c = true) ∨
    (91 ≤ c.toNat ∧ c.toNat ≤ 96 ∧ Pl.alnum c = false) ∨ (97 ≤ c.toNat ∧ c.toNat ≤ 122 ∧ Pl.alnum c = true) ∨ (123 ≤ c.toNat ∧ c.toNat ≤ 127 ∧ Pl.alnum c = false) ∨ (128 ≤ c.toNat ∧ Pl.alnum c = true) := by
  unfold Pl.alnum
  by_cases h1 : c.toNat < 48
  · exact .inl ⟨h1, by simp; omega⟩
  by_cases h2 : c.toNat ≤ 57
  · exact .inr (.inl ⟨by omega, h2, by simp; omega⟩)
  by_cases h3 : c.toNat ≤ 64
  · exact .inr (.inr (.inl ⟨by omega, h3, by simp; omega⟩))
  by_cases h4 : c.toNat ≤ 90
  · exact .inr (.inr (.inr (.inl ⟨by omega, h4, by simp; omega⟩)))
  by_cases h5 : c.toNat ≤ 96
  · exact .inr (.inr (.inr (.inr (.inl ⟨by omega, h5, by simp; omega⟩))))
  by_cases h6 : c.toNat ≤ 122
  · exact .inr (.inr (.inr (.inr (.inr (.inl ⟨by omega, h6, by simp; omega⟩)))))
  by_cases h7 : c.toNat ≤ 127
  · exact .inr (.inr (.inr (.inr (.inr (.inr (.inl ⟨by omega, h7, by simp; omega⟩))))))
  · exact .inr (.inr (.inr (.inr (.inr (.inr (.inr ⟨by omega, by simp; omega⟩))))))
set_option maxRecDepth 20000 in
theorem implLetter (c : UInt8) (w : World) : Calls Tryz.prog 118 #[.int .u8 (c.toNat : Int)] w fun e w' => e = .returned (.bool (Pl.letter c)) ∧ w = w' := by
  have h8 : c.toNat < 256 := UInt8.toNat_lt _
  rcases range_cases c with ⟨h0, ha⟩ | ⟨h0, h1, ha⟩ | ⟨h0, h1, ha⟩ | ⟨h0, h1, ha⟩ | ⟨h0, h1, ha⟩ | ⟨h0, h1, ha⟩ | ⟨h0, h1, ha⟩ | ⟨h0, ha⟩ <;> clear ha
  all_goals
    first | rw [show Pl.letter c = true from by simp [Pl.letter]; omega] | rw [show Pl.letter c = false from by simp [Pl.letter]; omega]
    go_enter Tryz.func118, Tryz.ntmps118
    go_wp2
    go_ret
    first | exact ⟨rfl, rfl⟩ | exact ⟨congrArg (fun b => Ending.returned (.bool b)) (by simp; omega), rfl⟩
set_option maxRecDepth 20000 in
theorem implDigit (c : UInt8) (w : World) : Calls Tryz.prog 119 #[.int .u8 (c.toNat : Int)] w fun e w' => e = .returned (.bool (Pl.digit c)) ∧ w = w' := by
  have h8 : c.toNat < 256 := UInt8.toNat_lt _
  by_cases h0 : 48 ≤ c.toNat
  · rw [show Pl.digit c = decide ((c.toNat : Int) ≤ 57) from by unfold Pl.digit; by_cases h : c.toNat ≤ 57 <;> simp [h] <;> omega]
    go_enter Tryz.func119, Tryz.ntmps119
    go_wp2
    go_ret
    exact ⟨rfl, rfl⟩
  · rw [show Pl.digit c = false from by simp [Pl.digit]; omega]
    go_enter Tryz.func119, Tryz.ntmps119
    go_wp2
    go_ret
    exact ⟨rfl, rfl⟩
end Go.Proofs.YtfaeckaeaeadeaaGreatDoor
namespace Go.Proofs.YtfaeckaeaeadeaaGreatDoor
open Go.RowKit Go.Lib
set_option maxRecDepth 20000 in
theorem ix_hit (l : List UInt8) (c : UInt8) (k : Nat) (hk : k < l.length) (h : l[k] = c) : indexByte (l.drop k) c = 0 := by
  rw [Pl.drop_cons l k hk, indexByte, if_pos (by simpa using h)]
set_option maxRecDepth 20000 in
theorem ix_miss (l : List UInt8) (c : UInt8) (k : Nat) (hk : k < l.length) (h : l[k] ≠ c) : indexByte (l.drop k) c = if indexByte (l.drop (k + 1)) c == -1 then -1 else indexByte (l.drop (k + 1)) c + 1 := by
  rw [Pl.drop_cons l k hk, indexByte, if_neg (by simpa using h)]
set_option maxRecDepth 20000 in
theorem ext_one (s : ByteArray) (k : Nat) (h : k < s.size) : s.extract k (k + 1) = ⟨#[s[k]]⟩ := by
  apply ByteArray.ext
  apply Array.ext'
  rw [Pl.ext_data, Pl.drop_cons _ k (by simpa using h)]
  simp
  rfl
/-- A byte's first place in a text, looked for as a text. -/
def ixFrom (l : List UInt8) (c : UInt8) (k : Nat) : Int := if indexByte (l.drop k) c == -1 then -1 else indexByte (l.drop k) c + k
set_option maxRecDepth 20000 in
theorem ixFrom_hit (l : List UInt8) (c : UInt8) (k : Nat) (hk : k < l.length) (h : l[k] = c) : ixFrom l c k = k := by
  rw [ixFrom, ix_hit l c k hk h]; simp
set_option maxRecDepth 20000 in
theorem ixFrom_miss (l : List UInt8) (c : UInt8) (k : Nat) (hk : k < l.length) (h : l[k] ≠ c) : ixFrom l c (k + 1) = ixFrom l c k := by
  rw [ixFrom, ixFrom, ix_miss l c k hk h]
  have := indexByte_ge (l.drop (k + 1)) c
  generalize indexByte (l.drop (k + 1)) c = i at *
  by_cases hi : i = -1
  · subst hi; rfl
  · have h1 : (i == -1) = false := by simpa using hi
    have h2 : (i + 1 == -1) = false := by simp; omega
    rw [h1]
    simp only [Bool.false_eq_true, if_false, h2]
    omega
set_option maxRecDepth 20000 in
theorem ixFrom_end (l : List UInt8) (c : UInt8) (k : Nat) (hk : l.length ≤ k) : ixFrom l c k = -1 := by
  rw [ixFrom, List.drop_eq_nil_of_le hk]; rfl
set_option maxRecDepth 20000 in
set_option maxHeartbeats 1000000 in
theorem specIndex1 (s : ByteArray) (c : UInt8) (w : World) (_hs : s.size ≤ 1100000) :
    Calls Tryz.prog 87 #[.string s, .string ⟨#[c]⟩, .int .i64 0] w fun e w' => e = .returned (.int .i64 (ixFrom s.data.toList c 0)) ∧ w = w' := by
  obtain ⟨R, hR⟩ : ∃ R, ixFrom s.data.toList c 0 = R := ⟨_, rfl⟩
  rw [hR]
  have HR := (show Hid (ixFrom s.data.toList c 0 = R) from hR)
  clear hR
  have h1 : (ByteArray.mk #[c]).size = 1 := rfl
  go_enter Tryz.func87, Tryz.ntmps87
  go_wp2
  go_loopw [7] (fun i wr => ∃ k : Nat, k ≤ s.size ∧ i = .int .i64 k ∧ Hid (ixFrom s.data.toList c k = R) ∧ wr = w) (fun i _ => s.size - (Lib.intOf i).toNat)
  case atStart => exact ⟨0, Nat.zero_le _, rfl, HR, rfl⟩
  case round =>
    clear HR
    obtain ⟨k, hk, rfl, hp, rfl⟩ := hrel
    by_cases hlt : k < s.size
    · have he := ext_one s k hlt
      by_cases hc : s[k] = c
      · have hE : Hid (R = k) := show _ = _ from by rw [← hp.out, ixFrom_hit s.data.toList c k (by simpa using hlt) hc]
        rw [hc] at he
        clear hp
        go_wp2
        go_ret
        rw [hE.out]
        exact ⟨rfl, rfl⟩
      · have hE : Hid (ixFrom s.data.toList c (k + 1) = R) := show _ = _ from by rw [← hp.out, ixFrom_miss s.data.toList c k (by simpa using hlt) hc]
        have hcc : (s[k] == c) = false := by simpa using hc
        clear hp
        go_wp2
        go_roundw
        case rel => exact ⟨k + 1, by omega, by go_num, hE, trivial⟩
        case measure => simp [Lib.intOf]; omega
    · have hE : Hid (R = -1) := show _ = _ from by rw [← hp.out, ixFrom_end s.data.toList c k (by simp; omega)]
      clear hp
      go_wp2
      go_ret
      rw [hE.out]
      exact ⟨rfl, rfl⟩
set_option maxRecDepth 20000 in
theorem ix_zero (l : List UInt8) (c : UInt8) : ixFrom l c 0 = indexByte l c := by
  rw [ixFrom, List.drop_zero]
  by_cases h : indexByte l c = -1
  · rw [h]; rfl
  · have : (indexByte l c == -1) = false := by simpa using h
    rw [this]
    simp
set_option maxRecDepth 20000 in
theorem specSigns (c : UInt8) (w : World) : Calls Tryz.prog 87 #[.string ⟨#[33, 35, 36, 37, 38, 39, 42, 43, 45, 47, 61, 63, 94, 95, 123, 124, 125, 126]⟩, .string ⟨#[c]⟩, .int .i64 0] w fun e w' => e = .returned (.int .i64 (indexByte Pl.signs0 c)) ∧ w = w' := by
  refine (specIndex1 _ c w (by show 18 ≤ 1100000; omega)).mono ?_
  rintro e w' ⟨rfl, rfl⟩
  rw [ix_zero]
  exact ⟨rfl, rfl⟩
set_option maxRecDepth 20000 in
theorem scan_atom (d : UInt8) (l : List UInt8) (k : Nat) (b : Bool) (hk : k < l.length) (h : Pl.atom l[k] = true) : Pl.scan d b (l.drop k) = Pl.scan d true (l.drop (k + 1)) := by
  rw [Pl.drop_cons l k hk, Pl.scan, if_pos h]
set_option maxRecDepth 20000 in
theorem scan_blank (d : UInt8) (l : List UInt8) (k : Nat) (hk : k < l.length) (h : Pl.atom l[k] = false) (h2 : l[k] = d) : Pl.scan d true (l.drop k) = Pl.scan d false (l.drop (k + 1)) := by
  rw [Pl.drop_cons l k hk, Pl.scan, if_neg (by rw [h]; simp), if_pos (by rw [h2]; simp)]
set_option maxRecDepth 20000 in
theorem scan_bad (d : UInt8) (l : List UInt8) (k : Nat) (b : Bool) (hk : k < l.length) (h : Pl.atom l[k] = false) (h2 : l[k] ≠ d ∨ b = false) : Pl.scan d b (l.drop k) = false := by
  rw [Pl.drop_cons l k hk, Pl.scan, if_neg (by rw [h]; simp), if_neg]
  rcases h2 with h2 | h2
  · have : (l[k] == d) = false := by simpa using h2
    rw [this]; simp
  · rw [h2]; simp
set_option maxRecDepth 20000 in
theorem scan_end (d : UInt8) (l : List UInt8) (k : Nat) (b : Bool) (hk : l.length ≤ k) : Pl.scan d b (l.drop k) = b := by
  rw [List.drop_eq_nil_of_le hk]; rfl
end Go.Proofs.YtfaeckaeaeadeaaGreatDoor
namespace Go.Proofs.YtfaeckaeaeadeaaGreatDoor
open Go.RowKit Go.Lib
set_option maxRecDepth 20000 in
set_option maxHeartbeats 1000000 in
theorem specQuote (s : ByteArray) (w : World) (hs : s.size ≤ 100000) :
    Calls Tryz.prog 23 #[.string s] w fun e w' => e = .returned (.string ⟨(34 :: Pl.qs s.data.toList ++ [34]).toArray⟩) ∧ Below w.heap.size w w' := by
  obtain ⟨i0, hi, hy0, hy1, hy2⟩ := info_parts Tryz.info5
  obtain ⟨X, hX⟩ : ∃ X, 34 :: Pl.qs s.data.toList = X := ⟨_, rfl⟩
  rw [hX]
  have HX : Hid ([34] ++ Pl.qs (s.data.toList.drop 0) = X) := hX
  clear hX
  have hown0 : Own w.heap.size (.slice (some ⟨w.heap.size, 0, none⟩) 1 1) [34] (w.alloc (.cells #[.int .u8 34] 5)) := World.ownsRow_lit w #[.int .u8 34] 1 (Nat.le_refl _) (by unfold maxLen; omega) rfl
  have Hown0 := (show Hid _ from hown0)
  clear hown0
  go_enter Tryz.func23, Tryz.ntmps23
  go_wp2
  go_loopw [3, 4] (fun v i wr => ∃ (k : Nat) (p : List UInt8), k ≤ s.size ∧ i = .int .i64 k ∧ p.length ≤ 1 + 2 * k ∧ Hid (p ++ Pl.qs (s.data.toList.drop k) = X) ∧ Own w.heap.size v p wr ∧ Below w.heap.size w wr) (fun _ i _ => s.size - (Lib.intOf i).toNat)
  case atStart => exact ⟨0, [34], Nat.zero_le _, rfl, by simp, HX, Hown0.out, (Below.refl _ _).alloc (Nat.le_refl _) _⟩
  case round =>
    clear HX Hown0
    obtain ⟨k, p, hk, rfl, hpl, hp, hown, hb⟩ := hrel
    by_cases hlt : k < s.size
    · have h8 : s[k].toNat < 256 := UInt8.toNat_lt _
      have hll : k < s.data.toList.length := by simpa using hlt
      cases h34 : ((s[k].toNat : Int) == 34)
      · cases h92 : ((s[k].toNat : Int) == 92)
        · have hg : Hid ((p ++ [s[k]]) ++ Pl.qs (s.data.toList.drop (k + 1)) = X) := Pl.qs_plain s.data.toList p X k hll (by
            have a := Pl.byte_ne _ 34 _ rfl h34
            have b := Pl.byte_ne _ 92 _ rfl h92
            show (s[k] == 34 || s[k] == 92) = false
            simp [a, b]) hp.out
          clear hp
          go_wp2_with (at_builtin; go_must (refine wp_app (W := w) rfl _ _ 56 rfl i0 Tryz.underlying56 hi hy0 hy1 hy2 w.heap.size u3 p rfl hown _ [s[k]] rfl 1 1 rfl rfl (by simp; omega) (Nat.le_refl _) hb ?_; intro v' w' hown' hb'))
          go_roundw
          case rel => exact ⟨k + 1, _, by omega, by go_num, by simp; omega, hg, hown', hb'⟩
          case measure => simp [Lib.intOf]; omega
        · have hg : Hid ((p ++ [92] ++ [s[k]]) ++ Pl.qs (s.data.toList.drop (k + 1)) = X) := Pl.qs_esc s.data.toList p X k hll (by
            show (s[k] == 34 || s[k] == 92) = true
            rw [Pl.byte_eq _ 92 _ rfl h92]; rfl) hp.out
          clear hp
          go_wp2_with (at_builtin; go_must (first | (refine wp_app (W := w) rfl _ _ 56 rfl i0 Tryz.underlying56 hi hy0 hy1 hy2 w.heap.size v' (p ++ [92]) rfl hown' _ [s[k]] rfl 1 1 rfl rfl (by simp; omega) (Nat.le_refl _) hb' ?_; intro v2 w2 hown2 hb2) | (refine wp_app (W := w) rfl _ _ 56 rfl i0 Tryz.underlying56 hi hy0 hy1 hy2 w.heap.size u3 p rfl hown _ [92] rfl 1 1 rfl rfl (by simp; omega) (Nat.le_refl _) hb ?_; intro v' w' hown' hb')))
          go_roundw
          case rel => exact ⟨k + 1, _, by omega, by go_num, by simp; omega, hg, hown2, hb2⟩
          case measure => simp [Lib.intOf]; omega
      · have hg : Hid ((p ++ [92] ++ [s[k]]) ++ Pl.qs (s.data.toList.drop (k + 1)) = X) := Pl.qs_esc s.data.toList p X k hll (by
          show (s[k] == 34 || s[k] == 92) = true
          rw [Pl.byte_eq _ 34 _ rfl h34]; rfl) hp.out
        clear hp
        go_wp2_with (at_builtin; go_must (first | (refine wp_app (W := w) rfl _ _ 56 rfl i0 Tryz.underlying56 hi hy0 hy1 hy2 w.heap.size v' (p ++ [92]) rfl hown' _ [s[k]] rfl 1 1 rfl rfl (by simp; omega) (Nat.le_refl _) hb' ?_; intro v2 w2 hown2 hb2) | (refine wp_app (W := w) rfl _ _ 56 rfl i0 Tryz.underlying56 hi hy0 hy1 hy2 w.heap.size u3 p rfl hown _ [92] rfl 1 1 rfl rfl (by simp; omega) (Nat.le_refl _) hb ?_; intro v' w' hown' hb')))
        go_roundw
        case rel => exact ⟨k + 1, _, by omega, by go_num, by simp; omega, hg, hown2, hb2⟩
        case measure => simp [Lib.intOf]; omega
    · have hpn : Hid (p = X) := Pl.qs_done s.data.toList p X k (by simp; omega) hp.out
      clear hp
      go_wp2_with (at_builtin; go_must (refine wp_app (W := w) rfl _ _ 56 rfl i0 Tryz.underlying56 hi hy0 hy1 hy2 w.heap.size u3 p rfl hown _ [34] rfl 1 1 rfl rfl (by simp; omega) (Nat.le_refl _) hb ?_; intro v' w' hown' hb'; have hbk := hown'.back (P := Tryz.prog) 56 9 Tryz.underlying56 Tryz.underlying5 Tryz.underlying9))
      go_ret
      rw [← hpn.out]
      exact ⟨rfl, hb'⟩
set_option maxRecDepth 20000 in
set_option maxHeartbeats 1000000 in
theorem implQuotes (s : ByteArray) (w : World) (hs : s.size ≤ 100000) :
    Calls Tryz.prog 35 #[.string s] w fun e w' => e = .returned (.string ⟨(34 :: Pl.qs s.data.toList ++ [34]).toArray⟩) ∧ Below w.heap.size w w' := by
  obtain ⟨i0, hi, hy0, hy1, hy2⟩ := info_parts Tryz.info5
  obtain ⟨X, hX⟩ : ∃ X, 34 :: Pl.qs s.data.toList = X := ⟨_, rfl⟩
  rw [hX]
  have HX : Hid ([34] ++ Pl.qs (s.data.toList.drop 0) = X) := hX
  clear hX
  have hown0 : Own w.heap.size (.slice (some ⟨w.heap.size, 0, none⟩) 1 1) [34] (w.alloc (.cells #[.int .u8 34] 5)) := World.ownsRow_lit w #[.int .u8 34] 1 (Nat.le_refl _) (by unfold maxLen; omega) rfl
  have Hown0 := (show Hid _ from hown0)
  clear hown0
  go_enter Tryz.func35, Tryz.ntmps35
  go_wp2
  go_loopw [3, 4, 8] (fun v _ i wr => ∃ (k : Nat) (p : List UInt8), k ≤ s.size ∧ i = .int .i64 k ∧ p.length ≤ 1 + 2 * k ∧ Hid (p ++ Pl.qs (s.data.toList.drop k) = X) ∧ Own w.heap.size v p wr ∧ Below w.heap.size w wr) (fun _ _ i _ => s.size - (Lib.intOf i).toNat)
  case atStart => exact ⟨0, [34], Nat.zero_le _, rfl, by simp, HX, Hown0.out, (Below.refl _ _).alloc (Nat.le_refl _) _⟩
  case round =>
    clear HX Hown0
    obtain ⟨k, p, hk, rfl, hpl, hp, hown, hb⟩ := hrel
    by_cases hlt : k < s.size
    · have h8 : s[k].toNat < 256 := UInt8.toNat_lt _
      have hll : k < s.data.toList.length := by simpa using hlt
      cases h34 : ((s[k].toNat : Int) == 34)
      · cases h92 : ((s[k].toNat : Int) == 92)
        · have hg : Hid ((p ++ [s[k]]) ++ Pl.qs (s.data.toList.drop (k + 1)) = X) := Pl.qs_plain s.data.toList p X k hll (by
            have a := Pl.byte_ne _ 34 _ rfl h34
            have b := Pl.byte_ne _ 92 _ rfl h92
            show (s[k] == 34 || s[k] == 92) = false
            simp [a, b]) hp.out
          clear hp
          go_wp2_with (at_builtin; go_must (refine wp_app (W := w) rfl _ _ 56 rfl i0 Tryz.underlying56 hi hy0 hy1 hy2 w.heap.size u3 p rfl hown _ [s[k]] rfl 1 1 rfl rfl (by simp; omega) (Nat.le_refl _) hb ?_; intro v' w' hown' hb'))
          go_roundw
          case rel => exact ⟨k + 1, _, by omega, by go_num, by simp; omega, hg, hown', hb'⟩
          case measure => simp [Lib.intOf]; omega
        · have hg : Hid ((p ++ [92] ++ [s[k]]) ++ Pl.qs (s.data.toList.drop (k + 1)) = X) := Pl.qs_esc s.data.toList p X k hll (by
            show (s[k] == 34 || s[k] == 92) = true
            rw [Pl.byte_eq _ 92 _ rfl h92]; rfl) hp.out
          clear hp
          go_wp2_with (at_builtin; go_must (first | (refine wp_app (W := w) rfl _ _ 56 rfl i0 Tryz.underlying56 hi hy0 hy1 hy2 w.heap.size v' (p ++ [92]) rfl hown' _ [s[k]] rfl 1 1 rfl rfl (by simp; omega) (Nat.le_refl _) hb' ?_; intro v2 w2 hown2 hb2) | (refine wp_app (W := w) rfl _ _ 56 rfl i0 Tryz.underlying56 hi hy0 hy1 hy2 w.heap.size u3 p rfl hown _ [92] rfl 1 1 rfl rfl (by simp; omega) (Nat.le_refl _) hb ?_; intro v' w' hown' hb')))
          go_roundw
          case rel => exact ⟨k + 1, _, by omega, by go_num, by simp; omega, hg, hown2, hb2⟩
          case measure => simp [Lib.intOf]; omega
      · have hg : Hid ((p ++ [92] ++ [s[k]]) ++ Pl.qs (s.data.toList.drop (k + 1)) = X) := Pl.qs_esc s.data.toList p X k hll (by
          show (s[k] == 34 || s[k] == 92) = true
          rw [Pl.byte_eq _ 34 _ rfl h34]; rfl) hp.out
        clear hp
        go_wp2_with (at_builtin; go_must (first | (refine wp_app (W := w) rfl _ _ 56 rfl i0 Tryz.underlying56 hi hy0 hy1 hy2 w.heap.size v' (p ++ [92]) rfl hown' _ [s[k]] rfl 1 1 rfl rfl (by simp; omega) (Nat.le_refl _) hb' ?_; intro v2 w2 hown2 hb2) | (refine wp_app (W := w) rfl _ _ 56 rfl i0 Tryz.underlying56 hi hy0 hy1 hy2 w.heap.size u3 p rfl hown _ [92] rfl 1 1 rfl rfl (by simp; omega) (Nat.le_refl _) hb ?_; intro v' w' hown' hb')))
        go_roundw
        case rel => exact ⟨k + 1, _, by omega, by go_num, by simp; omega, hg, hown2, hb2⟩
        case measure => simp [Lib.intOf]; omega
    · have hpn : Hid (p = X) := Pl.qs_done s.data.toList p X k (by simp; omega) hp.out
      clear hp
      go_wp2_with (at_builtin; go_must (refine wp_app (W := w) rfl _ _ 56 rfl i0 Tryz.underlying56 hi hy0 hy1 hy2 w.heap.size u3 p rfl hown _ [34] rfl 1 1 rfl rfl (by simp; omega) (Nat.le_refl _) hb ?_; intro v' w' hown' hb'; have hbk := hown'.back (P := Tryz.prog) 56 9 Tryz.underlying56 Tryz.underlying5 Tryz.underlying9))
      go_ret
      rw [← hpn.out]
      exact ⟨rfl, hb'⟩
end Go.Proofs.YtfaeckaeaeadeaaGreatDoor
