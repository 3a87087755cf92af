
/- The walks of the model's Phrase. -/

/- The walks of quoting, and of the program's Phrase. -/

/- The walks of the two Phrase. -/

/- Plain mathematics of domains and boxes: lists of bytes alone; no program. -/

/- The walks of the two DomainFault. -/

/- The walks of the two AddressFault, and of the law's own helpers. -/
import Derived.Test.YtillilllceeonaaDoorPhraseTests
import Derived.Laws.OwnMore
import Derived.Deep.QuietTactic
namespace Go.Proofs.YtillilllceeonaaDoor
open Go.RowKit Go.Lib
set_option maxRecDepth 20000 in
theorem ix_hit (l : List UInt8) (c : UInt8) (k : Nat) (hk : k < l.length) (h : l[k] = c) : indexByte (l.drop k) c = 0 := by
  rw [Pl.drop_cons l k hk, indexByte, if_pos (by simpa using h)]
set_option maxRecDepth 20000 in
theorem ix_miss (l : List UInt8) (c : UInt8) (k : Nat) (hk : k < l.length) (h : l[k] ≠ c) : indexByte (l.drop k) c = if indexByte (l.drop (k + 1)) c == -1 then -1 else indexByte (l.drop (k + 1)) c + 1 := by
  rw [Pl.drop_cons l k hk, indexByte, if_neg (by simpa using h)]
set_option maxRecDepth 20000 in
theorem ext_one (s : ByteArray) (k : Nat) (h : k < s.size) : s.extract k (k + 1) = ⟨#[s[k]]⟩ := by
  apply ByteArray.ext
  apply Array.ext'
  rw [Pl.ext_data, Pl.drop_cons _ k (by simpa using h)]
  simp
  rfl
/-- A byte's first place in a text, looked for as a text. -/
def ixFrom (l : List UInt8) (c : UInt8) (k : Nat) : Int := if indexByte (l.drop k) c == -1 then -1 else indexByte (l.drop k) c + k
set_option maxRecDepth 20000 in
theorem ixFrom_hit (l : List UInt8) (c : UInt8) (k : Nat) (hk : k < l.length) (h : l[k] = c) : ixFrom l c k = k := by
  rw [ixFrom, ix_hit l c k hk h]; simp
set_option maxRecDepth 20000 in
theorem ixFrom_miss (l : List UInt8) (c : UInt8) (k : Nat) (hk : k < l.length) (h : l[k] ≠ c) : ixFrom l c (k + 1) = ixFrom l c k := by
  rw [ixFrom, ixFrom, ix_miss l c k hk h]
  have := indexByte_ge (l.drop (k + 1)) c
  generalize indexByte (l.drop (k + 1)) c = i at *
  by_cases hi : i = -1
  · subst hi; rfl
  · have h1 : (i == -1) = false := by simpa using hi
    have h2 : (i + 1 == -1) = false := by simp; omega
    rw [h1]
    simp only [Bool.false_eq_true, if_false, h2]
    omega
set_option maxRecDepth 20000 in
theorem ixFrom_end (l : List UInt8) (c : UInt8) (k : Nat) (hk : l.length ≤ k) : ixFrom l c k = -1 := by
  rw [ixFrom, List.drop_eq_nil_of_le hk]; rfl
set_option maxRecDepth 20000 in
set_option maxHeartbeats 1000000 in
theorem specIndex1 (s : ByteArray) (c : UInt8) (w : World) (_hs : s.size ≤ 1100000) :
    Calls Tryd.prog 80 #[.string s, .string ⟨#[c]⟩, .int .i64 0] w fun e w' => e = .returned (.int .i64 (ixFrom s.data.toList c 0)) ∧ w = w' := by
  obtain ⟨R, hR⟩ : ∃ R, ixFrom s.data.toList c 0 = R := ⟨_, rfl⟩
  rw [hR]
  have HR := (show Hid (ixFrom s.data.toList c 0 = R) from hR)
  clear hR
  have h1 : (ByteArray.mk #[c]).size = 1 := rfl
  go_enter Tryd.func80, Tryd.ntmps80
  go_wp2
  go_loopw [7] (fun i wr => ∃ k : Nat, k ≤ s.size ∧ i = .int .i64 k ∧ Hid (ixFrom s.data.toList c k = R) ∧ wr = w) (fun i _ => s.size - (Lib.intOf i).toNat)
  case atStart => exact ⟨0, Nat.zero_le _, rfl, HR, rfl⟩
  case round =>
    clear HR
    obtain ⟨k, hk, rfl, hp, rfl⟩ := hrel
    by_cases hlt : k < s.size
    · have he := ext_one s k hlt
      by_cases hc : s[k] = c
      · have hE : Hid (R = k) := show _ = _ from by rw [← hp.out, ixFrom_hit s.data.toList c k (by simpa using hlt) hc]
        rw [hc] at he
        clear hp
        go_wp2
        go_ret
        rw [hE.out]
        exact ⟨rfl, rfl⟩
      · have hE : Hid (ixFrom s.data.toList c (k + 1) = R) := show _ = _ from by rw [← hp.out, ixFrom_miss s.data.toList c k (by simpa using hlt) hc]
        have hcc : (s[k] == c) = false := by simpa using hc
        clear hp
        go_wp2
        go_roundw
        case rel => exact ⟨k + 1, by omega, by go_num, hE, trivial⟩
        case measure => simp [Lib.intOf]; omega
    · have hE : Hid (R = -1) := show _ = _ from by rw [← hp.out, ixFrom_end s.data.toList c k (by simp; omega)]
      clear hp
      go_wp2
      go_ret
      rw [hE.out]
      exact ⟨rfl, rfl⟩
set_option maxRecDepth 20000 in
theorem ix_zero (l : List UInt8) (c : UInt8) : ixFrom l c 0 = indexByte l c := by
  rw [ixFrom, List.drop_zero]
  by_cases h : indexByte l c = -1
  · rw [h]; rfl
  · have : (indexByte l c == -1) = false := by simpa using h
    rw [this]
    simp
set_option maxRecDepth 20000 in
theorem specSigns (c : UInt8) (w : World) : Calls Tryd.prog 80 #[.string ⟨#[33, 35, 36, 37, 38, 39, 42, 43, 45, 47, 61, 63, 94, 95, 123, 124, 125, 126]⟩, .string ⟨#[c]⟩, .int .i64 0] w fun e w' => e = .returned (.int .i64 (indexByte Pl.signs0 c)) ∧ w = w' := by
  refine (specIndex1 _ c w (by show 18 ≤ 1100000; omega)).mono ?_
  rintro e w' ⟨rfl, rfl⟩
  rw [ix_zero]
  exact ⟨rfl, rfl⟩
set_option maxRecDepth 20000 in
set_option maxHeartbeats 1000000 in
theorem specAtomByte (c : UInt8) (w : World) : Calls Tryd.prog 78 #[.int .u8 (c.toNat : Int)] w fun e w' => e = .returned (.bool (Pl.atom c)) ∧ Below w.heap.size w w' := by
  have h8 : c.toNat < 256 := UInt8.toNat_lt _
  have hx := fun w => specSigns c w
  have hcv : (convert 22 9 (.slice (some ⟨w.heap.size, 0, none⟩) 1 1)).run Tryd.prog (w.alloc (.cells #[.int .u8 (c.toNat : Int)] 5)) = .ok (.string ⟨#[c]⟩) (w.alloc (.cells #[.int .u8 (c.toNat : Int)] 5)) := by
    refine run_convert_bytes_back (P := Tryd.prog) _ 22 9 5 ⟨w.heap.size, 0, none⟩ 1 [c] Tryd.underlying22 Tryd.underlying5 Tryd.underlying9 ?_
    intro j hj
    match j, hj with
    | 0, hj => rw [add_off]; simp
  have hbA : Below w.heap.size w (w.alloc (.cells #[.int .u8 (c.toNat : Int)] 5)) := (Below.refl _ _).alloc (Nat.le_refl _) _
  have hb0 : Below w.heap.size w w := Below.refl _ _
  rw [← Pl.atom_eq]
  unfold Pl.atom'
  generalize indexByte Pl.signs0 c = i at hx ⊢
  cases h96 : ((c.toNat : Int) == 96)
  · have hc96 : (c == 96) = false := by simpa using Pl.byte_ne c 96 _ rfl h96
    rw [hc96, Bool.false_or]
    by_cases h32 : 32 < c.toNat
    · by_cases h127 : c.toNat < 127
      · rw [decide_eq_true h32, decide_eq_true h127, Bool.true_and, Bool.true_and]
        rcases range_cases c with ⟨h0, ha⟩ | ⟨h0, h1, ha⟩ | ⟨h0, h1, ha⟩ | ⟨h0, h1, ha⟩ | ⟨h0, h1, ha⟩ | ⟨h0, h1, ha⟩ | ⟨h0, h1, ha⟩ | ⟨h0, ha⟩ <;> rw [ha] <;> clear ha <;> (try (exfalso; omega)) <;> (try rw [Bool.false_or]) <;> (try rw [Bool.true_or])
        all_goals
          go_enter Tryd.func78, Tryd.ntmps78
          go_wp2_with (go_at_call 80; go_must (refine (hx _).mono ?_; rintro e w2 ⟨rfl, rfl⟩))
          go_ret
          first | exact ⟨rfl, hb0⟩ | exact ⟨rfl, hbA⟩
      · rw [decide_eq_true h32, decide_eq_false h127, Bool.true_and, Bool.false_and, Bool.or_false]
        rcases range_cases c with ⟨h0, ha⟩ | ⟨h0, h1, ha⟩ | ⟨h0, h1, ha⟩ | ⟨h0, h1, ha⟩ | ⟨h0, h1, ha⟩ | ⟨h0, h1, ha⟩ | ⟨h0, h1, ha⟩ | ⟨h0, ha⟩ <;> rw [ha] <;> clear ha <;> (try (exfalso; omega))
        all_goals
          go_enter Tryd.func78, Tryd.ntmps78
          go_wp2
          go_ret
          exact ⟨rfl, hb0⟩
    · rw [decide_eq_false h32, Bool.false_and, Bool.or_false]
      rcases range_cases c with ⟨h0, ha⟩ | ⟨h0, h1, ha⟩ | ⟨h0, h1, ha⟩ | ⟨h0, h1, ha⟩ | ⟨h0, h1, ha⟩ | ⟨h0, h1, ha⟩ | ⟨h0, h1, ha⟩ | ⟨h0, ha⟩ <;> rw [ha] <;> clear ha <;> (try (exfalso; omega))
      all_goals
        go_enter Tryd.func78, Tryd.ntmps78
        go_wp2
        go_ret
        exact ⟨rfl, hb0⟩
  · have hc96 : c = 96 := Pl.byte_eq c 96 _ rfl h96
    rw [show (c == 96) = true from by rw [hc96]; rfl, Bool.true_or, Bool.or_true]
    have hn : c.toNat = 96 := by rw [hc96]; rfl
    clear hc96
    go_enter Tryd.func78, Tryd.ntmps78
    go_wp2
    go_ret
    exact ⟨rfl, hb0⟩
set_option maxRecDepth 20000 in
set_option maxHeartbeats 1000000 in
theorem specClean (s : ByteArray) (w : World) (_hs : s.size ≤ 1100000) :
    Calls Tryd.prog 71 #[.string s] w fun e w' => e = .returned (.bool (s.data.toList.all Pl.tb)) ∧ w = w' := by
  obtain ⟨A, hA⟩ : ∃ A, s.data.toList.all Pl.tb = A := ⟨_, rfl⟩
  rw [hA]
  have HA : Hid ((s.data.toList.drop 0).all Pl.tb = A) := hA
  clear hA
  go_enter Tryd.func71, Tryd.ntmps71
  go_wp2
  go_loopw [3] (fun i wr => ∃ k : Nat, k ≤ s.size ∧ i = .int .i64 k ∧ Hid ((s.data.toList.drop k).all Pl.tb = A) ∧ wr = w) (fun i _ => s.size - (Lib.intOf i).toNat)
  case atStart => exact ⟨0, Nat.zero_le _, rfl, HA, rfl⟩
  case round =>
    clear HA
    obtain ⟨k, hk, rfl, hp, rfl⟩ := hrel
    by_cases hlt : k < s.size
    · have h8 : s[k].toNat < 256 := UInt8.toNat_lt _
      have hst : Hid ((s.data.toList.drop k).all Pl.tb = (Pl.tb s[k] && (s.data.toList.drop (k + 1)).all Pl.tb)) := Pl.all_step Pl.tb s.data.toList k (by simpa using hlt)
      have bad : Pl.tb s[k] = false → Hid (A = false) := by
        intro h
        have := hst.out
        rw [h, Bool.false_and, hp.out] at this
        exact this
      rcases tb_cases s[k] with ⟨h, hb⟩ | ⟨h, h1, hb⟩ | ⟨h, h1, hb⟩
      · have hB := bad hb
        clear bad hb hst hp
        go_wp2
        go_ret
        exact ⟨by rw [hB.out]; rfl, rfl⟩
      · have hB := bad hb
        clear bad hb hst hp
        go_wp2
        go_ret
        exact ⟨by rw [hB.out]; rfl, rfl⟩
      · have hg : Hid ((s.data.toList.drop (k + 1)).all Pl.tb = A) := show _ = _ from by
          have := hst.out
          rw [hb, Bool.true_and, hp.out] at this
          exact this.symm
        clear bad hb hst hp
        go_wp2
        go_roundw
        case rel => exact ⟨k + 1, by omega, by go_num, hg, trivial⟩
        case measure => simp [Lib.intOf]; omega
    · have H0 : Hid (A = true) := show _ = _ from by rw [← hp.out]; exact Pl.all_done Pl.tb _ k (by simp; omega)
      clear hp
      go_wp2
      go_ret
      exact ⟨by rw [H0.out]; rfl, rfl⟩
set_option maxRecDepth 20000 in
theorem scan_atom (d : UInt8) (l : List UInt8) (k : Nat) (b : Bool) (hk : k < l.length) (h : Pl.atom l[k] = true) : Pl.scan d b (l.drop k) = Pl.scan d true (l.drop (k + 1)) := by
  rw [Pl.drop_cons l k hk, Pl.scan, if_pos h]
set_option maxRecDepth 20000 in
theorem scan_blank (d : UInt8) (l : List UInt8) (k : Nat) (hk : k < l.length) (h : Pl.atom l[k] = false) (h2 : l[k] = d) : Pl.scan d true (l.drop k) = Pl.scan d false (l.drop (k + 1)) := by
  rw [Pl.drop_cons l k hk, Pl.scan, if_neg (by rw [h]; simp), if_pos (by rw [h2]; simp)]
set_option maxRecDepth 20000 in
theorem scan_bad (d : UInt8) (l : List UInt8) (k : Nat) (b : Bool) (hk : k < l.length) (h : Pl.atom l[k] = false) (h2 : l[k] ≠ d ∨ b = false) : Pl.scan d b (l.drop k) = false := by
  rw [Pl.drop_cons l k hk, Pl.scan, if_neg (by rw [h]; simp), if_neg]
  rcases h2 with h2 | h2
  · have : (l[k] == d) = false := by simpa using h2
    rw [this]; simp
  · rw [h2]; simp
set_option maxRecDepth 20000 in
theorem scan_end (d : UInt8) (l : List UInt8) (k : Nat) (b : Bool) (hk : l.length ≤ k) : Pl.scan d b (l.drop k) = b := by
  rw [List.drop_eq_nil_of_le hk]; rfl
set_option maxRecDepth 20000 in
set_option maxHeartbeats 1000000 in
theorem specAtoms (d : UInt8) (n : Int) (hn0 : n = (d.toNat : Int)) (s : ByteArray) (w : World) (_hs : s.size ≤ 1100000) :
    Calls Tryd.prog 73 #[.string s, .int .u8 n] w fun e w' => e = .returned (.bool (Pl.scan d false s.data.toList)) ∧ Below w.heap.size w w' := by
  obtain ⟨A, hA⟩ : ∃ A, Pl.scan d false s.data.toList = A := ⟨_, rfl⟩
  rw [hA]
  have HA : Hid (Pl.scan d false (s.data.toList.drop 0) = A) := hA
  clear hA
  have Hn0 := (show Hid (n = (d.toNat : Int)) from hn0)
  clear hn0
  go_enter Tryd.func73, Tryd.ntmps73
  go_wp2
  go_loopw [5, 6] (fun v i wr => ∃ (k : Nat) (b : Bool), k ≤ s.size ∧ i = .int .i64 k ∧ v = .bool b ∧ Hid (Pl.scan d b (s.data.toList.drop k) = A) ∧ Below w.heap.size w wr) (fun _ i _ => s.size - (Lib.intOf i).toNat)
  case atStart => exact ⟨0, false, Nat.zero_le _, rfl, rfl, HA, Below.refl _ _⟩
  case round =>
    clear HA
    obtain ⟨k, b, hk, rfl, rfl, hp, hb⟩ := hrel
    by_cases hlt : k < s.size
    · have h8 : s[k].toNat < 256 := UInt8.toNat_lt _
      have hll : k < s.data.toList.length := by simpa using hlt
      have hc := fun w => specAtomByte s[k] w
      cases ha : Pl.atom s[k] <;> simp only [ha] at hc
      · cases h32 : ((s[k].toNat : Int) == n)
        · have hB : Hid (A = false) := show _ = _ from by rw [← hp.out]; exact scan_bad d _ k b hll ha (.inl (Pl.byte_ne _ d _ Hn0.out h32))
          have hn : ((s[k].toNat : Int) != n) = true := by rw [bne, h32]; rfl
          clear hp ha
          go_wp2_with (go_at_call 78; go_must (refine (hc _).mono ?_; rintro e w2 ⟨rfl, hb2⟩))
          go_ret
          exact ⟨by rw [hB.out]; rfl, hb.trans (hb2.mono hb.size)⟩
        · have hn : ((s[k].toNat : Int) != n) = false := by rw [bne, h32]; rfl
          cases b
          · have hB : Hid (A = false) := show _ = _ from by rw [← hp.out]; exact scan_bad d _ k false hll ha (.inr rfl)
            clear hp ha
            go_wp2_with (go_at_call 78; go_must (refine (hc _).mono ?_; rintro e w2 ⟨rfl, hb2⟩))
            go_ret
            exact ⟨by rw [hB.out]; rfl, hb.trans (hb2.mono hb.size)⟩
          · have hB : Hid (Pl.scan d false (s.data.toList.drop (k + 1)) = A) := show _ = _ from by rw [← hp.out]; exact (scan_blank d _ k hll ha (Pl.byte_eq _ d _ Hn0.out h32)).symm
            clear hp ha
            go_wp2_with (go_at_call 78; go_must (refine (hc _).mono ?_; rintro e w2 ⟨rfl, hb2⟩))
            go_roundw
            case rel => exact ⟨k + 1, false, by omega, by go_num, rfl, hB, hb.trans (hb2.mono hb.size)⟩
            case measure => simp [Lib.intOf]; omega
      · have hB : Hid (Pl.scan d true (s.data.toList.drop (k + 1)) = A) := show _ = _ from by rw [← hp.out]; exact (scan_atom d _ k b hll ha).symm
        clear hp ha
        go_wp2_with (go_at_call 78; go_must (refine (hc _).mono ?_; rintro e w2 ⟨rfl, hb2⟩))
        go_roundw
        case rel => exact ⟨k + 1, true, by omega, by go_num, rfl, hB, hb.trans (hb2.mono hb.size)⟩
        case measure => simp [Lib.intOf]; omega
    · have H0 : Hid (A = b) := show _ = _ from by rw [← hp.out]; exact scan_end d _ k b (by simp; omega)
      clear hp
      go_wp2
      go_ret
      exact ⟨by rw [H0.out]; rfl, hb⟩
end Go.Proofs.YtillilllceeonaaDoor
namespace Go.Proofs.YtillilllceeonaaDoor
open Go.RowKit Go.Lib
set_option maxRecDepth 20000 in
set_option maxHeartbeats 1000000 in
theorem specQuote (s : ByteArray) (w : World) (hs : s.size ≤ 100000) :
    Calls Tryd.prog 74 #[.string s] w fun e w' => e = .returned (.string ⟨(34 :: Pl.qs s.data.toList ++ [34]).toArray⟩) ∧ Below w.heap.size w w' := by
  obtain ⟨i0, hi, hy0, hy1, hy2⟩ := info_parts Tryd.info5
  obtain ⟨X, hX⟩ : ∃ X, 34 :: Pl.qs s.data.toList = X := ⟨_, rfl⟩
  rw [hX]
  have HX : Hid ([34] ++ Pl.qs (s.data.toList.drop 0) = X) := hX
  clear hX
  have hown0 : Own w.heap.size (.slice (some ⟨w.heap.size, 0, none⟩) 1 1) [34] (w.alloc (.cells #[.int .u8 34] 5)) := World.ownsRow_lit w #[.int .u8 34] 1 (Nat.le_refl _) (by unfold maxLen; omega) rfl
  have Hown0 := (show Hid _ from hown0)
  clear hown0
  go_enter Tryd.func74, Tryd.ntmps74
  go_wp2
  go_loopw [3, 4] (fun v i wr => ∃ (k : Nat) (p : List UInt8), k ≤ s.size ∧ i = .int .i64 k ∧ p.length ≤ 1 + 2 * k ∧ Hid (p ++ Pl.qs (s.data.toList.drop k) = X) ∧ Own w.heap.size v p wr ∧ Below w.heap.size w wr) (fun _ i _ => s.size - (Lib.intOf i).toNat)
  case atStart => exact ⟨0, [34], Nat.zero_le _, rfl, by simp, HX, Hown0.out, (Below.refl _ _).alloc (Nat.le_refl _) _⟩
  case round =>
    clear HX Hown0
    obtain ⟨k, p, hk, rfl, hpl, hp, hown, hb⟩ := hrel
    by_cases hlt : k < s.size
    · have h8 : s[k].toNat < 256 := UInt8.toNat_lt _
      have hll : k < s.data.toList.length := by simpa using hlt
      cases h34 : ((s[k].toNat : Int) == 34)
      · cases h92 : ((s[k].toNat : Int) == 92)
        · have hg : Hid ((p ++ [s[k]]) ++ Pl.qs (s.data.toList.drop (k + 1)) = X) := Pl.qs_plain s.data.toList p X k hll (by
            have a := Pl.byte_ne _ 34 _ rfl h34
            have b := Pl.byte_ne _ 92 _ rfl h92
            show (s[k] == 34 || s[k] == 92) = false
            simp [a, b]) hp.out
          clear hp
          go_wp2_with (at_builtin; go_must (refine wp_app (W := w) rfl _ _ 22 rfl i0 Tryd.underlying22 hi hy0 hy1 hy2 w.heap.size u3 p rfl hown _ [s[k]] rfl 1 1 rfl rfl (by simp; omega) (Nat.le_refl _) hb ?_; intro v' w' hown' hb'))
          go_roundw
          case rel => exact ⟨k + 1, _, by omega, by go_num, by simp; omega, hg, hown', hb'⟩
          case measure => simp [Lib.intOf]; omega
        · have hg : Hid ((p ++ [92] ++ [s[k]]) ++ Pl.qs (s.data.toList.drop (k + 1)) = X) := Pl.qs_esc s.data.toList p X k hll (by
            show (s[k] == 34 || s[k] == 92) = true
            rw [Pl.byte_eq _ 92 _ rfl h92]; rfl) hp.out
          clear hp
          go_wp2_with (at_builtin; go_must (first | (refine wp_app (W := w) rfl _ _ 22 rfl i0 Tryd.underlying22 hi hy0 hy1 hy2 w.heap.size v' (p ++ [92]) rfl hown' _ [s[k]] rfl 1 1 rfl rfl (by simp; omega) (Nat.le_refl _) hb' ?_; intro v2 w2 hown2 hb2) | (refine wp_app (W := w) rfl _ _ 22 rfl i0 Tryd.underlying22 hi hy0 hy1 hy2 w.heap.size u3 p rfl hown _ [92] rfl 1 1 rfl rfl (by simp; omega) (Nat.le_refl _) hb ?_; intro v' w' hown' hb')))
          go_roundw
          case rel => exact ⟨k + 1, _, by omega, by go_num, by simp; omega, hg, hown2, hb2⟩
          case measure => simp [Lib.intOf]; omega
      · have hg : Hid ((p ++ [92] ++ [s[k]]) ++ Pl.qs (s.data.toList.drop (k + 1)) = X) := Pl.qs_esc s.data.toList p X k hll (by
          show (s[k] == 34 || s[k] == 92) = true
          rw [Pl.byte_eq _ 34 _ rfl h34]; rfl) hp.out
        clear hp
        go_wp2_with (at_builtin; go_must (first | (refine wp_app (W := w) rfl _ _ 22 rfl i0 Tryd.underlying22 hi hy0 hy1 hy2 w.heap.size v' (p ++ [92]) rfl hown' _ [s[k]] rfl 1 1 rfl rfl (by simp; omega) (Nat.le_refl _) hb' ?_; intro v2 w2 hown2 hb2) | (refine wp_app (W := w) rfl _ _ 22 rfl i0 Tryd.underlying22 hi hy0 hy1 hy2 w.heap.size u3 p rfl hown _ [92] rfl 1 1 rfl rfl (by simp; omega) (Nat.le_refl _) hb ?_; intro v' w' hown' hb')))
        go_roundw
        case rel => exact ⟨k + 1, _, by omega, by go_num, by simp; omega, hg, hown2, hb2⟩
        case measure => simp [Lib.intOf]; omega
    · have hpn : Hid (p = X) := Pl.qs_done s.data.toList p X k (by simp; omega) hp.out
      clear hp
      go_wp2_with (at_builtin; go_must (refine wp_app (W := w) rfl _ _ 22 rfl i0 Tryd.underlying22 hi hy0 hy1 hy2 w.heap.size u3 p rfl hown _ [34] rfl 1 1 rfl rfl (by simp; omega) (Nat.le_refl _) hb ?_; intro v' w' hown' hb'; have hbk := hown'.back (P := Tryd.prog) 22 9 Tryd.underlying22 Tryd.underlying5 Tryd.underlying9))
      go_ret
      rw [← hpn.out]
      exact ⟨rfl, hb'⟩
end Go.Proofs.YtillilllceeonaaDoor
namespace Go.Proofs.YtillilllceeonaaDoor
open Go.RowKit Go.Lib
set_option maxRecDepth 20000 in
theorem part_size (sep : ByteArray) (sv : Nat) : ∀ (k : Nat) (s q : ByteArray), q ∈ splitB sep sv k s → q.size ≤ s.size
  | 0, s, q, h => by
    rw [splitB_zero, List.mem_singleton] at h
    rw [h]; exact Nat.le_refl _
  | k + 1, s, q, h => by
    unfold splitB at h
    split at h
    · rw [List.mem_singleton] at h
      rw [h]; exact Nat.le_refl _
    · rcases List.mem_cons.1 h with h | h
      · rw [h, ByteArray.size_extract]; omega
      · have := part_size sep sv k _ q h
        rw [ByteArray.size_extract] at this
        omega
set_option maxRecDepth 20000 in
theorem parts_all (d : UInt8) (hd : Pl.atom d = false) (s : ByteArray) : ((splitB ⟨#[d]⟩ 0 (countB s ⟨#[d]⟩) s).all fun q => Pl.okA q.data.toList) = Pl.scan d false s.data.toList := by
  rw [← Pl.scan_all d hd, ← Pl.split_sp]
  have := splitB_data ⟨#[d]⟩ 0 (countB s ⟨#[d]⟩) s
  rw [show (ByteArray.mk #[d]).data.toList = [d] from rfl] at this
  rw [show count s.data.toList [d] = countB s ⟨#[d]⟩ from rfl, ← this, List.all_map]
  rfl
set_option maxRecDepth 20000 in
theorem bcell_lt {w : World} {a : Addr} {v : Value} (h : w.cell? a = some v) : a.block < w.heap.size := by
  by_cases hb : a.block < w.heap.size
  · exact hb
  · have e : w.heap[a.block]? = none := Array.getElem?_eq_none (by omega)
    simp [World.cell?, e] at h
set_option maxRecDepth 20000 in
set_option maxHeartbeats 1000000 in
theorem specPhrase (s : ByteArray) (w : World) (hs : s.size ≤ 100000) :
    Calls Tryd.prog 61 #[.string s] w fun e w' => e = .returned (.string ⟨(Pl.phrase s.data.toList).toArray⟩) ∧ Below w.heap.size w w' := by
  have hc0 : decide ((100000 : Int) < (s.size : Int)) = false := by simp; omega
  have ha := specClean s w (by omega)
  have hat := specAtoms 32 32 rfl s w (by omega)
  cases hT : s.data.toList.all Pl.tb
  · have hE : Hid (Pl.phrase s.data.toList = []) := show _ = _ from by rw [Pl.phrase, if_neg (by rw [hT]; simp)]
    rw [hT] at ha
    clear hT hat
    go_enter Tryd.func61, Tryd.ntmps61
    go_wp2_with fail
    refine ha.mono ?_
    rintro e w1 ⟨rfl, rfl⟩
    go_wp2
    go_ret
    rw [hE.out]
    exact ⟨rfl, Below.refl _ _⟩
  · rw [hT] at ha
    cases hA : Pl.scan 32 false s.data.toList
    · have hE : Hid (Pl.phrase s.data.toList = 34 :: Pl.qs s.data.toList ++ [34]) := show _ = _ from by rw [Pl.phrase, if_pos hT, if_neg (by rw [hA]; simp)]
      rw [hA] at hat
      clear hT hA
      go_enter Tryd.func61, Tryd.ntmps61
      go_wp2_with fail
      refine ha.mono ?_
      rintro e w1 ⟨rfl, rfl⟩
      go_wp2_with fail
      refine hat.mono ?_
      rintro e w1 ⟨rfl, hb1⟩
      go_wp2_with fail
      refine (specQuote s _ hs).mono ?_
      rintro e w2 ⟨rfl, hb2⟩
      go_wp2
      go_ret
      rw [hE.out]
      exact ⟨rfl, hb1.trans (hb2.mono hb1.size)⟩
    · have hE : Hid (Pl.phrase s.data.toList = s.data.toList) := show _ = _ from by rw [Pl.phrase, if_pos hT, if_pos hA]
      rw [hA] at hat
      clear hT hA
      go_enter Tryd.func61, Tryd.ntmps61
      go_wp2_with fail
      refine ha.mono ?_
      rintro e w1 ⟨rfl, rfl⟩
      go_wp2_with fail
      refine hat.mono ?_
      rintro e w1 ⟨rfl, hb1⟩
      go_wp2
      go_ret
      rw [hE.out]
      exact ⟨rfl, hb1⟩
end Go.Proofs.YtillilllceeonaaDoor
namespace Go.Proofs.YtillilllceeonaaDoor
open Go.Lib
namespace Pl
/-- A byte of a literal. -/
def litB (c : UInt8) : Bool := decide (32 ≤ c.toNat) && (decide (c.toNat ≤ 126) && (!(c == 91) && (!(c == 93) && !(c == 92))))
/-- What stands between the first byte and the last. -/
def mid (l : List UInt8) : List UInt8 := (l.take (l.length - 1)).drop 1
def isLit (l : List UInt8) : Bool := hasPrefix l [91] && (hasSuffix (trimPrefix l [91]) [93] && (trimSuffix (trimPrefix l [91]) [93]).all litB)
def domI (l : List UInt8) : Bool := decide (l.length ≤ 255) && (scan 46 false l || isLit l)
set_option maxRecDepth 20000 in
theorem atom_open : atom 91 = false := by decide +kernel
set_option maxRecDepth 20000 in
theorem scan_open (r : List UInt8) : scan 46 false (91 :: r) = false := by
  rw [scan, if_neg (by rw [atom_open]; simp), if_neg (by decide)]
set_option maxRecDepth 20000 in
/-- A text that opens with no bracket. -/
theorem dom_atoms (l : List UInt8) (c : UInt8) (r : List UInt8) (e : l = c :: r) (h : c ≠ 91) (hn : l.length ≤ 255) : domI l = scan 46 false l := by
  have hp : hasPrefix l [91] = false := by rw [e, hasPrefix]; simp [List.isPrefixOf, Ne.symm h]
  rw [domI, isLit, hp, decide_eq_true hn]
  simp
set_option maxRecDepth 20000 in
theorem suf (r : List UInt8) (d : UInt8) (h : 1 ≤ r.length) : hasSuffix r [d] = (r[r.length - 1] == d) := by
  obtain ⟨x, y, rfl⟩ : ∃ x y, r = x ++ [y] := ⟨r.dropLast, r.getLast (by intro e; rw [e] at h; simp at h), (List.dropLast_concat_getLast _).symm⟩
  rw [hasSuffix]
  simp [List.isSuffixOf, List.isPrefixOf]
  by_cases e : d = y
  · subst e; simp
  · have : (d == y) = false := by simpa using e
    have : (y == d) = false := by simpa using Ne.symm e
    simp [*]
set_option maxRecDepth 20000 in
theorem dom_lit (l : List UInt8) (r : List UInt8) (e : l = 91 :: r) (hn : l.length ≤ 255) : domI l = isLit l := by
  rw [domI, decide_eq_true hn, e, scan_open]
  simp
set_option maxRecDepth 20000 in
theorem lit_short (l : List UInt8) (r : List UInt8) (e : l = 91 :: r) (h : l.length < 2) : isLit l = false := by
  have : r = [] := by rw [e] at h; simp at h; exact List.length_eq_zero_iff.1 (by omega)
  rw [e, this]; rfl
set_option maxRecDepth 20000 in
theorem lit_open (l : List UInt8) (r : List UInt8) (e : l = 91 :: r) (h : 2 ≤ l.length) (hl : l[l.length - 1] ≠ 93) : isLit l = false := by
  subst e
  have h1 : 1 ≤ r.length := by simpa using h
  have hp : hasPrefix (91 :: r) [91] = true := by simp [hasPrefix, List.isPrefixOf]
  have hg : (91 :: r)[(91 :: r).length - 1]'(by simp) = r[r.length - 1] := by
    have : (91 :: r).length - 1 = (r.length - 1) + 1 := by simp; omega
    simp only [this, List.getElem_cons_succ]
  rw [hg] at hl
  rw [isLit, trimPrefix, hp, if_pos rfl]
  simp only [List.length_cons, List.length_nil, List.drop_succ_cons, List.drop_zero]
  rw [suf r 93 h1]
  have : (r[r.length - 1] == 93) = false := by simpa using hl
  rw [this]
  simp
set_option maxRecDepth 20000 in
theorem lit_mid (l : List UInt8) (r : List UInt8) (e : l = 91 :: r) (h : 2 ≤ l.length) (hl : l[l.length - 1] = 93) : isLit l = (mid l).all litB := by
  subst e
  have h1 : 1 ≤ r.length := by simpa using h
  have hp : hasPrefix (91 :: r) [91] = true := by simp [hasPrefix, List.isPrefixOf]
  have hg : (91 :: r)[(91 :: r).length - 1]'(by simp) = r[r.length - 1] := by
    have : (91 :: r).length - 1 = (r.length - 1) + 1 := by simp; omega
    simp only [this, List.getElem_cons_succ]
  rw [hg] at hl
  have hs : hasSuffix r [93] = true := by rw [suf r 93 h1, hl]; rfl
  have e1 : trimPrefix (91 :: r) [91] = r := by rw [trimPrefix, hp, if_pos rfl]; rfl
  rw [isLit, hp, e1, hs, trimSuffix, hs, if_pos rfl, mid]
  have : (91 :: r).length - 1 = (r.length - 1) + 1 := by simp; omega
  rw [this]
  simp
set_option maxRecDepth 20000 in
theorem mid_step (l : List UInt8) (k : Nat) (hk : k < l.length - 1) : (((l.take (l.length - 1)).drop k).all litB) = (litB (l[k]'(by omega)) && ((l.take (l.length - 1)).drop (k + 1)).all litB) := by
  rw [List.drop_eq_getElem_cons (by simp; omega), List.all_cons]
  simp
set_option maxRecDepth 20000 in
theorem mid_done (l : List UInt8) (k : Nat) (hk : l.length - 1 ≤ k) : (((l.take (l.length - 1)).drop k).all litB) = true := by
  rw [List.drop_eq_nil_of_le (by simp; omega)]
  rfl
end Pl
end Go.Proofs.YtillilllceeonaaDoor
namespace Go.Proofs.YtillilllceeonaaDoor
open Go.RowKit Go.Lib
set_option maxRecDepth 20000 in
theorem litB_cases (c : UInt8) : (c.toNat < 32 ∧ Pl.litB c = false) ∨ (32 ≤ c.toNat ∧ 126 < c.toNat ∧ Pl.litB c = false) ∨ (32 ≤ c.toNat ∧ c.toNat ≤ 126 ∧ ((c.toNat : Int) == 91) = true ∧ Pl.litB c = false) ∨
    (32 ≤ c.toNat ∧ c.toNat ≤ 126 ∧ ((c.toNat : Int) == 91) = false ∧ ((c.toNat : Int) == 93) = true ∧ Pl.litB c = false) ∨ (32 ≤ c.toNat ∧ c.toNat ≤ 126 ∧ ((c.toNat : Int) == 91) = false ∧ ((c.toNat : Int) == 93) = false ∧ ((c.toNat : Int) == 92) = true ∧ Pl.litB c = false) ∨
    (32 ≤ c.toNat ∧ c.toNat ≤ 126 ∧ ((c.toNat : Int) == 91) = false ∧ ((c.toNat : Int) == 93) = false ∧ ((c.toNat : Int) == 92) = false ∧ Pl.litB c = true) := by
  by_cases h1 : c.toNat < 32
  · exact .inl ⟨h1, by simp [Pl.litB]; omega⟩
  by_cases h2 : 126 < c.toNat
  · exact .inr (.inl ⟨by omega, h2, by simp [Pl.litB]; omega⟩)
  cases h3 : ((c.toNat : Int) == 91)
  · have n3 := Pl.byte_ne c 91 _ rfl h3
    cases h4 : ((c.toNat : Int) == 93)
    · have n4 := Pl.byte_ne c 93 _ rfl h4
      cases h5 : ((c.toNat : Int) == 92)
      · have n5 := Pl.byte_ne c 92 _ rfl h5
        exact .inr (.inr (.inr (.inr (.inr ⟨by omega, by omega, rfl, rfl, rfl, by simp [Pl.litB, n3, n4, n5]; omega⟩))))
      · exact .inr (.inr (.inr (.inr (.inl ⟨by omega, by omega, rfl, rfl, rfl, by rw [Pl.byte_eq c 92 _ rfl h5]; decide⟩))))
    · exact .inr (.inr (.inr (.inl ⟨by omega, by omega, rfl, rfl, by rw [Pl.byte_eq c 93 _ rfl h4]; decide⟩)))
  · exact .inr (.inr (.inl ⟨by omega, by omega, rfl, by rw [Pl.byte_eq c 91 _ rfl h3]; decide⟩))
set_option maxRecDepth 20000 in
theorem trimP_len (l p : List UInt8) : (trimPrefix l p).length ≤ l.length := by
  unfold trimPrefix
  split
  · simp
  · exact Nat.le_refl _
set_option maxRecDepth 20000 in
theorem trimS_len (l p : List UInt8) : (trimSuffix l p).length ≤ l.length := by
  unfold trimSuffix
  split
  · simp
  · exact Nat.le_refl _
def dcode (b : Bool) : Int := if b then 0 else 1
set_option maxRecDepth 20000 in
set_option maxHeartbeats 1000000 in
theorem specDomain (s : ByteArray) (w : World) (hs : s.size ≤ 1100000) :
    Calls Tryd.prog 72 #[.string s] w fun e w' => e = .returned (.int .i64 (dcode (Pl.domI s.data.toList))) ∧ Below w.heap.size w w' := by
  have hll : s.data.toList.length = s.size := by simp
  by_cases h0 : s.size < 1
  · rw [show Pl.domI s.data.toList = false from by
      have : s.data.toList = [] := List.length_eq_zero_iff.1 (by omega)
      rw [this]; rfl]
    go_enter Tryd.func72, Tryd.ntmps72
    go_wp2
    go_ret
    exact ⟨rfl, Below.refl _ _⟩
  by_cases hn : 255 < s.size
  · rw [Pl.domI, decide_eq_false (by omega), Bool.false_and]
    go_enter Tryd.func72, Tryd.ntmps72
    go_wp2
    go_ret
    exact ⟨rfl, Below.refl _ _⟩
  have h0' : 0 < s.size := Nat.lt_of_not_le (fun h => h0 (Nat.lt_of_le_of_lt h Nat.one_pos))
  have hcons : s.data.toList = s[0]'h0' :: s.data.toList.drop 1 := by
    have := Pl.drop_cons s.data.toList 0 (by omega)
    rw [List.drop_zero] at this
    exact this
  have h8 : (s[0]'h0').toNat < 256 := UInt8.toNat_lt _
  cases h91 : ((((s[0]'h0').toNat : Nat) : Int) == 91)
  · have hne : ((((s[0]'h0').toNat : Nat) : Int) != 91) = true := by rw [bne, h91]; rfl
    have ha := specAtoms 46 46 rfl s w hs
    rw [Pl.dom_atoms _ _ _ hcons (Pl.byte_ne _ 91 _ rfl h91) (by omega)]
    generalize Pl.scan 46 false s.data.toList = b1 at ha ⊢
    clear hcons hll
    cases b1
    all_goals
      go_enter Tryd.func72, Tryd.ntmps72
      go_wp2_with (go_at_call 73; go_must (refine ha.mono ?_; rintro e w2 ⟨rfl, hb2⟩))
      go_ret
      exact ⟨rfl, hb2⟩
  · have hne : ((((s[0]'h0').toNat : Nat) : Int) != 91) = false := by rw [bne, h91]; rfl
    have hc : s.data.toList = 91 :: s.data.toList.drop 1 := by
      rw [← Pl.byte_eq _ 91 _ rfl h91]; exact hcons
    rw [Pl.dom_lit _ _ hc (by omega)]
    by_cases h2 : s.size < 2
    · rw [Pl.lit_short _ _ hc (by omega)]
      clear hcons hc hll
      go_enter Tryd.func72, Tryd.ntmps72
      go_wp2
      go_ret
      exact ⟨rfl, Below.refl _ _⟩
    have hl' : s.size - 1 < s.size := Nat.sub_lt h0' Nat.one_pos
    have hidx : ((s.size : Int) - 1).toNat = s.size - 1 := by omega
    have h8' : (s[s.size - 1]'hl').toNat < 256 := UInt8.toNat_lt _
    have hlast : s.data.toList[s.data.toList.length - 1]'(by omega) = s[s.size - 1]'hl' := by simp; rfl
    cases h93 : ((((s[s.size - 1]'hl').toNat : Nat) : Int) == 93)
    · rw [Pl.lit_open _ _ hc (by omega) (by rw [hlast]; exact Pl.byte_ne _ 93 _ rfl h93)]
      have hn3 : ((((s[s.size - 1]'hl').toNat : Nat) : Int) != 93) = true := by rw [bne, h93]; rfl
      clear hcons hc hll hlast
      go_enter Tryd.func72, Tryd.ntmps72
      go_wp2
      go_ret
      exact ⟨rfl, Below.refl _ _⟩
    · rw [Pl.lit_mid _ _ hc (by omega) (by rw [hlast]; exact Pl.byte_eq _ 93 _ rfl h93), Pl.mid]
      have hn3 : ((((s[s.size - 1]'hl').toNat : Nat) : Int) != 93) = false := by rw [bne, h93]; rfl
      obtain ⟨A, hA⟩ : ∃ A, ((s.data.toList.take (s.data.toList.length - 1)).drop 1).all Pl.litB = A := ⟨_, rfl⟩
      rw [hA]
      have HA : Hid (((s.data.toList.take (s.data.toList.length - 1)).drop 1).all Pl.litB = A) := hA
      clear hcons hc hll hlast hA
      go_enter Tryd.func72, Tryd.ntmps72
      go_wp2
      clear hn3 h93 h91 hne h8 h8'
      go_loopw [3] (fun i wr => ∃ k : Nat, 1 ≤ k ∧ k ≤ s.size - 1 ∧ i = .int .i64 k ∧ Hid (((s.data.toList.take (s.data.toList.length - 1)).drop k).all Pl.litB = A) ∧ wr = w) (fun i _ => s.size - (Lib.intOf i).toNat)
      case atStart => exact ⟨1, Nat.le_refl _, by omega, rfl, HA, rfl⟩
      case round =>
        clear HA
        obtain ⟨k, hk1, hk, rfl, hp, rfl⟩ := hrel
        by_cases hlt : k < s.size - 1
        · have h8 : (s[k]'(by omega)).toNat < 256 := UInt8.toNat_lt _
          have hst : Hid (((s.data.toList.take (s.data.toList.length - 1)).drop k).all Pl.litB = (Pl.litB (s[k]'(by omega)) && ((s.data.toList.take (s.data.toList.length - 1)).drop (k + 1)).all Pl.litB)) := Pl.mid_step s.data.toList k (by simp; omega)
          have bad : Pl.litB (s[k]'(by omega)) = false → Hid (A = false) := by
            intro h
            have := hst.out
            rw [h, Bool.false_and, hp.out] at this
            exact this
          rcases litB_cases (s[k]'(by omega)) with ⟨h, hb⟩ | ⟨h, h1, hb⟩ | ⟨h, h1, h2, hb⟩ | ⟨h, h1, h2, h3, hb⟩ | ⟨h, h1, h2, h3, h4, hb⟩ | ⟨h, h1, h2, h3, h4, hb⟩
          iterate 5
            have hB := bad hb
            clear bad hb hst hp
            go_wp2
            go_ret
            exact ⟨by rw [hB.out]; rfl, Below.refl _ _⟩
          · have hg : Hid (((s.data.toList.take (s.data.toList.length - 1)).drop (k + 1)).all Pl.litB = A) := show _ = _ from by
              have := hst.out
              rw [hb, Bool.true_and, hp.out] at this
              exact this.symm
            clear bad hb hst hp
            go_wp2
            go_roundw
            case rel => exact ⟨k + 1, by omega, by omega, by go_num, hg, trivial⟩
            case measure => simp [Lib.intOf]; omega
        · have H0 : Hid (A = true) := show _ = _ from by rw [← hp.out]; exact Pl.mid_done _ k (by simp; omega)
          clear hp
          go_wp2
          go_ret
          exact ⟨by rw [H0.out]; rfl, Below.refl _ _⟩
end Go.Proofs.YtillilllceeonaaDoor
namespace Go.Proofs.YtillilllceeonaaDoor
open Go.RowKit Go.Lib
abbrev box3 (n l d : ByteArray) : Value := .agg #[.string n, .string l, .string d]
def addrOk (n l d : ByteArray) : Bool := decide (1 ≤ l.size) && (decide (l.size ≤ 64) && (l.data.toList.all Pl.tb && (decide (n.size ≤ 200) && (n.data.toList.all Pl.tb && Pl.domI d.data.toList))))
set_option maxRecDepth 20000 in
theorem specIsName (s : ByteArray) (w : World) (hs : s.size ≤ 1100000) :
    Calls Tryd.prog 60 #[.string s] w fun e w' => e = .returned (.bool (decide (s.size ≤ 200) && s.data.toList.all Pl.tb)) ∧ w = w' := by
  by_cases hn : s.size ≤ 200
  · have ha := specClean s w hs
    rw [decide_eq_true hn, Bool.true_and]
    generalize s.data.toList.all Pl.tb = b at *
    go_enter Tryd.func60, Tryd.ntmps60
    go_wp2_with (go_at_call 71; go_must (refine ha.mono ?_; rintro e w2 ⟨rfl, rfl⟩))
    go_ret
    exact ⟨rfl, rfl⟩
  · rw [decide_eq_false hn, Bool.false_and]
    go_enter Tryd.func60, Tryd.ntmps60
    go_wp2
    go_ret
    exact ⟨rfl, rfl⟩
set_option maxRecDepth 20000 in
theorem isEmpty_of (q : ByteArray) (h0 : q.size = 0) : q.toList.isEmpty = true := by
  rw [ByteArray.toList_eq, List.isEmpty_iff]
  exact List.length_eq_zero_iff.1 (by rw [Pl.len_list]; exact h0)
set_option maxRecDepth 20000 in
theorem isEmpty_ne (q : ByteArray) (h0 : ¬ q.size = 0) : q.toList.isEmpty = false := by
  rw [ByteArray.toList_eq, List.isEmpty_eq_false_iff]
  intro e
  exact h0 (by rw [← Pl.len_list, e]; rfl)
set_option maxRecDepth 20000 in
theorem cell_alloc {w : World} {v : Value} {a : Addr} (b : Obj) (h : w.cell? a = some v) : (w.alloc b).cell? a = some v := by
  have hb : Below w.heap.size w (w.alloc b) := (Below.refl _ _).alloc (Nat.le_refl _) _
  exact (hb.cell (bcell_lt h)).trans h
set_option maxRecDepth 20000 in
set_option maxHeartbeats 1000000 in
theorem specAddress (n l d : ByteArray) (w : World) (hn : n.size ≤ 1100000) (hl : l.size ≤ 1100000) (hd : d.size ≤ 1100000) :
    Calls Tryd.prog 57 #[box3 n l d] w fun e w' => e = .returned (.int .i64 (dcode (addrOk n l d))) ∧ Below w.heap.size w w' := by
  have hN := fun w => specIsName n w hn
  have hA := fun w => specClean l w hl
  have hD := fun w => specDomain d w hd
  have hbA : ∀ b, Below w.heap.size w (w.alloc b) := fun b => (Below.refl _ _).alloc (Nat.le_refl _) _
  unfold addrOk
  generalize Pl.domI d.data.toList = b3 at *
  by_cases h0 : l.size = 0
  · rw [decide_eq_false (by omega), Bool.false_and]
    go_enter Tryd.func57, Tryd.ntmps57
    go_wp2
    go_ret
    exact ⟨rfl, hbA _⟩
  rw [decide_eq_true (by omega), Bool.true_and]
  by_cases h1 : 64 < l.size
  · rw [decide_eq_false (by omega), Bool.false_and]
    go_enter Tryd.func57, Tryd.ntmps57
    go_wp2
    go_ret
    exact ⟨rfl, hbA _⟩
  rw [decide_eq_true (by omega), Bool.true_and]
  generalize l.data.toList.all Pl.tb = b1 at *
  rw [← Bool.and_assoc (decide (n.size ≤ 200))]
  generalize (decide (n.size ≤ 200) && n.data.toList.all Pl.tb) = b2 at *
  cases b1
  · go_enter Tryd.func57, Tryd.ntmps57
    go_wp2_with (go_at_call 71; go_must (refine (hA _).mono ?_; rintro e w2 ⟨rfl, rfl⟩))
    go_ret
    exact ⟨rfl, hbA _⟩
  have hcell : ∀ (b : TypeId) (w3 : World), Below (w.alloc (.cells #[.string n, .string l, .string d] b)).heap.size (w.alloc (.cells #[.string n, .string l, .string d] b)) w3 → w3.cell? ⟨w.heap.size, 0, none⟩ = some (.string n) := by
    intro b w3 hb
    refine (hb.cell (p := ⟨w.heap.size, 0, none⟩) (by simp)).trans ?_
    simp
  cases b3
  all_goals
    cases b2
    all_goals
      go_enter Tryd.func57, Tryd.ntmps57
      go_wp2_with first | (go_at_call 71; go_must (refine (hA _).mono ?_; rintro e w2 ⟨rfl, rfl⟩)) | (go_at_call 72; go_must (refine (hD _).mono ?_; rintro e w3 ⟨rfl, hb3⟩; have hc3 := hcell _ _ hb3; simp only [dcode])) | (go_at_call 60; go_must (refine (hN _).mono ?_; rintro e w4 ⟨rfl, rfl⟩))
      go_ret
      exact ⟨rfl, (hbA _).trans (hb3.mono (hbA _).size)⟩
end Go.Proofs.YtillilllceeonaaDoor
