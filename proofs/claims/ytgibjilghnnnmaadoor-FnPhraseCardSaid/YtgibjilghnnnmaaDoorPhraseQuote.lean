
/- The walks of quoting, and of the program's Phrase. -/
import Derived.Test.YtgibjilghnnnmaaDoorPhraseSpec
import Derived.Laws.OwnMore
namespace Go.Proofs.YtgibjilghnnnmaaDoor
open Go.RowKit Go.Lib
set_option maxHeartbeats 1000000 in
theorem specQuote (s : ByteArray) (w : World) (hs : s.size ≤ 100000) :
    Calls Tryd.prog 20 #[.string s] w fun e w' => e = .returned (.string ⟨(34 :: Pl.qs s.data.toList ++ [34]).toArray⟩) ∧ Below w.heap.size w w' := by
  obtain ⟨i0, hi, hy0, hy1, hy2⟩ := info_parts Tryd.info5
  obtain ⟨X, hX⟩ : ∃ X, 34 :: Pl.qs s.data.toList = X := ⟨_, rfl⟩
  rw [hX]
  have HX : Hid ([34] ++ Pl.qs (s.data.toList.drop 0) = X) := hX
  clear hX
  have hown0 : Own w.heap.size (.slice (some ⟨w.heap.size, 0, none⟩) 1 1) [34] (w.alloc (.cells #[.int .u8 34] 5)) := World.ownsRow_lit w #[.int .u8 34] 1 (Nat.le_refl _) (by unfold maxLen; omega) rfl
  have Hown0 := (show Hid _ from hown0)
  clear hown0
  go_enter Tryd.func20, Tryd.ntmps20
  go_wp2
  go_loopw [3, 4] (fun v i wr => ∃ (k : Nat) (p : List UInt8), k ≤ s.size ∧ i = .int .i64 k ∧ p.length ≤ 1 + 2 * k ∧ Hid (p ++ Pl.qs (s.data.toList.drop k) = X) ∧ Own w.heap.size v p wr ∧ Below w.heap.size w wr) (fun _ i _ => s.size - (Lib.intOf i).toNat)
  case atStart => exact ⟨0, [34], Nat.zero_le _, rfl, by simp, HX, Hown0.out, (Below.refl _ _).alloc (Nat.le_refl _) _⟩
  case round =>
    clear HX Hown0
    obtain ⟨k, p, hk, rfl, hpl, hp, hown, hb⟩ := hrel
    by_cases hlt : k < s.size
    · have h8 : s[k].toNat < 256 := UInt8.toNat_lt _
      have hll : k < s.data.toList.length := by simpa using hlt
      cases h34 : ((s[k].toNat : Int) == 34)
      · cases h92 : ((s[k].toNat : Int) == 92)
        · have hg : Hid ((p ++ [s[k]]) ++ Pl.qs (s.data.toList.drop (k + 1)) = X) := Pl.qs_plain s.data.toList p X k hll (by
            have a := Pl.byte_ne _ 34 _ rfl h34
            have b := Pl.byte_ne _ 92 _ rfl h92
            show (s[k] == 34 || s[k] == 92) = false
            simp [a, b]) hp.out
          clear hp
          go_wp2_with (at_builtin; go_must (refine wp_app (W := w) rfl _ _ 22 rfl i0 Tryd.underlying22 hi hy0 hy1 hy2 w.heap.size u3 p rfl hown _ [s[k]] rfl 1 1 rfl rfl (by simp; omega) (Nat.le_refl _) hb ?_; intro v' w' hown' hb'))
          go_roundw
          case rel => exact ⟨k + 1, _, by omega, by go_num, by simp; omega, hg, hown', hb'⟩
          case measure => simp [Lib.intOf]; omega
        · have hg : Hid ((p ++ [92] ++ [s[k]]) ++ Pl.qs (s.data.toList.drop (k + 1)) = X) := Pl.qs_esc s.data.toList p X k hll (by
            show (s[k] == 34 || s[k] == 92) = true
            rw [Pl.byte_eq _ 92 _ rfl h92]; rfl) hp.out
          clear hp
          go_wp2_with (at_builtin; go_must (first | (refine wp_app (W := w) rfl _ _ 22 rfl i0 Tryd.underlying22 hi hy0 hy1 hy2 w.heap.size v' (p ++ [92]) rfl hown' _ [s[k]] rfl 1 1 rfl rfl (by simp; omega) (Nat.le_refl _) hb' ?_; intro v2 w2 hown2 hb2) | (refine wp_app (W := w) rfl _ _ 22 rfl i0 Tryd.underlying22 hi hy0 hy1 hy2 w.heap.size u3 p rfl hown _ [92] rfl 1 1 rfl rfl (by simp; omega) (Nat.le_refl _) hb ?_; intro v' w' hown' hb')))
          go_roundw
          case rel => exact ⟨k + 1, _, by omega, by go_num, by simp; omega, hg, hown2, hb2⟩
          case measure => simp [Lib.intOf]; omega
      · have hg : Hid ((p ++ [92] ++ [s[k]]) ++ Pl.qs (s.data.toList.drop (k + 1)) = X) := Pl.qs_esc s.data.toList p X k hll (by
          show (s[k] == 34 || s[k] == 92) = true
          rw [Pl.byte_eq _ 34 _ rfl h34]; rfl) hp.out
        clear hp
        go_wp2_with (at_builtin; go_must (first | (refine wp_app (W := w) rfl _ _ 22 rfl i0 Tryd.underlying22 hi hy0 hy1 hy2 w.heap.size v' (p ++ [92]) rfl hown' _ [s[k]] rfl 1 1 rfl rfl (by simp; omega) (Nat.le_refl _) hb' ?_; intro v2 w2 hown2 hb2) | (refine wp_app (W := w) rfl _ _ 22 rfl i0 Tryd.underlying22 hi hy0 hy1 hy2 w.heap.size u3 p rfl hown _ [92] rfl 1 1 rfl rfl (by simp; omega) (Nat.le_refl _) hb ?_; intro v' w' hown' hb')))
        go_roundw
        case rel => exact ⟨k + 1, _, by omega, by go_num, by simp; omega, hg, hown2, hb2⟩
        case measure => simp [Lib.intOf]; omega
    · have hpn : Hid (p = X) := Pl.qs_done s.data.toList p X k (by simp; omega) hp.out
      clear hp
      go_wp2_with (at_builtin; go_must (refine wp_app (W := w) rfl _ _ 22 rfl i0 Tryd.underlying22 hi hy0 hy1 hy2 w.heap.size u3 p rfl hown _ [34] rfl 1 1 rfl rfl (by simp; omega) (Nat.le_refl _) hb ?_; intro v' w' hown' hb'; have hbk := hown'.back (P := Tryd.prog) 22 9 Tryd.underlying22 Tryd.underlying5 Tryd.underlying9))
      go_ret
      rw [← hpn.out]
      exact ⟨rfl, hb'⟩
set_option maxHeartbeats 1000000 in
theorem implQuotes (s : ByteArray) (w : World) (hs : s.size ≤ 100000) :
    Calls Tryd.prog 17 #[.string s] w fun e w' => e = .returned (.string ⟨(34 :: Pl.qs s.data.toList ++ [34]).toArray⟩) ∧ Below w.heap.size w w' := by
  obtain ⟨i0, hi, hy0, hy1, hy2⟩ := info_parts Tryd.info5
  obtain ⟨X, hX⟩ : ∃ X, 34 :: Pl.qs s.data.toList = X := ⟨_, rfl⟩
  rw [hX]
  have HX : Hid ([34] ++ Pl.qs (s.data.toList.drop 0) = X) := hX
  clear hX
  have hown0 : Own w.heap.size (.slice (some ⟨w.heap.size, 0, none⟩) 1 1) [34] (w.alloc (.cells #[.int .u8 34] 5)) := World.ownsRow_lit w #[.int .u8 34] 1 (Nat.le_refl _) (by unfold maxLen; omega) rfl
  have Hown0 := (show Hid _ from hown0)
  clear hown0
  go_enter Tryd.func17, Tryd.ntmps17
  go_wp2
  go_loopw [3, 4, 8] (fun v _ i wr => ∃ (k : Nat) (p : List UInt8), k ≤ s.size ∧ i = .int .i64 k ∧ p.length ≤ 1 + 2 * k ∧ Hid (p ++ Pl.qs (s.data.toList.drop k) = X) ∧ Own w.heap.size v p wr ∧ Below w.heap.size w wr) (fun _ _ i _ => s.size - (Lib.intOf i).toNat)
  case atStart => exact ⟨0, [34], Nat.zero_le _, rfl, by simp, HX, Hown0.out, (Below.refl _ _).alloc (Nat.le_refl _) _⟩
  case round =>
    clear HX Hown0
    obtain ⟨k, p, hk, rfl, hpl, hp, hown, hb⟩ := hrel
    by_cases hlt : k < s.size
    · have h8 : s[k].toNat < 256 := UInt8.toNat_lt _
      have hll : k < s.data.toList.length := by simpa using hlt
      cases h34 : ((s[k].toNat : Int) == 34)
      · cases h92 : ((s[k].toNat : Int) == 92)
        · have hg : Hid ((p ++ [s[k]]) ++ Pl.qs (s.data.toList.drop (k + 1)) = X) := Pl.qs_plain s.data.toList p X k hll (by
            have a := Pl.byte_ne _ 34 _ rfl h34
            have b := Pl.byte_ne _ 92 _ rfl h92
            show (s[k] == 34 || s[k] == 92) = false
            simp [a, b]) hp.out
          clear hp
          go_wp2_with (at_builtin; go_must (refine wp_app (W := w) rfl _ _ 22 rfl i0 Tryd.underlying22 hi hy0 hy1 hy2 w.heap.size u3 p rfl hown _ [s[k]] rfl 1 1 rfl rfl (by simp; omega) (Nat.le_refl _) hb ?_; intro v' w' hown' hb'))
          go_roundw
          case rel => exact ⟨k + 1, _, by omega, by go_num, by simp; omega, hg, hown', hb'⟩
          case measure => simp [Lib.intOf]; omega
        · have hg : Hid ((p ++ [92] ++ [s[k]]) ++ Pl.qs (s.data.toList.drop (k + 1)) = X) := Pl.qs_esc s.data.toList p X k hll (by
            show (s[k] == 34 || s[k] == 92) = true
            rw [Pl.byte_eq _ 92 _ rfl h92]; rfl) hp.out
          clear hp
          go_wp2_with (at_builtin; go_must (first | (refine wp_app (W := w) rfl _ _ 22 rfl i0 Tryd.underlying22 hi hy0 hy1 hy2 w.heap.size v' (p ++ [92]) rfl hown' _ [s[k]] rfl 1 1 rfl rfl (by simp; omega) (Nat.le_refl _) hb' ?_; intro v2 w2 hown2 hb2) | (refine wp_app (W := w) rfl _ _ 22 rfl i0 Tryd.underlying22 hi hy0 hy1 hy2 w.heap.size u3 p rfl hown _ [92] rfl 1 1 rfl rfl (by simp; omega) (Nat.le_refl _) hb ?_; intro v' w' hown' hb')))
          go_roundw
          case rel => exact ⟨k + 1, _, by omega, by go_num, by simp; omega, hg, hown2, hb2⟩
          case measure => simp [Lib.intOf]; omega
      · have hg : Hid ((p ++ [92] ++ [s[k]]) ++ Pl.qs (s.data.toList.drop (k + 1)) = X) := Pl.qs_esc s.data.toList p X k hll (by
          show (s[k] == 34 || s[k] == 92) = true
          rw [Pl.byte_eq _ 34 _ rfl h34]; rfl) hp.out
        clear hp
        go_wp2_with (at_builtin; go_must (first | (refine wp_app (W := w) rfl _ _ 22 rfl i0 Tryd.underlying22 hi hy0 hy1 hy2 w.heap.size v' (p ++ [92]) rfl hown' _ [s[k]] rfl 1 1 rfl rfl (by simp; omega) (Nat.le_refl _) hb' ?_; intro v2 w2 hown2 hb2) | (refine wp_app (W := w) rfl _ _ 22 rfl i0 Tryd.underlying22 hi hy0 hy1 hy2 w.heap.size u3 p rfl hown _ [92] rfl 1 1 rfl rfl (by simp; omega) (Nat.le_refl _) hb ?_; intro v' w' hown' hb')))
        go_roundw
        case rel => exact ⟨k + 1, _, by omega, by go_num, by simp; omega, hg, hown2, hb2⟩
        case measure => simp [Lib.intOf]; omega
    · have hpn : Hid (p = X) := Pl.qs_done s.data.toList p X k (by simp; omega) hp.out
      clear hp
      go_wp2_with (at_builtin; go_must (refine wp_app (W := w) rfl _ _ 22 rfl i0 Tryd.underlying22 hi hy0 hy1 hy2 w.heap.size u3 p rfl hown _ [34] rfl 1 1 rfl rfl (by simp; omega) (Nat.le_refl _) hb ?_; intro v' w' hown' hb'; have hbk := hown'.back (P := Tryd.prog) 22 9 Tryd.underlying22 Tryd.underlying5 Tryd.underlying9))
      go_ret
      rw [← hpn.out]
      exact ⟨rfl, hb'⟩
end Go.Proofs.YtgibjilghnnnmaaDoor
