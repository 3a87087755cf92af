
/- The tests for a blank. -/

/- The kinds: none of a line end's bytes; a blank. -/

/- The walks of the two Unfold. -/
import Derived.Test.YtgabjiamabbheaaGreatDoorBase
namespace Go.Proofs.YtgabjiamabbheaaGreatDoor
open Go.RowKit Go.Lib
set_option maxRecDepth 20000 in
/-- The two tests for a blank. -/
theorem blank_cases (c : UInt8) : ((c.toNat : Int) == 32) = true ∧ Pl.blank c = true ∨ ((c.toNat : Int) == 32) = false ∧ ((c.toNat : Int) == 9) = true ∧ Pl.blank c = true ∨ ((c.toNat : Int) == 32) = false ∧ ((c.toNat : Int) == 9) = false ∧ Pl.blank c = false := by
  cases h : ((c.toNat : Int) == 32)
  · cases h9 : ((c.toNat : Int) == 9)
    · exact .inr (.inr ⟨rfl, rfl, by simp [Pl.blank, Pl.byte_ne c 32 _ rfl h, Pl.byte_ne c 9 _ rfl h9]⟩)
    · exact .inr (.inl ⟨rfl, rfl, by rw [Pl.byte_eq c 9 _ rfl h9]; rfl⟩)
  · exact .inl ⟨rfl, by rw [Pl.byte_eq c 32 _ rfl h]; rfl⟩
set_option maxRecDepth 20000 in
theorem specBlank (c : UInt8) (w : World) : Calls Tryz.prog 32 #[.int .u8 (c.toNat : Int)] w fun e w' => e = .returned (.bool (Pl.blank c)) ∧ w = w' := by
  rcases blank_cases c with ⟨h, hb⟩ | ⟨h, h9, hb⟩ | ⟨h, h9, hb⟩ <;> rw [hb] <;> clear hb
  all_goals
    go_enter Tryz.func32, Tryz.ntmps32
    go_wp2
    go_ret
    exact ⟨rfl, rfl⟩
set_option maxRecDepth 20000 in
theorem implBlank (c : UInt8) (w : World) : Calls Tryz.prog 103 #[.int .u8 (c.toNat : Int)] w fun e w' => e = .returned (.bool (Pl.blank c)) ∧ w = w' := by
  rcases blank_cases c with ⟨h, hb⟩ | ⟨h, h9, hb⟩ | ⟨h, h9, hb⟩ <;> rw [hb] <;> clear hb
  all_goals
    go_enter Tryz.func103, Tryz.ntmps103
    go_wp2
    go_ret
    exact ⟨rfl, rfl⟩
end Go.Proofs.YtgabjiamabbheaaGreatDoor
namespace Go.Proofs.YtgabjiamabbheaaGreatDoor
open Go.RowKit Go.Lib
set_option maxRecDepth 20000 in
theorem implLineByte (c : UInt8) (w : World) : Calls Tryz.prog 106 #[.int .u8 (c.toNat : Int)] w fun e w' => e = .returned (.bool (Pl.lb c)) ∧ w = w' := by
  have h8 : c.toNat < 256 := UInt8.toNat_lt _
  cases h13 : ((c.toNat : Int) == 13)
  · have hn : ((c.toNat : Int) != 13) = true := by rw [bne, h13]; rfl
    cases h10 : ((c.toNat : Int) == 10)
    · have hm : ((c.toNat : Int) != 10) = true := by rw [bne, h10]; rfl
      rw [show Pl.lb c = true from by simp [Pl.lb, Pl.byte_ne c 13 _ rfl h13, Pl.byte_ne c 10 _ rfl h10]]
      go_enter Tryz.func106, Tryz.ntmps106
      go_wp2
      go_ret
      exact ⟨rfl, rfl⟩
    · have hm : ((c.toNat : Int) != 10) = false := by rw [bne, h10]; rfl
      rw [show Pl.lb c = false from by rw [Pl.byte_eq c 10 _ rfl h10]; rfl]
      go_enter Tryz.func106, Tryz.ntmps106
      go_wp2
      go_ret
      exact ⟨rfl, rfl⟩
  · have hn : ((c.toNat : Int) != 13) = false := by rw [bne, h13]; rfl
    rw [show Pl.lb c = false from by rw [Pl.byte_eq c 13 _ rfl h13]; rfl]
    go_enter Tryz.func106, Tryz.ntmps106
    go_wp2
    go_ret
    exact ⟨rfl, rfl⟩
set_option maxRecDepth 20000 in
theorem kindLine : Kind 106 Pl.lb := ⟨Go.Proofs.enters_of Tryz.func106 (by kernel_rfl) rfl, implLineByte⟩
set_option maxRecDepth 20000 in
theorem kindBlank : Kind 103 Pl.blank := ⟨Go.Proofs.enters_of Tryz.func103 (by kernel_rfl) rfl, implBlank⟩
end Go.Proofs.YtgabjiamabbheaaGreatDoor
namespace Go.Proofs.YtgabjiamabbheaaGreatDoor
open Go.RowKit Go.Lib
set_option maxRecDepth 20000 in
set_option maxHeartbeats 400000 in
theorem implLineEndAt (s : ByteArray) (k : Nat) (w : World) (_hs : s.size ≤ 1100000) (hk : k ≤ s.size) :
    Calls Tryz.prog 100 #[.string s, .int .i64 k] w fun e w' => e = .returned (.bool (Pl.crlf s.data.toList k)) ∧ w = w' := by
  by_cases h : s.size < k + 2
  · rw [Pl.crlf_short _ _ (by simp; omega)]
    go_enter Tryz.func100, Tryz.ntmps100
    go_wp2
    go_ret
    exact ⟨rfl, rfl⟩
  · rw [← Pl.crlf_long]
    go_enter Tryz.func100, Tryz.ntmps100
    go_wp2
    go_ret
    exact ⟨rfl, rfl⟩
set_option maxRecDepth 20000 in
set_option maxHeartbeats 400000 in
theorem implFoldAt (s : ByteArray) (k : Nat) (w : World) (hs : s.size ≤ 1100000) (hk : k ≤ s.size) :
    Calls Tryz.prog 127 #[.string s, .int .i64 k] w fun e w' => e = .returned (.bool (Pl.fold s.data.toList k)) ∧ w = w' := by
  have hc := implLineEndAt s k w hs hk
  by_cases hcr : Pl.crlf s.data.toList k = true
  · by_cases h2 : k + 2 < s.size
    · rw [hcr] at hc
      rw [show Pl.fold s.data.toList k = Pl.blank s[k + 2] from by rw [Pl.fold, hcr, Pl.blankAt_lt _ _ (by simpa using h2)]; rfl]
      clear hcr
      go_enter Tryz.func127, Tryz.ntmps127
      go_wp2_with (first | (go_at_call 100; go_must (refine hc.mono ?_; rintro e w2 ⟨rfl, rfl⟩)) | (go_at_call 103; go_must (refine (implBlank s[k + 2] _).mono ?_; rintro e w2 ⟨rfl, rfl⟩)))
      go_ret
      exact ⟨rfl, rfl⟩
    · rw [hcr] at hc
      rw [show Pl.fold s.data.toList k = false from by rw [Pl.fold, Pl.blankAt_ge _ (k + 2) (by simp; omega), Bool.and_false]]
      clear hcr
      go_enter Tryz.func127, Tryz.ntmps127
      go_wp2_with (go_at_call 100; go_must (refine hc.mono ?_; rintro e w2 ⟨rfl, rfl⟩))
      go_ret
      exact ⟨rfl, rfl⟩
  · rw [Bool.not_eq_true] at hcr
    rw [hcr] at hc
    rw [show Pl.fold s.data.toList k = false from by rw [Pl.fold, hcr]; rfl]
    clear hcr
    go_enter Tryz.func127, Tryz.ntmps127
    go_wp2_with (go_at_call 100; go_must (refine hc.mono ?_; rintro e w2 ⟨rfl, rfl⟩))
    go_ret
    exact ⟨rfl, rfl⟩
set_option maxRecDepth 20000 in
set_option maxHeartbeats 400000 in
theorem specFold3 (s : ByteArray) (k : Nat) (w : World) (_hs : s.size ≤ 1100000) (_hk : k ≤ s.size) :
    Calls Tryz.prog 69 #[.string s, .int .i64 k] w fun e w' => e = .returned (.bool (Pl.fold s.data.toList k)) ∧ w = w' := by
  by_cases h2 : k + 2 < s.size
  · by_cases h0 : ((s[k].toNat : Int) == 13) = true
    · by_cases h1 : ((s[k + 1].toNat : Int) == 10) = true
      · rw [show Pl.fold s.data.toList k = Pl.blank s[k + 2] from by
          rw [Pl.fold, (Pl.crlf_iff _ _).2 ⟨by simp; omega, Pl.byte_eq _ 13 _ rfl h0, Pl.byte_eq _ 10 _ rfl h1⟩, Pl.blankAt_lt _ _ (by simpa using h2)]; rfl]
        go_enter Tryz.func69, Tryz.ntmps69
        go_wp2_with (go_at_call 32; go_must (refine (specBlank s[k + 2] _).mono ?_; rintro e w2 ⟨rfl, rfl⟩))
        go_ret
        exact ⟨rfl, rfl⟩
      · rw [Bool.not_eq_true] at h1
        rw [show Pl.fold s.data.toList k = false from by
          rw [Bool.eq_false_iff]; intro e; obtain ⟨h, -, e1, -⟩ := (Pl.fold_iff _ _).1 e; exact Pl.byte_ne _ 10 _ rfl h1 e1]
        go_enter Tryz.func69, Tryz.ntmps69
        go_wp2
        go_ret
        exact ⟨rfl, rfl⟩
    · rw [Bool.not_eq_true] at h0
      rw [show Pl.fold s.data.toList k = false from by
        rw [Bool.eq_false_iff]; intro e; obtain ⟨h, e0, -, -⟩ := (Pl.fold_iff _ _).1 e; exact Pl.byte_ne _ 13 _ rfl h0 e0]
      go_enter Tryz.func69, Tryz.ntmps69
      go_wp2
      go_ret
      exact ⟨rfl, rfl⟩
  · rw [show Pl.fold s.data.toList k = false from by rw [Pl.fold, Pl.blankAt_ge _ (k + 2) (by simp; omega), Bool.and_false]]
    go_enter Tryz.func69, Tryz.ntmps69
    go_wp2
    go_ret
    exact ⟨rfl, rfl⟩
set_option maxRecDepth 20000 in
set_option maxHeartbeats 1000000 in
theorem specUnfold (s : ByteArray) (w : World) (hs : s.size ≤ 100000) :
    Calls Tryz.prog 74 #[.string s] w fun e w' => e = .returned (.string ⟨(Pl.unf false s.data.toList).toArray⟩) ∧ Below w.heap.size w w' := by
  obtain ⟨i0, hi, hz0, hz1, hz2⟩ := info_parts Tryz.info5
  have hc0 : decide ((100000 : Int) < (s.size : Int)) = false := by simp; omega
  go_enter Tryz.func74, Tryz.ntmps74
  go_wp2
  go_loopw [3, 4] (fun v i wr => ∃ (k : Nat) (p : List UInt8), k ≤ s.size ∧ i = .int .i64 k ∧ p.length ≤ k ∧ Hid (p ++ Pl.unf false (s.data.toList.drop k) = Pl.unf false s.data.toList) ∧ Own w.heap.size v p wr ∧ Below w.heap.size w wr) (fun _ i _ => s.size - (Lib.intOf i).toNat)
  case atStart => exact ⟨0, [], Nat.zero_le _, rfl, by simp, rfl, Own.made _ _ (Nat.le_refl _), (Below.refl _ _).alloc (Nat.le_refl _) _⟩
  case round =>
    obtain ⟨k, p, hk, rfl, hpl, hp, hown, hb⟩ := hrel
    by_cases hlt : k < s.size
    · have h8 : s[k].toNat < 256 := UInt8.toNat_lt _
      have hc := fun w => specFold3 s k w (by omega) hk
      by_cases hf : Pl.fold s.data.toList k = true
      · have h2 : Hid (k + 2 < s.size) := show k + 2 < s.size from by simpa using Pl.fold_lt _ _ hf
        have Hf : Hid (Pl.fold s.data.toList k = true) := hf
        simp only [hf] at hc
        clear hf
        go_wp2_with (go_at_call 69; go_must (refine (hc _).mono ?_; rintro e w2 ⟨rfl, rfl⟩))
        go_roundw
        case rel => exact ⟨k + 2, p, by have := h2.out; omega, by go_num, by omega, Pl.unf_fold _ p _ k Hf.out hp, hown, hb⟩
        case measure => simp [Lib.intOf]; omega
      · rw [Bool.not_eq_true] at hf
        have Hf : Hid (Pl.fold s.data.toList k = false) := hf
        simp only [hf] at hc
        clear hf
        go_wp2_with (first | (go_at_call 69; go_must (refine (hc _).mono ?_; rintro e w2 ⟨rfl, rfl⟩)) | (at_builtin; go_must (refine wp_app (W := w) rfl _ _ 69 rfl i0 Tryz.underlying69 hi hz0 hz1 hz2 w.heap.size u3 p rfl hown _ [s[k]] rfl 1 1 rfl rfl (by simp; omega) (Nat.le_refl _) hb ?_; intro v' w' hown' hb')))
        go_roundw
        case rel => exact ⟨k + 1, _, by omega, by go_num, by simp; omega, Pl.unf_other _ p _ k (by simpa using hlt) Hf.out hp, hown', hb'⟩
        case measure => simp [Lib.intOf]; omega
    · have hpn : Hid (p = Pl.unf false s.data.toList) := Pl.unf_done _ p _ k (by simp; omega) hp
      clear hp
      have hbk := hown.back (P := Tryz.prog) 69 9 Tryz.underlying69 Tryz.underlying5 Tryz.underlying9
      go_wp2
      go_ret
      rw [← hpn.out]
      exact ⟨rfl, hb⟩
set_option maxRecDepth 20000 in
set_option maxHeartbeats 1000000 in
theorem implUnfolded (s : ByteArray) (w : World) (hs : s.size ≤ 1100000) :
    Calls Tryz.prog 95 #[.string s] w fun e w' => e = .returned (.string ⟨(Pl.unf false s.data.toList).toArray⟩) ∧ Below w.heap.size w w' := by
  obtain ⟨i0, hi, hz0, hz1, hz2⟩ := info_parts Tryz.info5
  go_enter Tryz.func95, Tryz.ntmps95
  go_wp2
  go_loopw [3, 4] (fun v i wr => ∃ (k : Nat) (p : List UInt8), k ≤ s.size ∧ i = .int .i64 k ∧ p.length ≤ k ∧ Hid (p ++ Pl.unf false (s.data.toList.drop k) = Pl.unf false s.data.toList) ∧ Own w.heap.size v p wr ∧ Below w.heap.size w wr) (fun _ i _ => s.size - (Lib.intOf i).toNat)
  case atStart => exact ⟨0, [], Nat.zero_le _, rfl, by simp, rfl, Own.nil _ _, Below.refl _ _⟩
  case round =>
    obtain ⟨k, p, hk, rfl, hpl, hp, hown, hb⟩ := hrel
    by_cases hlt : k < s.size
    · have h8 : s[k].toNat < 256 := UInt8.toNat_lt _
      have hc := fun w => implFoldAt s k w hs hk
      by_cases hf : Pl.fold s.data.toList k = true
      · have h2 : Hid (k + 2 < s.size) := show k + 2 < s.size from by simpa using Pl.fold_lt _ _ hf
        have Hf : Hid (Pl.fold s.data.toList k = true) := hf
        simp only [hf] at hc
        clear hf
        go_wp2_with (go_at_call 127; go_must (refine (hc _).mono ?_; rintro e w2 ⟨rfl, rfl⟩))
        go_roundw
        case rel => exact ⟨k + 2, p, by have := h2.out; omega, by go_num, by omega, Pl.unf_fold _ p _ k Hf.out hp, hown, hb⟩
        case measure => simp [Lib.intOf]; omega
      · rw [Bool.not_eq_true] at hf
        have Hf : Hid (Pl.fold s.data.toList k = false) := hf
        simp only [hf] at hc
        clear hf
        go_wp2_with (first | (go_at_call 127; go_must (refine (hc _).mono ?_; rintro e w2 ⟨rfl, rfl⟩)) | (at_builtin; go_must (refine wp_app (W := w) rfl _ _ 69 rfl i0 Tryz.underlying69 hi hz0 hz1 hz2 w.heap.size u3 p rfl hown _ [s[k]] rfl 1 1 rfl rfl (by simp; omega) (Nat.le_refl _) hb ?_; intro v' w' hown' hb')))
        go_roundw
        case rel => exact ⟨k + 1, _, by omega, by go_num, by simp; omega, Pl.unf_other _ p _ k (by simpa using hlt) Hf.out hp, hown', hb'⟩
        case measure => simp [Lib.intOf]; omega
    · have hpn : Hid (p = Pl.unf false s.data.toList) := Pl.unf_done _ p _ k (by simp; omega) hp
      clear hp
      have hbk := hown.back (P := Tryz.prog) 69 9 Tryz.underlying69 Tryz.underlying5 Tryz.underlying9
      go_wp2
      go_ret
      rw [← hpn.out]
      exact ⟨rfl, hb⟩
end Go.Proofs.YtgabjiamabbheaaGreatDoor
