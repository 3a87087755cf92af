
/- A pattern taken apart, on both sides. -/
import Derived.Test.YtdlacoakimahkaaWildRows
namespace Go.Proofs.Ytdlacoakimahkaa
open Go.RowKit Go.Lib
theorem by_eq (c d : UInt8) (h : ((c.toNat : Int) == (d.toNat : Int)) = true) : c = d := by
  simp at h
  exact UInt8.toNat_inj.1 (by omega)
theorem by_ne (c d : UInt8) (h : ((c.toNat : Int) == (d.toNat : Int)) = false) : c ≠ d := by
  rintro rfl
  simp at h
set_option maxHeartbeats 1000000 in
theorem specItems (p : ByteArray) (w : World) (hp : p.size ≤ 200) :
    Calls Try.prog 17 #[.string p] w fun e w' => ∃ v, e = .returned v ∧ OwnI w.heap.size v (Wi.items p.data.toList) w' ∧ Below w.heap.size w w' := by
  obtain ⟨i0, hi, hz0, hz1, hz2⟩ := info_parts Try.info3
  have hll : p.data.toList.length = p.size := by simp
  go_enter Try.func17, Try.ntmps17
  go_wp2
  go_loopw [3, 4] (fun v i wr => ∃ (k : Nat) (o : List Int), k ≤ p.size ∧ i = .int .i64 k ∧ o.length ≤ k ∧ Hid (o ++ Wi.items (p.data.toList.drop k) = Wi.items p.data.toList) ∧ OwnI w.heap.size v o wr ∧ Below w.heap.size w wr) (fun _ i _ => p.size - (Lib.intOf i).toNat)
  case atStart => exact ⟨0, [], Nat.zero_le _, rfl, Nat.le_refl _, rfl, OwnI.made _ _ (Nat.le_refl _), (Below.refl _ _).alloc (Nat.le_refl _) _⟩
  case round =>
    obtain ⟨k, o, hk, rfl, hol, ho, hown, hb⟩ := hrel
    by_cases hlt : k < p.size
    · have hst := mkH (Wi.items_star p.data.toList k (by omega))
      have han := mkH (Wi.items_any p.data.toList k (by omega))
      have hes := mkH (Wi.items_esc p.data.toList k)
      have hla := mkH (Wi.items_last p.data.toList k (by omega))
      have hby := mkH (Wi.items_byte p.data.toList k (by omega))
      have hgk : p.data.toList[k]'(by omega) = p[k] := rfl
      have h8 : p[k].toNat < 256 := UInt8.toNat_lt _
      by_cases h42 : ((p[k].toNat : Int) == 42) = true
      · have e1 : Hid ((o ++ [-1]) ++ Wi.items (p.data.toList.drop (k + 1)) = Wi.items p.data.toList) := by
          have := ho.out
          rw [hst.out (by_eq _ 42 h42)] at this
          exact (List.append_assoc _ _ _).trans this
        clear hst han hes hla hby ho hll hgk
        go_wp2_with (at_builtin; go_must (refine wp_appI (W := w) rfl _ _ 37 rfl i0 Try.underlying37 hi hz0 hz1 hz2 w.heap.size u3 o rfl hown (-1) rfl (by omega) (Nat.le_refl _) hb ?_; intro v' w' hown' hb'))
        go_roundw
        case rel => exact ⟨k + 1, _, by omega, by go_num, by simp; omega, e1, hown', hb'⟩
        case measure => simp [Lib.intOf]; omega
      · rw [Bool.not_eq_true] at h42
        by_cases h63 : ((p[k].toNat : Int) == 63) = true
        · have e1 : Hid ((o ++ [-2]) ++ Wi.items (p.data.toList.drop (k + 1)) = Wi.items p.data.toList) := by
            have := ho.out
            rw [han.out (by_eq _ 63 h63)] at this
            exact (List.append_assoc _ _ _).trans this
          clear hst han hes hla hby ho hll hgk
          go_wp2_with (at_builtin; go_must (refine wp_appI (W := w) rfl _ _ 37 rfl i0 Try.underlying37 hi hz0 hz1 hz2 w.heap.size u3 o rfl hown (-2) rfl (by omega) (Nat.le_refl _) hb ?_; intro v' w' hown' hb'))
          go_roundw
          case rel => exact ⟨k + 1, _, by omega, by go_num, by simp; omega, e1, hown', hb'⟩
          case measure => simp [Lib.intOf]; omega
        · rw [Bool.not_eq_true] at h63
          by_cases h92 : ((p[k].toNat : Int) == 92) = true
          · by_cases hk1 : k + 1 < p.size
            · have hk1' : decide ((k : Int) + 1 < (p.size : Int)) = true := by simp; omega
              have e1 : Hid ((o ++ [((small p[k + 1]).toNat : Int)]) ++ Wi.items (p.data.toList.drop (k + 2)) = Wi.items p.data.toList) := by
                have := ho.out
                rw [hes.out (by omega) (by_eq _ 92 h92)] at this
                exact (List.append_assoc _ _ _).trans this
              have h8' : (small p[k + 1]).toNat < 256 := UInt8.toNat_lt _
              clear hst han hes hla hby ho hll hgk
              go_wp2_with fail
              refine (specSmall p[k + 1] _).mono ?_
              rintro e w2 ⟨rfl, rfl⟩
              generalize small p[k + 1] = c at *
              go_wp2_with (at_builtin; go_must (refine wp_appI (W := w) rfl _ _ 37 rfl i0 Try.underlying37 hi hz0 hz1 hz2 w.heap.size u3 o rfl hown _ rfl (by omega) (Nat.le_refl _) hb ?_; intro v' w' hown' hb'))
              go_roundw
              case rel => exact ⟨k + 2, _, by omega, by go_num, by simp; omega, e1, hown', hb'⟩
              case measure => simp [Lib.intOf]; omega
            · have hk1' : decide ((k : Int) + 1 < (p.size : Int)) = false := by simp; omega
              have e1 : Hid ((o ++ [((small p[k]).toNat : Int)]) ++ Wi.items (p.data.toList.drop (k + 1)) = Wi.items p.data.toList) := by
                have := ho.out
                rw [hla.out (by omega) (by_eq _ 92 h92)] at this
                exact (List.append_assoc _ _ _).trans this
              have h8' : (small p[k]).toNat < 256 := UInt8.toNat_lt _
              clear hst han hes hla hby ho hll hgk
              go_wp2_with fail
              refine (specSmall p[k] _).mono ?_
              rintro e w2 ⟨rfl, rfl⟩
              generalize small p[k] = c at *
              go_wp2_with (at_builtin; go_must (refine wp_appI (W := w) rfl _ _ 37 rfl i0 Try.underlying37 hi hz0 hz1 hz2 w.heap.size u3 o rfl hown _ rfl (by omega) (Nat.le_refl _) hb ?_; intro v' w' hown' hb'))
              go_roundw
              case rel => exact ⟨k + 1, _, by omega, by go_num, by simp; omega, e1, hown', hb'⟩
              case measure => simp [Lib.intOf]; omega
          · rw [Bool.not_eq_true] at h92
            have e1 : Hid ((o ++ [((small p[k]).toNat : Int)]) ++ Wi.items (p.data.toList.drop (k + 1)) = Wi.items p.data.toList) := by
              have := ho.out
              rw [hby.out (by_ne _ 42 h42) (by_ne _ 63 h63) (by_ne _ 92 h92)] at this
              exact (List.append_assoc _ _ _).trans this
            have h8' : (small p[k]).toNat < 256 := UInt8.toNat_lt _
            clear hst han hes hla hby ho hll hgk
            go_wp2_with fail
            refine (specSmall p[k] _).mono ?_
            rintro e w2 ⟨rfl, rfl⟩
            generalize small p[k] = c at *
            go_wp2_with (at_builtin; go_must (refine wp_appI (W := w) rfl _ _ 37 rfl i0 Try.underlying37 hi hz0 hz1 hz2 w.heap.size u3 o rfl hown _ rfl (by omega) (Nat.le_refl _) hb ?_; intro v' w' hown' hb'))
            go_roundw
            case rel => exact ⟨k + 1, _, by omega, by go_num, by simp; omega, e1, hown', hb'⟩
            case measure => simp [Lib.intOf]; omega
    · have e1 : Hid (o = Wi.items p.data.toList) := by
        have := ho.out
        rw [List.drop_eq_nil_of_le (by omega)] at this
        exact (List.append_nil o).symm.trans this
      clear ho hll
      go_wp2
      go_ret
      rw [e1.out] at hown
      exact ⟨_, rfl, hown, hb⟩
theorem pc_star (c : Int) (h : (c == 42) = true) : (#[.bool true, .bool false, .int .u8 c] : Array Value) = #[.bool ((-1 : Int) == -1), .bool ((-1 : Int) == -2), .int .u8 (pb (-1))] := by
  simp at h; subst h; rfl
theorem pc_any (c : Int) (h : (c == 63) = true) : (#[.bool false, .bool true, .int .u8 c] : Array Value) = #[.bool ((-2 : Int) == -1), .bool ((-2 : Int) == -2), .int .u8 (pb (-2))] := by
  simp at h; subst h; rfl
theorem pc_byte (c : Nat) : (#[.bool false, .bool false, .int .u8 (c : Int)] : Array Value) = #[.bool ((c : Int) == -1), .bool ((c : Int) == -2), .int .u8 (pb (c : Int))] := by
  have e1 : ((c : Int) == -1) = false := by simp
  have e2 : ((c : Int) == -2) = false := by simp
  rw [e1, e2, pb, if_neg (by omega), if_neg (by omega)]
set_option maxHeartbeats 1000000 in
theorem implPieces (p : ByteArray) (w : World) (hp : p.size ≤ 200) (hsm : ∀ c ∈ p.data.toList, small c = c) :
    Calls Try.prog 13 #[.string p] w fun e w' => ∃ v, e = .returned v ∧ OwnP w.heap.size v (Wi.items p.data.toList) w' ∧ Below w.heap.size w w' := by
  obtain ⟨i0, hi, hz0, hz1, hz2⟩ := info_parts Try.infoP
  have hll : p.data.toList.length = p.size := by simp
  have hsm' : Hid (∀ k (h : k < p.size), small p[k] = p[k]) := fun k h => hsm _ (List.getElem_mem (l := p.data.toList) (by omega))
  clear hsm
  go_enter Try.func13, Try.ntmps13
  go_wp2
  go_loopw [3, 4] (fun v i wr => ∃ (k : Nat) (o : List Int), k ≤ p.size ∧ i = .int .i64 k ∧ o.length ≤ k ∧ Hid (o ++ Wi.items (p.data.toList.drop k) = Wi.items p.data.toList) ∧ OwnP w.heap.size v o wr ∧ Below w.heap.size w wr) (fun _ i _ => p.size - (Lib.intOf i).toNat)
  case atStart => exact ⟨0, [], Nat.zero_le _, rfl, Nat.le_refl _, rfl, OwnP.nil _ _, Below.refl _ _⟩
  case round =>
    obtain ⟨k, o, hk, rfl, hol, ho, hown, hb⟩ := hrel
    by_cases hlt : k < p.size
    · have hst := mkH (Wi.items_star p.data.toList k (by omega))
      have han := mkH (Wi.items_any p.data.toList k (by omega))
      have hes := mkH (Wi.items_esc p.data.toList k)
      have hla := mkH (Wi.items_last p.data.toList k (by omega))
      have hby := mkH (Wi.items_byte p.data.toList k (by omega))
      have hgk : p.data.toList[k]'(by omega) = p[k] := rfl
      have hs0 := mkH (hsm'.out k hlt)
      have h8 : p[k].toNat < 256 := UInt8.toNat_lt _
      by_cases h92 : ((p[k].toNat : Int) == 92) = true
      · have h42 : ((p[k].toNat : Int) == 42) = false := by simp at h92 ⊢; omega
        have h63 : ((p[k].toNat : Int) == 63) = false := by simp at h92 ⊢; omega
        by_cases hk1 : k + 1 < p.size
        · have hk1' : decide ((k : Int) + 1 < (p.size : Int)) = true := by simp; omega
          have hs1 := hsm'.out (k + 1) hk1
          have e1 : Hid ((o ++ [(p[k + 1].toNat : Int)]) ++ Wi.items (p.data.toList.drop (k + 2)) = Wi.items p.data.toList) := by
            have := ho.out
            rw [hes.out (by omega) (by_eq _ 92 h92)] at this
            have e2 : p.data.toList[k + 1]'(by omega) = p[k + 1] := rfl
            rw [e2, hs1] at this
            exact (List.append_assoc _ _ _).trans this
          have h8' : p[k + 1].toNat < 256 := UInt8.toNat_lt _
          clear hst han hes hla hby ho hll hgk hs1 hs0 hsm'
          generalize hc : p[k + 1] = c at *
          go_wp2_with (at_builtin; go_must (refine wp_appP (W := w) rfl _ _ 35 rfl i0 Try.underlying35 hi hz0 hz1 hz2 w.heap.size u3 o rfl hown _ _ (pc_byte c.toNat) rfl (by omega) (Nat.le_refl _) hb ?_; intro v' w' hown' hb'))
          go_roundw
          case rel => exact ⟨k + 2, _, by omega, by go_num, by simp; omega, e1, hown', hb'⟩
          case measure => simp [Lib.intOf]; omega
        · have hk1' : decide ((k : Int) + 1 < (p.size : Int)) = false := by simp; omega
          have e1 : Hid ((o ++ [(p[k].toNat : Int)]) ++ Wi.items (p.data.toList.drop (k + 1)) = Wi.items p.data.toList) := by
            have := ho.out
            rw [hla.out (by omega) (by_eq _ 92 h92), hgk, hs0.out] at this
            exact (List.append_assoc _ _ _).trans this
          clear hst han hes hla hby ho hll hgk hs0 hsm'
          generalize hc : p[k] = c at *
          go_wp2_with (at_builtin; go_must (refine wp_appP (W := w) rfl _ _ 35 rfl i0 Try.underlying35 hi hz0 hz1 hz2 w.heap.size u3 o rfl hown _ _ (pc_byte c.toNat) rfl (by omega) (Nat.le_refl _) hb ?_; intro v' w' hown' hb'))
          go_roundw
          case rel => exact ⟨k + 1, _, by omega, by go_num, by simp; omega, e1, hown', hb'⟩
          case measure => simp [Lib.intOf]; omega
      · rw [Bool.not_eq_true] at h92
        by_cases h42 : ((p[k].toNat : Int) == 42) = true
        · have h63 : ((p[k].toNat : Int) == 63) = false := by simp at h42 ⊢; omega
          have e1 : Hid ((o ++ [-1]) ++ Wi.items (p.data.toList.drop (k + 1)) = Wi.items p.data.toList) := by
            have := ho.out
            rw [hst.out (by_eq _ 42 h42)] at this
            exact (List.append_assoc _ _ _).trans this
          have hpc := mkH (pc_star _ h42)
          clear hst han hes hla hby ho hll hgk hs0 hsm'
          generalize hc : p[k] = c at *
          go_wp2_with (at_builtin; go_must (refine wp_appP (W := w) rfl _ _ 35 rfl i0 Try.underlying35 hi hz0 hz1 hz2 w.heap.size u3 o rfl hown (-1) _ hpc.out rfl (by omega) (Nat.le_refl _) hb ?_; intro v' w' hown' hb'))
          go_roundw
          case rel => exact ⟨k + 1, _, by omega, by go_num, by simp; omega, e1, hown', hb'⟩
          case measure => simp [Lib.intOf]; omega
        · rw [Bool.not_eq_true] at h42
          by_cases h63 : ((p[k].toNat : Int) == 63) = true
          · have e1 : Hid ((o ++ [-2]) ++ Wi.items (p.data.toList.drop (k + 1)) = Wi.items p.data.toList) := by
              have := ho.out
              rw [han.out (by_eq _ 63 h63)] at this
              exact (List.append_assoc _ _ _).trans this
            have hpc := mkH (pc_any _ h63)
            clear hst han hes hla hby ho hll hgk hs0 hsm'
            generalize hc : p[k] = c at *
            go_wp2_with (at_builtin; go_must (refine wp_appP (W := w) rfl _ _ 35 rfl i0 Try.underlying35 hi hz0 hz1 hz2 w.heap.size u3 o rfl hown (-2) _ hpc.out rfl (by omega) (Nat.le_refl _) hb ?_; intro v' w' hown' hb'))
            go_roundw
            case rel => exact ⟨k + 1, _, by omega, by go_num, by simp; omega, e1, hown', hb'⟩
            case measure => simp [Lib.intOf]; omega
          · rw [Bool.not_eq_true] at h63
            have e1 : Hid ((o ++ [(p[k].toNat : Int)]) ++ Wi.items (p.data.toList.drop (k + 1)) = Wi.items p.data.toList) := by
              have := ho.out
              rw [hby.out (by_ne _ 42 h42) (by_ne _ 63 h63) (by_ne _ 92 h92), hgk, hs0.out] at this
              exact (List.append_assoc _ _ _).trans this
            clear hst han hes hla hby ho hll hgk hs0 hsm'
            generalize hc : p[k] = c at *
            go_wp2_with (at_builtin; go_must (refine wp_appP (W := w) rfl _ _ 35 rfl i0 Try.underlying35 hi hz0 hz1 hz2 w.heap.size u3 o rfl hown _ _ (pc_byte c.toNat) rfl (by omega) (Nat.le_refl _) hb ?_; intro v' w' hown' hb'))
            go_roundw
            case rel => exact ⟨k + 1, _, by omega, by go_num, by simp; omega, e1, hown', hb'⟩
            case measure => simp [Lib.intOf]; omega
    · have e1 : Hid (o = Wi.items p.data.toList) := by
        have := ho.out
        rw [List.drop_eq_nil_of_le (by omega)] at this
        exact (List.append_nil o).symm.trans this
      clear ho hll
      go_wp2
      go_ret
      rw [e1.out] at hown
      exact ⟨_, rfl, hown, hb⟩
end Go.Proofs.Ytdlacoakimahkaa
