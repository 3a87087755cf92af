
/- The walk of the model's Fold. -/
import Derived.Test.YtffjgcpiamgejaaPiece
namespace Go.Proofs.Ytffjgcpiamgejaa
open Go.RowKit Go.Lib
set_option maxHeartbeats 1000000 in
theorem specFoldRaw (s : ByteArray) (x : Int) (w : World) (hs : s.size ≤ 100000) (h : x < 0 ∨ 78 < x ∨ s.data.toList.all Pl.lb = false) :
    Calls Try.prog 12 #[.string s, .int .i64 x] w fun e w' => e = .returned (.string s) ∧ w = w' := by
  have hc0 : decide ((100000 : Int) < (s.size : Int)) = false := by simp; omega
  by_cases h1 : x < 0
  · clear h
    go_enter Try.func12, Try.ntmps12
    go_wp2
    go_ret
    exact ⟨rfl, rfl⟩
  · by_cases h2 : 78 < x
    · clear h
      go_enter Try.func12, Try.ntmps12
      go_wp2
      go_ret
      exact ⟨rfl, rfl⟩
    · have hlb : Hid (s.data.toList.all Pl.lb = false) := (h.resolve_left h1).resolve_left h2
      clear h
      go_enter Try.func12, Try.ntmps12
      go_wp2
      go_loopw [5] (fun i wr => ∃ k : Nat, k ≤ s.size ∧ i = .int .i64 k ∧ Hid ((s.data.toList.drop k).all Pl.lb = false) ∧ wr = w) (fun i _ => s.size - (Lib.intOf i).toNat)
      case atStart => exact ⟨0, Nat.zero_le _, rfl, hlb, rfl⟩
      case round =>
        clear hlb
        obtain ⟨k, hk, rfl, hp, rfl⟩ := hrel
        by_cases hlt : k < s.size
        · have h8 : s[k].toNat < 256 := UInt8.toNat_lt _
          have hst : Hid ((s.data.toList.drop k).all Pl.lb = (Pl.lb s[k] && (s.data.toList.drop (k + 1)).all Pl.lb)) := Pl.all_step Pl.lb s.data.toList k (by simpa using hlt)
          cases h13 : ((s[k].toNat : Int) == 13)
          · cases h10 : ((s[k].toNat : Int) == 10)
            · have hg : Hid ((s.data.toList.drop (k + 1)).all Pl.lb = false) := show _ = _ from by
                have := hst.out
                rw [hp.out, show Pl.lb s[k] = true from by simp [Pl.lb, Pl.byte_ne _ 13 _ rfl h13, Pl.byte_ne _ 10 _ rfl h10], Bool.true_and] at this
                exact this.symm
              clear hst hp
              go_wp2
              go_roundw
              case rel => exact ⟨k + 1, by omega, by go_num, hg, trivial⟩
              case measure => simp [Lib.intOf]; omega
            · clear hst hp
              go_wp2
              go_ret
              exact ⟨rfl, rfl⟩
          · clear hst hp
            go_wp2
            go_ret
            exact ⟨rfl, rfl⟩
        · exfalso
          have := hp.out
          rw [Pl.all_done Pl.lb _ k (by simp; omega)] at this
          cases this
set_option maxRecDepth 8000 in
set_option maxHeartbeats 4000000 in
theorem specFold (s : ByteArray) (u : Nat) (w : World) (hs : s.size ≤ 100000) (hu : u ≤ 78) (hlb : s.data.toList.all Pl.lb = true) :
    Calls Try.prog 12 #[.string s, .int .i64 u] w fun e w' => e = .returned (.string ⟨(Pl.fld s.data.toList u false).toArray⟩) ∧ Below w.heap.size w w' := by
  obtain ⟨i0, hi, hy0, hy1, hy2⟩ := info_parts Try.info5
  have hc0 : decide ((100000 : Int) < (s.size : Int)) = false := by simp; omega
  have Hlb : Hid (∀ k (h : k < s.size), ((s[k].toNat : Int) == 13) = false ∧ ((s[k].toNat : Int) == 10) = false) := show ∀ k (h : k < s.size), _ from by
    intro k h
    rw [List.all_eq_true] at hlb
    have := hlb s[k] (by rw [← Pl.at_list s k h]; exact List.getElem_mem _)
    unfold Pl.lb at this
    constructor
    · rw [Bool.eq_false_iff]; intro e; rw [Pl.byte_eq _ 13 _ rfl e] at this; cases this
    · rw [Bool.eq_false_iff]; intro e; rw [Pl.byte_eq _ 10 _ rfl e] at this; cases this
  clear hlb
  go_enter Try.func12, Try.ntmps12
  go_wp2
  go_loopw [5] (fun i wr => ∃ k : Nat, k ≤ s.size ∧ i = .int .i64 k ∧ wr = w) (fun i _ => s.size - (Lib.intOf i).toNat)
  case atStart => exact ⟨0, Nat.zero_le _, rfl, rfl⟩
  case round =>
    obtain ⟨k, hk, rfl, rfl⟩ := hrel
    by_cases hlt : k < s.size
    · have h8 : s[k].toNat < 256 := UInt8.toNat_lt _
      obtain ⟨h13, h10⟩ := Hlb.out k hlt
      go_wp2
      go_roundw
      case rel => exact ⟨k + 1, by omega, by go_num, trivial⟩
      case measure => simp [Lib.intOf]; omega
    · clear Hlb
      obtain ⟨W0, hW0⟩ : ∃ x, x = wr := ⟨wr, rfl⟩
      subst hW0
      go_wp2
      go_loopw [6, 7, 8, 9, 10, 11, 12] (fun v n b i _ _ _ wx => ∃ (k : Nat) (p : List UInt8) (m : Nat) (c : Bool), k ≤ s.size ∧ m ≤ 78 + k ∧ i = .int .i64 k ∧ n = .int .i64 m ∧ b = .bool c ∧ p.length ≤ 3 * k ∧ Hid (p ++ Pl.fld (s.data.toList.drop k) m c = Pl.fld s.data.toList u false) ∧ Own W0.heap.size v p wx ∧ Below W0.heap.size W0 wx) (fun _ _ _ i _ _ _ _ => s.size - (Lib.intOf i).toNat)
      case atStart => exact ⟨0, [], u, false, Nat.zero_le _, by omega, rfl, rfl, rfl, by simp, rfl, Own.made _ _ (Nat.le_refl _), (Below.refl _ _).alloc (Nat.le_refl _) _⟩
      case round =>
        clear hlt hk
        obtain ⟨k, p, m, c, hk, hm, rfl, rfl, rfl, hpl, hp, hown, hb⟩ := hrel
        by_cases hlt : k < s.size
        · have hzs : Hid (Pl.pzAt s.data.toList (k + 1) = k + Pl.pz (s.data.toList.drop k)) := Pl.pzAt_start s.data.toList k (by simpa using hlt)
          obtain ⟨W1, hW1⟩ : ∃ x, x = wr := ⟨wr, rfl⟩
          subst hW1
          go_wp2
          go_loopw [10] (fun x wx => ∃ j : Nat, k < j ∧ j ≤ s.size ∧ x = .int .i64 j ∧ Hid (Pl.pzAt s.data.toList j = k + Pl.pz (s.data.toList.drop k)) ∧ wx = W1) (fun x _ => s.size - (Lib.intOf x).toNat)
          case atStart => exact ⟨k + 1, by omega, by omega, by go_num, hzs, rfl⟩
          case round =>
            clear hzs
            obtain ⟨j, hkj, hj, rfl, hpz, rfl⟩ := hrel
            by_cases hlj : j < s.size
            · have h8 : s[j].toNat < 256 := UInt8.toNat_lt _
              have h9 : s[j - 1].toNat < 256 := UInt8.toNat_lt _
              have hc := fun w => specBlank s[j] w
              have hd := fun w => specBlank s[j - 1] w
              have hgo := Pl.pzAt_go s.data.toList j (by omega) (by simpa using hlj)
              have hst := Pl.pzAt_stop s.data.toList j (by omega) (by simpa using hlj)
              rw [Pl.at_list s j hlj, Pl.at_list s (j - 1) (by omega)] at hgo hst
              cases hb0 : Pl.blank s[j] <;> cases hb1 : Pl.blank s[j - 1] <;> simp only [hb0, hb1] at hc hd hgo hst
              · clear hst
                have Hgo : Hid (Pl.pzAt s.data.toList (j + 1) = Pl.pzAt s.data.toList j) := hgo rfl
                clear hgo hb0 hb1
                go_wp2_with (go_at_call 33; go_must (refine (hc _).mono ?_; rintro e w2 ⟨rfl, rfl⟩))
                go_roundw
                case rel => exact ⟨j + 1, by omega, by omega, by go_num, show _ = _ from Hgo.out.trans hpz.out, trivial⟩
                case measure => simp [Lib.intOf]; omega
              · clear hst
                have Hgo : Hid (Pl.pzAt s.data.toList (j + 1) = Pl.pzAt s.data.toList j) := hgo rfl
                clear hgo hb0 hb1
                go_wp2_with (go_at_call 33; go_must (refine (hc _).mono ?_; rintro e w2 ⟨rfl, rfl⟩))
                go_roundw
                case rel => exact ⟨j + 1, by omega, by omega, by go_num, show _ = _ from Hgo.out.trans hpz.out, trivial⟩
                case measure => simp [Lib.intOf]; omega
              · clear hgo
                have Hst : Hid (k + Pl.pz (s.data.toList.drop k) = j) := show _ = _ from hpz.out.symm.trans (hst rfl)
                clear hst hb0 hb1 hpz
                go_wp2_with fail
                refine (hc _).mono ?_
                rintro e w2 ⟨rfl, rfl⟩
                go_wp2_with fail
                refine (hd _).mono ?_
                rintro e w2 ⟨rfl, rfl⟩
                clear hc hd h8 h9
                go_wp2_with fail
                have hq1 : Hid ((s.extract k j).data.toList = (s.data.toList.drop k).take (j - k)) := Pl.ext_data s k j
                have hq2 : (s.extract k j).size = j - k := by simp; omega
                have Hz : Hid (Pl.pz (s.data.toList.drop k) = j - k) := show _ = _ from by have := Hst.out; omega
                have hdj : Hid ((s.data.toList.drop k).drop (j - k) = s.data.toList.drop j) := show _ = _ from by rw [List.drop_drop]; congr 1; omega
                have hne : Hid (s.data.toList.drop k ≠ []) := show _ ≠ _ from by intro e; have := congrArg List.length e; simp at this; omega
                clear Hst
                generalize s.extract k j = q at hq1 hq2 ⊢
                have hq0 : 0 < q.size := by omega
                have Hbl : Hid (Pl.blankAt (s.data.toList.drop k) 0 = Pl.blank q[0]) := Pl.blankAt_zero q _ (j - k) hq1.out hq0
                refine (specTrim q _ (by omega)).mono ?_
                rintro e w1 ⟨t, rfl, htr, rfl⟩
                have h8 : q[0].toNat < 256 := UInt8.toNat_lt _
                have hqb := fun w => specBlank q[0] w
                have Hall : Hid (q.data.toList.all Pl.blank = ((s.data.toList.drop k).take (j - k)).all Pl.blank) := show _ = _ from by rw [hq1.out]
                have hE : t.toList.isEmpty = q.data.toList.all Pl.blank := by
                  rw [ByteArray.toList_eq]
                  have := htr.out
                  cases ha : q.data.toList.all Pl.blank
                  · rw [ha] at this
                    rw [List.isEmpty_eq_false_iff]
                    intro e
                    have h0 := this.1 (by rw [← Pl.len_list, e]; rfl)
                    cases h0
                  · rw [ha] at this
                    have h0 := this.2 rfl
                    rw [List.isEmpty_iff]
                    exact List.length_eq_zero_iff.1 (by rw [Pl.len_list]; exact h0)
                clear htr
                cases hS : q.data.toList.all Pl.blank <;> cases hB : Pl.blank q[0] <;> cases c <;> (by_cases hA : 78 < m + (j - k))
                all_goals
                  rw [hS] at hE
                  simp only [hB] at hqb
                  have HS : Hid (((s.data.toList.drop k).take (j - k)).all Pl.blank = _) := Hall.out.symm.trans hS
                  have HB : Hid (Pl.blankAt (s.data.toList.drop k) 0 = _) := Hbl.out.trans hB
                  clear hS hB Hbl Hall
                · go_wp2_with (first | (go_at_call 33; go_must (refine (hqb _).mono ?_; rintro e w2 ⟨rfl, rfl⟩)) | (at_builtin; go_must (refine wp_apps (W := W0) rfl _ _ 22 9 rfl i0 Try.underlying22 Try.underlying9 hi hy0 hy1 hy2 W0.heap.size u6 p rfl hown q rfl (by omega) (Nat.le_refl _) hb ?_; intro v' w' hown' hb')))
                  go_roundw
                  case rel =>
                    exact ⟨j, _, m + (j - k), _, by omega, by omega, rfl, by go_num, rfl, by rw [List.length_append, Pl.len_list]; omega, show _ ++ Pl.fld (s.data.toList.drop j) _ _ = _ from by rw [hq1.out, ← hdj.out]; exact Pl.fld_step_plain _ p _ m (j - k) _ _ _ _ _ hne.out Hz.out (decide_eq_true hA) HB.out HS.out hp.out rfl rfl, hown', hb'⟩
                  case measure => simp [Lib.intOf]; omega
                · go_wp2_with (first | (go_at_call 33; go_must (refine (hqb _).mono ?_; rintro e w2 ⟨rfl, rfl⟩)) | (at_builtin; go_must (refine wp_apps (W := W0) rfl _ _ 22 9 rfl i0 Try.underlying22 Try.underlying9 hi hy0 hy1 hy2 W0.heap.size u6 p rfl hown q rfl (by omega) (Nat.le_refl _) hb ?_; intro v' w' hown' hb')))
                  go_roundw
                  case rel =>
                    exact ⟨j, _, m + (j - k), _, by omega, by omega, rfl, by go_num, rfl, by rw [List.length_append, Pl.len_list]; omega, show _ ++ Pl.fld (s.data.toList.drop j) _ _ = _ from by rw [hq1.out, ← hdj.out]; exact Pl.fld_step_plain _ p _ m (j - k) _ _ _ _ _ hne.out Hz.out (decide_eq_false hA) HB.out HS.out hp.out rfl rfl, hown', hb'⟩
                  case measure => simp [Lib.intOf]; omega
                · go_wp2_with (first | (go_at_call 33; go_must (refine (hqb _).mono ?_; rintro e w2 ⟨rfl, rfl⟩)) | (at_builtin; go_must (refine wp_apps (W := W0) rfl _ _ 22 9 rfl i0 Try.underlying22 Try.underlying9 hi hy0 hy1 hy2 W0.heap.size u6 p rfl hown q rfl (by omega) (Nat.le_refl _) hb ?_; intro v' w' hown' hb')))
                  go_roundw
                  case rel =>
                    exact ⟨j, _, m + (j - k), _, by omega, by omega, rfl, by go_num, rfl, by rw [List.length_append, Pl.len_list]; omega, show _ ++ Pl.fld (s.data.toList.drop j) _ _ = _ from by rw [hq1.out, ← hdj.out]; exact Pl.fld_step_plain _ p _ m (j - k) _ _ _ _ _ hne.out Hz.out (decide_eq_true hA) HB.out HS.out hp.out rfl rfl, hown', hb'⟩
                  case measure => simp [Lib.intOf]; omega
                · go_wp2_with (first | (go_at_call 33; go_must (refine (hqb _).mono ?_; rintro e w2 ⟨rfl, rfl⟩)) | (at_builtin; go_must (refine wp_apps (W := W0) rfl _ _ 22 9 rfl i0 Try.underlying22 Try.underlying9 hi hy0 hy1 hy2 W0.heap.size u6 p rfl hown q rfl (by omega) (Nat.le_refl _) hb ?_; intro v' w' hown' hb')))
                  go_roundw
                  case rel =>
                    exact ⟨j, _, m + (j - k), _, by omega, by omega, rfl, by go_num, rfl, by rw [List.length_append, Pl.len_list]; omega, show _ ++ Pl.fld (s.data.toList.drop j) _ _ = _ from by rw [hq1.out, ← hdj.out]; exact Pl.fld_step_plain _ p _ m (j - k) _ _ _ _ _ hne.out Hz.out (decide_eq_false hA) HB.out HS.out hp.out rfl rfl, hown', hb'⟩
                  case measure => simp [Lib.intOf]; omega
                · go_wp2_with (first | (go_at_call 33; go_must (refine (hqb _).mono ?_; rintro e w2 ⟨rfl, rfl⟩)) | (at_builtin; go_must (refine wp_apps (W := W0) rfl _ _ 22 9 rfl i0 Try.underlying22 Try.underlying9 hi hy0 hy1 hy2 W0.heap.size u6 p rfl hown q rfl (by omega) (Nat.le_refl _) hb ?_; intro v' w' hown' hb')))
                  go_roundw
                  case rel =>
                    exact ⟨j, _, m + (j - k), _, by omega, by omega, rfl, by go_num, rfl, by rw [List.length_append, Pl.len_list]; omega, show _ ++ Pl.fld (s.data.toList.drop j) _ _ = _ from by rw [hq1.out, ← hdj.out]; exact Pl.fld_step_plain _ p _ m (j - k) _ _ _ _ _ hne.out Hz.out (decide_eq_true hA) HB.out HS.out hp.out rfl rfl, hown', hb'⟩
                  case measure => simp [Lib.intOf]; omega
                · go_wp2_with (first | (go_at_call 33; go_must (refine (hqb _).mono ?_; rintro e w2 ⟨rfl, rfl⟩)) | (at_builtin; go_must (refine wp_apps (W := W0) rfl _ _ 22 9 rfl i0 Try.underlying22 Try.underlying9 hi hy0 hy1 hy2 W0.heap.size u6 p rfl hown q rfl (by omega) (Nat.le_refl _) hb ?_; intro v' w' hown' hb')))
                  go_roundw
                  case rel =>
                    exact ⟨j, _, m + (j - k), _, by omega, by omega, rfl, by go_num, rfl, by rw [List.length_append, Pl.len_list]; omega, show _ ++ Pl.fld (s.data.toList.drop j) _ _ = _ from by rw [hq1.out, ← hdj.out]; exact Pl.fld_step_plain _ p _ m (j - k) _ _ _ _ _ hne.out Hz.out (decide_eq_false hA) HB.out HS.out hp.out rfl rfl, hown', hb'⟩
                  case measure => simp [Lib.intOf]; omega
                · go_wp2_with (first | (go_at_call 33; go_must (refine (hqb _).mono ?_; rintro e w2 ⟨rfl, rfl⟩)) | (at_builtin; go_must (first | (refine wp_apps (W := W0) rfl _ _ 22 9 rfl i0 Try.underlying22 Try.underlying9 hi hy0 hy1 hy2 W0.heap.size v' (p ++ [13, 10]) rfl hown' q rfl (by simp; omega) (Nat.le_refl _) hb' ?_; intro v2 w2 hown2 hb2) | (refine wp_app (W := W0) rfl _ _ 22 rfl i0 Try.underlying22 hi hy0 hy1 hy2 W0.heap.size u6 p rfl hown _ [13, 10] rfl 2 2 rfl rfl (by simp; omega) (Nat.le_refl _) hb ?_; intro v' w' hown' hb'))))
                  go_roundw
                  case rel =>
                    exact ⟨j, _, j - k, _, by omega, by omega, rfl, by go_num, rfl, by simp; omega, show _ ++ Pl.fld (s.data.toList.drop j) _ _ = _ from by rw [hq1.out, ← hdj.out]; exact Pl.fld_step_fold _ p _ m (j - k) _ _ _ _ hne.out Hz.out (decide_eq_true hA) HB.out HS.out hp.out rfl, hown2, hb2⟩
                  case measure => simp [Lib.intOf]; omega
                · go_wp2_with (first | (go_at_call 33; go_must (refine (hqb _).mono ?_; rintro e w2 ⟨rfl, rfl⟩)) | (at_builtin; go_must (refine wp_apps (W := W0) rfl _ _ 22 9 rfl i0 Try.underlying22 Try.underlying9 hi hy0 hy1 hy2 W0.heap.size u6 p rfl hown q rfl (by omega) (Nat.le_refl _) hb ?_; intro v' w' hown' hb')))
                  go_roundw
                  case rel =>
                    exact ⟨j, _, m + (j - k), _, by omega, by omega, rfl, by go_num, rfl, by rw [List.length_append, Pl.len_list]; omega, show _ ++ Pl.fld (s.data.toList.drop j) _ _ = _ from by rw [hq1.out, ← hdj.out]; exact Pl.fld_step_plain _ p _ m (j - k) _ _ _ _ _ hne.out Hz.out (decide_eq_false hA) HB.out HS.out hp.out rfl rfl, hown', hb'⟩
                  case measure => simp [Lib.intOf]; omega
                · go_wp2_with (first | (go_at_call 33; go_must (refine (hqb _).mono ?_; rintro e w2 ⟨rfl, rfl⟩)) | (at_builtin; go_must (refine wp_apps (W := W0) rfl _ _ 22 9 rfl i0 Try.underlying22 Try.underlying9 hi hy0 hy1 hy2 W0.heap.size u6 p rfl hown q rfl (by omega) (Nat.le_refl _) hb ?_; intro v' w' hown' hb')))
                  go_roundw
                  case rel =>
                    exact ⟨j, _, m + (j - k), _, by omega, by omega, rfl, by go_num, rfl, by rw [List.length_append, Pl.len_list]; omega, show _ ++ Pl.fld (s.data.toList.drop j) _ _ = _ from by rw [hq1.out, ← hdj.out]; exact Pl.fld_step_plain _ p _ m (j - k) _ _ _ _ _ hne.out Hz.out (decide_eq_true hA) HB.out HS.out hp.out rfl rfl, hown', hb'⟩
                  case measure => simp [Lib.intOf]; omega
                · go_wp2_with (first | (go_at_call 33; go_must (refine (hqb _).mono ?_; rintro e w2 ⟨rfl, rfl⟩)) | (at_builtin; go_must (refine wp_apps (W := W0) rfl _ _ 22 9 rfl i0 Try.underlying22 Try.underlying9 hi hy0 hy1 hy2 W0.heap.size u6 p rfl hown q rfl (by omega) (Nat.le_refl _) hb ?_; intro v' w' hown' hb')))
                  go_roundw
                  case rel =>
                    exact ⟨j, _, m + (j - k), _, by omega, by omega, rfl, by go_num, rfl, by rw [List.length_append, Pl.len_list]; omega, show _ ++ Pl.fld (s.data.toList.drop j) _ _ = _ from by rw [hq1.out, ← hdj.out]; exact Pl.fld_step_plain _ p _ m (j - k) _ _ _ _ _ hne.out Hz.out (decide_eq_false hA) HB.out HS.out hp.out rfl rfl, hown', hb'⟩
                  case measure => simp [Lib.intOf]; omega
                · go_wp2_with (first | (go_at_call 33; go_must (refine (hqb _).mono ?_; rintro e w2 ⟨rfl, rfl⟩)) | (at_builtin; go_must (refine wp_apps (W := W0) rfl _ _ 22 9 rfl i0 Try.underlying22 Try.underlying9 hi hy0 hy1 hy2 W0.heap.size u6 p rfl hown q rfl (by omega) (Nat.le_refl _) hb ?_; intro v' w' hown' hb')))
                  go_roundw
                  case rel =>
                    exact ⟨j, _, m + (j - k), _, by omega, by omega, rfl, by go_num, rfl, by rw [List.length_append, Pl.len_list]; omega, show _ ++ Pl.fld (s.data.toList.drop j) _ _ = _ from by rw [hq1.out, ← hdj.out]; exact Pl.fld_step_plain _ p _ m (j - k) _ _ _ _ _ hne.out Hz.out (decide_eq_true hA) HB.out HS.out hp.out rfl rfl, hown', hb'⟩
                  case measure => simp [Lib.intOf]; omega
                · go_wp2_with (first | (go_at_call 33; go_must (refine (hqb _).mono ?_; rintro e w2 ⟨rfl, rfl⟩)) | (at_builtin; go_must (refine wp_apps (W := W0) rfl _ _ 22 9 rfl i0 Try.underlying22 Try.underlying9 hi hy0 hy1 hy2 W0.heap.size u6 p rfl hown q rfl (by omega) (Nat.le_refl _) hb ?_; intro v' w' hown' hb')))
                  go_roundw
                  case rel =>
                    exact ⟨j, _, m + (j - k), _, by omega, by omega, rfl, by go_num, rfl, by rw [List.length_append, Pl.len_list]; omega, show _ ++ Pl.fld (s.data.toList.drop j) _ _ = _ from by rw [hq1.out, ← hdj.out]; exact Pl.fld_step_plain _ p _ m (j - k) _ _ _ _ _ hne.out Hz.out (decide_eq_false hA) HB.out HS.out hp.out rfl rfl, hown', hb'⟩
                  case measure => simp [Lib.intOf]; omega
                · go_wp2_with (first | (go_at_call 33; go_must (refine (hqb _).mono ?_; rintro e w2 ⟨rfl, rfl⟩)) | (at_builtin; go_must (refine wp_apps (W := W0) rfl _ _ 22 9 rfl i0 Try.underlying22 Try.underlying9 hi hy0 hy1 hy2 W0.heap.size u6 p rfl hown q rfl (by omega) (Nat.le_refl _) hb ?_; intro v' w' hown' hb')))
                  go_roundw
                  case rel =>
                    exact ⟨j, _, m + (j - k), _, by omega, by omega, rfl, by go_num, rfl, by rw [List.length_append, Pl.len_list]; omega, show _ ++ Pl.fld (s.data.toList.drop j) _ _ = _ from by rw [hq1.out, ← hdj.out]; exact Pl.fld_step_plain _ p _ m (j - k) _ _ _ _ _ hne.out Hz.out (decide_eq_true hA) HB.out HS.out hp.out rfl rfl, hown', hb'⟩
                  case measure => simp [Lib.intOf]; omega
                · go_wp2_with (first | (go_at_call 33; go_must (refine (hqb _).mono ?_; rintro e w2 ⟨rfl, rfl⟩)) | (at_builtin; go_must (refine wp_apps (W := W0) rfl _ _ 22 9 rfl i0 Try.underlying22 Try.underlying9 hi hy0 hy1 hy2 W0.heap.size u6 p rfl hown q rfl (by omega) (Nat.le_refl _) hb ?_; intro v' w' hown' hb')))
                  go_roundw
                  case rel =>
                    exact ⟨j, _, m + (j - k), _, by omega, by omega, rfl, by go_num, rfl, by rw [List.length_append, Pl.len_list]; omega, show _ ++ Pl.fld (s.data.toList.drop j) _ _ = _ from by rw [hq1.out, ← hdj.out]; exact Pl.fld_step_plain _ p _ m (j - k) _ _ _ _ _ hne.out Hz.out (decide_eq_false hA) HB.out HS.out hp.out rfl rfl, hown', hb'⟩
                  case measure => simp [Lib.intOf]; omega
                · go_wp2_with (first | (go_at_call 33; go_must (refine (hqb _).mono ?_; rintro e w2 ⟨rfl, rfl⟩)) | (at_builtin; go_must (refine wp_apps (W := W0) rfl _ _ 22 9 rfl i0 Try.underlying22 Try.underlying9 hi hy0 hy1 hy2 W0.heap.size u6 p rfl hown q rfl (by omega) (Nat.le_refl _) hb ?_; intro v' w' hown' hb')))
                  go_roundw
                  case rel =>
                    exact ⟨j, _, m + (j - k), _, by omega, by omega, rfl, by go_num, rfl, by rw [List.length_append, Pl.len_list]; omega, show _ ++ Pl.fld (s.data.toList.drop j) _ _ = _ from by rw [hq1.out, ← hdj.out]; exact Pl.fld_step_plain _ p _ m (j - k) _ _ _ _ _ hne.out Hz.out (decide_eq_true hA) HB.out HS.out hp.out rfl rfl, hown', hb'⟩
                  case measure => simp [Lib.intOf]; omega
                · go_wp2_with (first | (go_at_call 33; go_must (refine (hqb _).mono ?_; rintro e w2 ⟨rfl, rfl⟩)) | (at_builtin; go_must (refine wp_apps (W := W0) rfl _ _ 22 9 rfl i0 Try.underlying22 Try.underlying9 hi hy0 hy1 hy2 W0.heap.size u6 p rfl hown q rfl (by omega) (Nat.le_refl _) hb ?_; intro v' w' hown' hb')))
                  go_roundw
                  case rel =>
                    exact ⟨j, _, m + (j - k), _, by omega, by omega, rfl, by go_num, rfl, by rw [List.length_append, Pl.len_list]; omega, show _ ++ Pl.fld (s.data.toList.drop j) _ _ = _ from by rw [hq1.out, ← hdj.out]; exact Pl.fld_step_plain _ p _ m (j - k) _ _ _ _ _ hne.out Hz.out (decide_eq_false hA) HB.out HS.out hp.out rfl rfl, hown', hb'⟩
                  case measure => simp [Lib.intOf]; omega
              · clear hst
                have Hgo : Hid (Pl.pzAt s.data.toList (j + 1) = Pl.pzAt s.data.toList j) := hgo rfl
                clear hgo hb0 hb1
                go_wp2_with fail
                refine (hc _).mono ?_
                rintro e w2 ⟨rfl, rfl⟩
                go_wp2_with fail
                refine (hd _).mono ?_
                rintro e w2 ⟨rfl, rfl⟩
                go_wp2
                go_roundw
                case rel => exact ⟨j + 1, by omega, by omega, by go_num, show _ = _ from Hgo.out.trans hpz.out, trivial⟩
                case measure => simp [Lib.intOf]; omega
            · have Hst : Hid (k + Pl.pz (s.data.toList.drop k) = j) := show _ = _ from hpz.out.symm.trans (Pl.pzAt_end _ j (by simp; omega))
              clear hpz
              go_wp2_with fail
              have hq1 : Hid ((s.extract k j).data.toList = (s.data.toList.drop k).take (j - k)) := Pl.ext_data s k j
              have hq2 : (s.extract k j).size = j - k := by simp; omega
              have Hz : Hid (Pl.pz (s.data.toList.drop k) = j - k) := show _ = _ from by have := Hst.out; omega
              have hdj : Hid ((s.data.toList.drop k).drop (j - k) = s.data.toList.drop j) := show _ = _ from by rw [List.drop_drop]; congr 1; omega
              have hne : Hid (s.data.toList.drop k ≠ []) := show _ ≠ _ from by intro e; have := congrArg List.length e; simp at this; omega
              clear Hst
              generalize s.extract k j = q at hq1 hq2 ⊢
              have hq0 : 0 < q.size := by omega
              have Hbl : Hid (Pl.blankAt (s.data.toList.drop k) 0 = Pl.blank q[0]) := Pl.blankAt_zero q _ (j - k) hq1.out hq0
              refine (specTrim q _ (by omega)).mono ?_
              rintro e w1 ⟨t, rfl, htr, rfl⟩
              have h8 : q[0].toNat < 256 := UInt8.toNat_lt _
              have hqb := fun w => specBlank q[0] w
              have Hall : Hid (q.data.toList.all Pl.blank = ((s.data.toList.drop k).take (j - k)).all Pl.blank) := show _ = _ from by rw [hq1.out]
              have hE : t.toList.isEmpty = q.data.toList.all Pl.blank := by
                rw [ByteArray.toList_eq]
                have := htr.out
                cases ha : q.data.toList.all Pl.blank
                · rw [ha] at this
                  rw [List.isEmpty_eq_false_iff]
                  intro e
                  have h0 := this.1 (by rw [← Pl.len_list, e]; rfl)
                  cases h0
                · rw [ha] at this
                  have h0 := this.2 rfl
                  rw [List.isEmpty_iff]
                  exact List.length_eq_zero_iff.1 (by rw [Pl.len_list]; exact h0)
              clear htr
              cases hS : q.data.toList.all Pl.blank <;> cases hB : Pl.blank q[0] <;> cases c <;> (by_cases hA : 78 < m + (j - k))
              all_goals
                rw [hS] at hE
                simp only [hB] at hqb
                have HS : Hid (((s.data.toList.drop k).take (j - k)).all Pl.blank = _) := Hall.out.symm.trans hS
                have HB : Hid (Pl.blankAt (s.data.toList.drop k) 0 = _) := Hbl.out.trans hB
                clear hS hB Hbl Hall
              · go_wp2_with (first | (go_at_call 33; go_must (refine (hqb _).mono ?_; rintro e w2 ⟨rfl, rfl⟩)) | (at_builtin; go_must (refine wp_apps (W := W0) rfl _ _ 22 9 rfl i0 Try.underlying22 Try.underlying9 hi hy0 hy1 hy2 W0.heap.size u6 p rfl hown q rfl (by omega) (Nat.le_refl _) hb ?_; intro v' w' hown' hb')))
                go_roundw
                case rel =>
                  exact ⟨j, _, m + (j - k), _, by omega, by omega, rfl, by go_num, rfl, by rw [List.length_append, Pl.len_list]; omega, show _ ++ Pl.fld (s.data.toList.drop j) _ _ = _ from by rw [hq1.out, ← hdj.out]; exact Pl.fld_step_plain _ p _ m (j - k) _ _ _ _ _ hne.out Hz.out (decide_eq_true hA) HB.out HS.out hp.out rfl rfl, hown', hb'⟩
                case measure => simp [Lib.intOf]; omega
              · go_wp2_with (first | (go_at_call 33; go_must (refine (hqb _).mono ?_; rintro e w2 ⟨rfl, rfl⟩)) | (at_builtin; go_must (refine wp_apps (W := W0) rfl _ _ 22 9 rfl i0 Try.underlying22 Try.underlying9 hi hy0 hy1 hy2 W0.heap.size u6 p rfl hown q rfl (by omega) (Nat.le_refl _) hb ?_; intro v' w' hown' hb')))
                go_roundw
                case rel =>
                  exact ⟨j, _, m + (j - k), _, by omega, by omega, rfl, by go_num, rfl, by rw [List.length_append, Pl.len_list]; omega, show _ ++ Pl.fld (s.data.toList.drop j) _ _ = _ from by rw [hq1.out, ← hdj.out]; exact Pl.fld_step_plain _ p _ m (j - k) _ _ _ _ _ hne.out Hz.out (decide_eq_false hA) HB.out HS.out hp.out rfl rfl, hown', hb'⟩
                case measure => simp [Lib.intOf]; omega
              · go_wp2_with (first | (go_at_call 33; go_must (refine (hqb _).mono ?_; rintro e w2 ⟨rfl, rfl⟩)) | (at_builtin; go_must (refine wp_apps (W := W0) rfl _ _ 22 9 rfl i0 Try.underlying22 Try.underlying9 hi hy0 hy1 hy2 W0.heap.size u6 p rfl hown q rfl (by omega) (Nat.le_refl _) hb ?_; intro v' w' hown' hb')))
                go_roundw
                case rel =>
                  exact ⟨j, _, m + (j - k), _, by omega, by omega, rfl, by go_num, rfl, by rw [List.length_append, Pl.len_list]; omega, show _ ++ Pl.fld (s.data.toList.drop j) _ _ = _ from by rw [hq1.out, ← hdj.out]; exact Pl.fld_step_plain _ p _ m (j - k) _ _ _ _ _ hne.out Hz.out (decide_eq_true hA) HB.out HS.out hp.out rfl rfl, hown', hb'⟩
                case measure => simp [Lib.intOf]; omega
              · go_wp2_with (first | (go_at_call 33; go_must (refine (hqb _).mono ?_; rintro e w2 ⟨rfl, rfl⟩)) | (at_builtin; go_must (refine wp_apps (W := W0) rfl _ _ 22 9 rfl i0 Try.underlying22 Try.underlying9 hi hy0 hy1 hy2 W0.heap.size u6 p rfl hown q rfl (by omega) (Nat.le_refl _) hb ?_; intro v' w' hown' hb')))
                go_roundw
                case rel =>
                  exact ⟨j, _, m + (j - k), _, by omega, by omega, rfl, by go_num, rfl, by rw [List.length_append, Pl.len_list]; omega, show _ ++ Pl.fld (s.data.toList.drop j) _ _ = _ from by rw [hq1.out, ← hdj.out]; exact Pl.fld_step_plain _ p _ m (j - k) _ _ _ _ _ hne.out Hz.out (decide_eq_false hA) HB.out HS.out hp.out rfl rfl, hown', hb'⟩
                case measure => simp [Lib.intOf]; omega
              · go_wp2_with (first | (go_at_call 33; go_must (refine (hqb _).mono ?_; rintro e w2 ⟨rfl, rfl⟩)) | (at_builtin; go_must (refine wp_apps (W := W0) rfl _ _ 22 9 rfl i0 Try.underlying22 Try.underlying9 hi hy0 hy1 hy2 W0.heap.size u6 p rfl hown q rfl (by omega) (Nat.le_refl _) hb ?_; intro v' w' hown' hb')))
                go_roundw
                case rel =>
                  exact ⟨j, _, m + (j - k), _, by omega, by omega, rfl, by go_num, rfl, by rw [List.length_append, Pl.len_list]; omega, show _ ++ Pl.fld (s.data.toList.drop j) _ _ = _ from by rw [hq1.out, ← hdj.out]; exact Pl.fld_step_plain _ p _ m (j - k) _ _ _ _ _ hne.out Hz.out (decide_eq_true hA) HB.out HS.out hp.out rfl rfl, hown', hb'⟩
                case measure => simp [Lib.intOf]; omega
              · go_wp2_with (first | (go_at_call 33; go_must (refine (hqb _).mono ?_; rintro e w2 ⟨rfl, rfl⟩)) | (at_builtin; go_must (refine wp_apps (W := W0) rfl _ _ 22 9 rfl i0 Try.underlying22 Try.underlying9 hi hy0 hy1 hy2 W0.heap.size u6 p rfl hown q rfl (by omega) (Nat.le_refl _) hb ?_; intro v' w' hown' hb')))
                go_roundw
                case rel =>
                  exact ⟨j, _, m + (j - k), _, by omega, by omega, rfl, by go_num, rfl, by rw [List.length_append, Pl.len_list]; omega, show _ ++ Pl.fld (s.data.toList.drop j) _ _ = _ from by rw [hq1.out, ← hdj.out]; exact Pl.fld_step_plain _ p _ m (j - k) _ _ _ _ _ hne.out Hz.out (decide_eq_false hA) HB.out HS.out hp.out rfl rfl, hown', hb'⟩
                case measure => simp [Lib.intOf]; omega
              · go_wp2_with (first | (go_at_call 33; go_must (refine (hqb _).mono ?_; rintro e w2 ⟨rfl, rfl⟩)) | (at_builtin; go_must (first | (refine wp_apps (W := W0) rfl _ _ 22 9 rfl i0 Try.underlying22 Try.underlying9 hi hy0 hy1 hy2 W0.heap.size v' (p ++ [13, 10]) rfl hown' q rfl (by simp; omega) (Nat.le_refl _) hb' ?_; intro v2 w2 hown2 hb2) | (refine wp_app (W := W0) rfl _ _ 22 rfl i0 Try.underlying22 hi hy0 hy1 hy2 W0.heap.size u6 p rfl hown _ [13, 10] rfl 2 2 rfl rfl (by simp; omega) (Nat.le_refl _) hb ?_; intro v' w' hown' hb'))))
                go_roundw
                case rel =>
                  exact ⟨j, _, j - k, _, by omega, by omega, rfl, by go_num, rfl, by simp; omega, show _ ++ Pl.fld (s.data.toList.drop j) _ _ = _ from by rw [hq1.out, ← hdj.out]; exact Pl.fld_step_fold _ p _ m (j - k) _ _ _ _ hne.out Hz.out (decide_eq_true hA) HB.out HS.out hp.out rfl, hown2, hb2⟩
                case measure => simp [Lib.intOf]; omega
              · go_wp2_with (first | (go_at_call 33; go_must (refine (hqb _).mono ?_; rintro e w2 ⟨rfl, rfl⟩)) | (at_builtin; go_must (refine wp_apps (W := W0) rfl _ _ 22 9 rfl i0 Try.underlying22 Try.underlying9 hi hy0 hy1 hy2 W0.heap.size u6 p rfl hown q rfl (by omega) (Nat.le_refl _) hb ?_; intro v' w' hown' hb')))
                go_roundw
                case rel =>
                  exact ⟨j, _, m + (j - k), _, by omega, by omega, rfl, by go_num, rfl, by rw [List.length_append, Pl.len_list]; omega, show _ ++ Pl.fld (s.data.toList.drop j) _ _ = _ from by rw [hq1.out, ← hdj.out]; exact Pl.fld_step_plain _ p _ m (j - k) _ _ _ _ _ hne.out Hz.out (decide_eq_false hA) HB.out HS.out hp.out rfl rfl, hown', hb'⟩
                case measure => simp [Lib.intOf]; omega
              · go_wp2_with (first | (go_at_call 33; go_must (refine (hqb _).mono ?_; rintro e w2 ⟨rfl, rfl⟩)) | (at_builtin; go_must (refine wp_apps (W := W0) rfl _ _ 22 9 rfl i0 Try.underlying22 Try.underlying9 hi hy0 hy1 hy2 W0.heap.size u6 p rfl hown q rfl (by omega) (Nat.le_refl _) hb ?_; intro v' w' hown' hb')))
                go_roundw
                case rel =>
                  exact ⟨j, _, m + (j - k), _, by omega, by omega, rfl, by go_num, rfl, by rw [List.length_append, Pl.len_list]; omega, show _ ++ Pl.fld (s.data.toList.drop j) _ _ = _ from by rw [hq1.out, ← hdj.out]; exact Pl.fld_step_plain _ p _ m (j - k) _ _ _ _ _ hne.out Hz.out (decide_eq_true hA) HB.out HS.out hp.out rfl rfl, hown', hb'⟩
                case measure => simp [Lib.intOf]; omega
              · go_wp2_with (first | (go_at_call 33; go_must (refine (hqb _).mono ?_; rintro e w2 ⟨rfl, rfl⟩)) | (at_builtin; go_must (refine wp_apps (W := W0) rfl _ _ 22 9 rfl i0 Try.underlying22 Try.underlying9 hi hy0 hy1 hy2 W0.heap.size u6 p rfl hown q rfl (by omega) (Nat.le_refl _) hb ?_; intro v' w' hown' hb')))
                go_roundw
                case rel =>
                  exact ⟨j, _, m + (j - k), _, by omega, by omega, rfl, by go_num, rfl, by rw [List.length_append, Pl.len_list]; omega, show _ ++ Pl.fld (s.data.toList.drop j) _ _ = _ from by rw [hq1.out, ← hdj.out]; exact Pl.fld_step_plain _ p _ m (j - k) _ _ _ _ _ hne.out Hz.out (decide_eq_false hA) HB.out HS.out hp.out rfl rfl, hown', hb'⟩
                case measure => simp [Lib.intOf]; omega
              · go_wp2_with (first | (go_at_call 33; go_must (refine (hqb _).mono ?_; rintro e w2 ⟨rfl, rfl⟩)) | (at_builtin; go_must (refine wp_apps (W := W0) rfl _ _ 22 9 rfl i0 Try.underlying22 Try.underlying9 hi hy0 hy1 hy2 W0.heap.size u6 p rfl hown q rfl (by omega) (Nat.le_refl _) hb ?_; intro v' w' hown' hb')))
                go_roundw
                case rel =>
                  exact ⟨j, _, m + (j - k), _, by omega, by omega, rfl, by go_num, rfl, by rw [List.length_append, Pl.len_list]; omega, show _ ++ Pl.fld (s.data.toList.drop j) _ _ = _ from by rw [hq1.out, ← hdj.out]; exact Pl.fld_step_plain _ p _ m (j - k) _ _ _ _ _ hne.out Hz.out (decide_eq_true hA) HB.out HS.out hp.out rfl rfl, hown', hb'⟩
                case measure => simp [Lib.intOf]; omega
              · go_wp2_with (first | (go_at_call 33; go_must (refine (hqb _).mono ?_; rintro e w2 ⟨rfl, rfl⟩)) | (at_builtin; go_must (refine wp_apps (W := W0) rfl _ _ 22 9 rfl i0 Try.underlying22 Try.underlying9 hi hy0 hy1 hy2 W0.heap.size u6 p rfl hown q rfl (by omega) (Nat.le_refl _) hb ?_; intro v' w' hown' hb')))
                go_roundw
                case rel =>
                  exact ⟨j, _, m + (j - k), _, by omega, by omega, rfl, by go_num, rfl, by rw [List.length_append, Pl.len_list]; omega, show _ ++ Pl.fld (s.data.toList.drop j) _ _ = _ from by rw [hq1.out, ← hdj.out]; exact Pl.fld_step_plain _ p _ m (j - k) _ _ _ _ _ hne.out Hz.out (decide_eq_false hA) HB.out HS.out hp.out rfl rfl, hown', hb'⟩
                case measure => simp [Lib.intOf]; omega
              · go_wp2_with (first | (go_at_call 33; go_must (refine (hqb _).mono ?_; rintro e w2 ⟨rfl, rfl⟩)) | (at_builtin; go_must (refine wp_apps (W := W0) rfl _ _ 22 9 rfl i0 Try.underlying22 Try.underlying9 hi hy0 hy1 hy2 W0.heap.size u6 p rfl hown q rfl (by omega) (Nat.le_refl _) hb ?_; intro v' w' hown' hb')))
                go_roundw
                case rel =>
                  exact ⟨j, _, m + (j - k), _, by omega, by omega, rfl, by go_num, rfl, by rw [List.length_append, Pl.len_list]; omega, show _ ++ Pl.fld (s.data.toList.drop j) _ _ = _ from by rw [hq1.out, ← hdj.out]; exact Pl.fld_step_plain _ p _ m (j - k) _ _ _ _ _ hne.out Hz.out (decide_eq_true hA) HB.out HS.out hp.out rfl rfl, hown', hb'⟩
                case measure => simp [Lib.intOf]; omega
              · go_wp2_with (first | (go_at_call 33; go_must (refine (hqb _).mono ?_; rintro e w2 ⟨rfl, rfl⟩)) | (at_builtin; go_must (refine wp_apps (W := W0) rfl _ _ 22 9 rfl i0 Try.underlying22 Try.underlying9 hi hy0 hy1 hy2 W0.heap.size u6 p rfl hown q rfl (by omega) (Nat.le_refl _) hb ?_; intro v' w' hown' hb')))
                go_roundw
                case rel =>
                  exact ⟨j, _, m + (j - k), _, by omega, by omega, rfl, by go_num, rfl, by rw [List.length_append, Pl.len_list]; omega, show _ ++ Pl.fld (s.data.toList.drop j) _ _ = _ from by rw [hq1.out, ← hdj.out]; exact Pl.fld_step_plain _ p _ m (j - k) _ _ _ _ _ hne.out Hz.out (decide_eq_false hA) HB.out HS.out hp.out rfl rfl, hown', hb'⟩
                case measure => simp [Lib.intOf]; omega
              · go_wp2_with (first | (go_at_call 33; go_must (refine (hqb _).mono ?_; rintro e w2 ⟨rfl, rfl⟩)) | (at_builtin; go_must (refine wp_apps (W := W0) rfl _ _ 22 9 rfl i0 Try.underlying22 Try.underlying9 hi hy0 hy1 hy2 W0.heap.size u6 p rfl hown q rfl (by omega) (Nat.le_refl _) hb ?_; intro v' w' hown' hb')))
                go_roundw
                case rel =>
                  exact ⟨j, _, m + (j - k), _, by omega, by omega, rfl, by go_num, rfl, by rw [List.length_append, Pl.len_list]; omega, show _ ++ Pl.fld (s.data.toList.drop j) _ _ = _ from by rw [hq1.out, ← hdj.out]; exact Pl.fld_step_plain _ p _ m (j - k) _ _ _ _ _ hne.out Hz.out (decide_eq_true hA) HB.out HS.out hp.out rfl rfl, hown', hb'⟩
                case measure => simp [Lib.intOf]; omega
              · go_wp2_with (first | (go_at_call 33; go_must (refine (hqb _).mono ?_; rintro e w2 ⟨rfl, rfl⟩)) | (at_builtin; go_must (refine wp_apps (W := W0) rfl _ _ 22 9 rfl i0 Try.underlying22 Try.underlying9 hi hy0 hy1 hy2 W0.heap.size u6 p rfl hown q rfl (by omega) (Nat.le_refl _) hb ?_; intro v' w' hown' hb')))
                go_roundw
                case rel =>
                  exact ⟨j, _, m + (j - k), _, by omega, by omega, rfl, by go_num, rfl, by rw [List.length_append, Pl.len_list]; omega, show _ ++ Pl.fld (s.data.toList.drop j) _ _ = _ from by rw [hq1.out, ← hdj.out]; exact Pl.fld_step_plain _ p _ m (j - k) _ _ _ _ _ hne.out Hz.out (decide_eq_false hA) HB.out HS.out hp.out rfl rfl, hown', hb'⟩
                case measure => simp [Lib.intOf]; omega
        · have hpn : Hid (p = Pl.fld s.data.toList u false) := show _ = _ from by have := hp.out; rwa [List.drop_eq_nil_of_le (by simp; omega), Pl.fld_nil, List.append_nil] at this
          clear hp
          have hbk := hown.back (P := Try.prog) 22 9 Try.underlying22 Try.underlying5 Try.underlying9
          go_wp2
          go_ret
          rw [← hpn.out]
          exact ⟨rfl, hb⟩
end Go.Proofs.Ytffjgcpiamgejaa
