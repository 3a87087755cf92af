
/- The walk of the program's Fold. -/
import Derived.Test.YtffjgcpiamgejaaPiece
namespace Go.Proofs.Ytffjgcpiamgejaa
open Go.RowKit Go.Lib
set_option maxHeartbeats 2000000 in
theorem implFold (s : ByteArray) (u : Nat) (w : World) (hs : s.size ≤ 100000) (hu : u ≤ 78) (hlb : s.data.toList.all Pl.lb = true) :
    Calls Try.prog 11 #[.string s, .int .i64 u] w fun e w' => e = .returned (.string ⟨(Pl.fld s.data.toList u false).toArray⟩) ∧ Below w.heap.size w w' := by
  obtain ⟨i0, hi, hy0, hy1, hy2⟩ := info_parts Try.info5
  have hall := implAllOf kindLine s w (by omega)
  rw [hlb] at hall
  clear hlb
  go_enter Try.func11, Try.ntmps11
  go_wp2_with fail
  refine (implTooLong s _ (by omega)).mono ?_
  rintro e w1 ⟨rfl, rfl⟩
  rw [decide_eq_false (by omega)]
  go_wp2_with fail
  refine hall.mono ?_
  rintro e w1 ⟨rfl, rfl⟩
  clear hall
  go_wp2
  go_loopw [0, 5, 6, 7, 8, 9] (fun x v n b _ _ wr => ∃ (t : ByteArray) (p : List UInt8) (m : Nat) (c : Bool), t.size ≤ s.size ∧ m ≤ 78 + (s.size - t.size) ∧ x = .string t ∧ n = .int .i64 m ∧ b = .bool c ∧ p.length ≤ 3 * (s.size - t.size) ∧ Hid (p ++ Pl.fld t.data.toList m c = Pl.fld s.data.toList u false) ∧ Own w.heap.size v p wr ∧ Below w.heap.size w wr) (fun x _ _ _ _ _ _ => match x with | .string t => t.size | _ => 0)
  case atStart => exact ⟨s, [], u, false, Nat.le_refl _, by omega, rfl, rfl, rfl, by simp, rfl, Own.nil _ _, Below.refl _ _⟩
  case round =>
    obtain ⟨t, p, m, c, ht, hm, rfl, rfl, rfl, hpl, hp, hown, hb⟩ := hrel
    by_cases h0 : t.size = 0
    · have hnil : t = ⟨#[]⟩ := by cases t with | mk d => simp [ByteArray.size] at h0; simp [h0]
      subst hnil
      have hpn : Hid (p = Pl.fld s.data.toList u false) := show _ = _ from by have := hp.out; rwa [show (ByteArray.mk #[]).data.toList = [] from rfl, Pl.fld_nil, List.append_nil] at this
      clear hp
      have hbk := hown.back (P := Try.prog) 22 9 Try.underlying22 Try.underlying5 Try.underlying9
      go_wp2
      go_ret
      rw [← hpn.out]
      exact ⟨rfl, hb⟩
    · have hE : t.toList.isEmpty = false := by
        rw [ByteArray.toList_eq, List.isEmpty_eq_false_iff]
        intro e
        exact h0 (by rw [← Pl.len_list, e]; rfl)
      have hne : Hid (t.data.toList ≠ []) := show _ ≠ _ from by
        intro e
        exact h0 (by rw [← Pl.len_list, e]; rfl)
      have hps := fun w => implPieceSize t w (by omega) (by omega)
      have hz1 := Pl.pz_pos _ hne.out
      have hz2 := Pl.pz_le t.data.toList
      rw [Pl.len_list] at hz2
      have hz : Hid (∃ z, Pl.pz t.data.toList = z) := ⟨_, rfl⟩
      obtain ⟨z, hz⟩ := hz.out
      rw [hz] at hz1 hz2
      simp only [hz] at hps
      have Hz : Hid (Pl.pz t.data.toList = z) := hz
      clear hz
      go_wp2_with fail
      refine (hps _).mono ?_
      rintro e w1 ⟨rfl, rfl⟩
      clear hps hE
      go_wp2_with fail
      have hq1 : Hid ((t.extract 0 z).data.toList = t.data.toList.take z) := Pl.ext_take t z
      have hq2 : (t.extract 0 z).size = z := by simp; omega
      have hr1 : Hid ((t.extract z t.size).data.toList = t.data.toList.drop z) := Pl.ext_drop t z
      have hr2 : (t.extract z t.size).size = t.size - z := by simp
      generalize t.extract 0 z = q at hq1 hq2 ⊢
      generalize t.extract z t.size = r at hr1 hr2 ⊢
      have hq0 : 0 < q.size := by omega
      have Hbl : Hid (Pl.blankAt t.data.toList 0 = Pl.blank q[0]) := Pl.blankAt_zero q _ z hq1.out hq0
      refine (implAllOf kindBlank q _ (by omega)).mono ?_
      rintro e w1 ⟨rfl, rfl⟩
      have h8 : q[0].toNat < 256 := UInt8.toNat_lt _
      have hqb := fun w => implBlank q[0] w
      have Hall : Hid (q.data.toList.all Pl.blank = (t.data.toList.take z).all Pl.blank) := show _ = _ from by rw [hq1.out]
      have hqb := fun w => implBlank q[0] w
      have Hall : Hid (q.data.toList.all Pl.blank = (t.data.toList.take z).all Pl.blank) := show _ = _ from by rw [hq1.out]
      cases hS : q.data.toList.all Pl.blank <;> cases hB : Pl.blank q[0] <;> cases c <;> (by_cases hA : 78 < m + z)
      all_goals
        simp only [hB] at hqb
        have HS : Hid ((t.data.toList.take z).all Pl.blank = _) := Hall.out.symm.trans hS
        have HB : Hid (Pl.blankAt t.data.toList 0 = _) := Hbl.out.trans hB
        clear hS hB Hbl Hall
      · go_wp2_with (first | (go_at_call 32; go_must (refine (hqb _).mono ?_; rintro e w2 ⟨rfl, rfl⟩)) | (at_builtin; go_must (refine wp_apps (W := w) rfl _ _ 22 9 rfl i0 Try.underlying22 Try.underlying9 hi hy0 hy1 hy2 w.heap.size u5 p rfl hown q rfl (by omega) (Nat.le_refl _) hb ?_; intro v' w' hown' hb')))
        go_roundw
        case rel =>
          exact ⟨r, _, m + z, _, by omega, by omega, rfl, by go_num, rfl, by rw [List.length_append, Pl.len_list]; omega, show _ ++ Pl.fld r.data.toList _ _ = _ from by rw [hq1.out, hr1.out]; exact Pl.fld_step_plain _ p _ m z _ _ _ _ _ hne.out Hz.out (decide_eq_true hA) HB.out HS.out hp.out rfl rfl, hown', hb'⟩
        case measure => simp; omega
      · go_wp2_with (first | (go_at_call 32; go_must (refine (hqb _).mono ?_; rintro e w2 ⟨rfl, rfl⟩)) | (at_builtin; go_must (refine wp_apps (W := w) rfl _ _ 22 9 rfl i0 Try.underlying22 Try.underlying9 hi hy0 hy1 hy2 w.heap.size u5 p rfl hown q rfl (by omega) (Nat.le_refl _) hb ?_; intro v' w' hown' hb')))
        go_roundw
        case rel =>
          exact ⟨r, _, m + z, _, by omega, by omega, rfl, by go_num, rfl, by rw [List.length_append, Pl.len_list]; omega, show _ ++ Pl.fld r.data.toList _ _ = _ from by rw [hq1.out, hr1.out]; exact Pl.fld_step_plain _ p _ m z _ _ _ _ _ hne.out Hz.out (decide_eq_false hA) HB.out HS.out hp.out rfl rfl, hown', hb'⟩
        case measure => simp; omega
      · go_wp2_with (first | (go_at_call 32; go_must (refine (hqb _).mono ?_; rintro e w2 ⟨rfl, rfl⟩)) | (at_builtin; go_must (refine wp_apps (W := w) rfl _ _ 22 9 rfl i0 Try.underlying22 Try.underlying9 hi hy0 hy1 hy2 w.heap.size u5 p rfl hown q rfl (by omega) (Nat.le_refl _) hb ?_; intro v' w' hown' hb')))
        go_roundw
        case rel =>
          exact ⟨r, _, m + z, _, by omega, by omega, rfl, by go_num, rfl, by rw [List.length_append, Pl.len_list]; omega, show _ ++ Pl.fld r.data.toList _ _ = _ from by rw [hq1.out, hr1.out]; exact Pl.fld_step_plain _ p _ m z _ _ _ _ _ hne.out Hz.out (decide_eq_true hA) HB.out HS.out hp.out rfl rfl, hown', hb'⟩
        case measure => simp; omega
      · go_wp2_with (first | (go_at_call 32; go_must (refine (hqb _).mono ?_; rintro e w2 ⟨rfl, rfl⟩)) | (at_builtin; go_must (refine wp_apps (W := w) rfl _ _ 22 9 rfl i0 Try.underlying22 Try.underlying9 hi hy0 hy1 hy2 w.heap.size u5 p rfl hown q rfl (by omega) (Nat.le_refl _) hb ?_; intro v' w' hown' hb')))
        go_roundw
        case rel =>
          exact ⟨r, _, m + z, _, by omega, by omega, rfl, by go_num, rfl, by rw [List.length_append, Pl.len_list]; omega, show _ ++ Pl.fld r.data.toList _ _ = _ from by rw [hq1.out, hr1.out]; exact Pl.fld_step_plain _ p _ m z _ _ _ _ _ hne.out Hz.out (decide_eq_false hA) HB.out HS.out hp.out rfl rfl, hown', hb'⟩
        case measure => simp; omega
      · go_wp2_with (first | (go_at_call 32; go_must (refine (hqb _).mono ?_; rintro e w2 ⟨rfl, rfl⟩)) | (at_builtin; go_must (refine wp_apps (W := w) rfl _ _ 22 9 rfl i0 Try.underlying22 Try.underlying9 hi hy0 hy1 hy2 w.heap.size u5 p rfl hown q rfl (by omega) (Nat.le_refl _) hb ?_; intro v' w' hown' hb')))
        go_roundw
        case rel =>
          exact ⟨r, _, m + z, _, by omega, by omega, rfl, by go_num, rfl, by rw [List.length_append, Pl.len_list]; omega, show _ ++ Pl.fld r.data.toList _ _ = _ from by rw [hq1.out, hr1.out]; exact Pl.fld_step_plain _ p _ m z _ _ _ _ _ hne.out Hz.out (decide_eq_true hA) HB.out HS.out hp.out rfl rfl, hown', hb'⟩
        case measure => simp; omega
      · go_wp2_with (first | (go_at_call 32; go_must (refine (hqb _).mono ?_; rintro e w2 ⟨rfl, rfl⟩)) | (at_builtin; go_must (refine wp_apps (W := w) rfl _ _ 22 9 rfl i0 Try.underlying22 Try.underlying9 hi hy0 hy1 hy2 w.heap.size u5 p rfl hown q rfl (by omega) (Nat.le_refl _) hb ?_; intro v' w' hown' hb')))
        go_roundw
        case rel =>
          exact ⟨r, _, m + z, _, by omega, by omega, rfl, by go_num, rfl, by rw [List.length_append, Pl.len_list]; omega, show _ ++ Pl.fld r.data.toList _ _ = _ from by rw [hq1.out, hr1.out]; exact Pl.fld_step_plain _ p _ m z _ _ _ _ _ hne.out Hz.out (decide_eq_false hA) HB.out HS.out hp.out rfl rfl, hown', hb'⟩
        case measure => simp; omega
      · go_wp2_with (first | (go_at_call 32; go_must (refine (hqb _).mono ?_; rintro e w2 ⟨rfl, rfl⟩)) | (at_builtin; go_must (first | (refine wp_apps (W := w) rfl _ _ 22 9 rfl i0 Try.underlying22 Try.underlying9 hi hy0 hy1 hy2 w.heap.size v' (p ++ [13, 10]) rfl hown' q rfl (by simp; omega) (Nat.le_refl _) hb' ?_; intro v2 w2 hown2 hb2) | (refine wp_apps (W := w) rfl _ _ 22 9 rfl i0 Try.underlying22 Try.underlying9 hi hy0 hy1 hy2 w.heap.size u5 p rfl hown ⟨#[13, 10]⟩ rfl (by simp [ByteArray.size]; omega) (Nat.le_refl _) hb ?_; intro v' w' hown' hb'))))
        go_roundw
        case rel =>
          exact ⟨r, _, z, _, by omega, by omega, rfl, by go_num, rfl, by simp; omega, show _ ++ Pl.fld r.data.toList _ _ = _ from by rw [hq1.out, hr1.out]; exact Pl.fld_step_fold _ p _ m z _ _ _ _ hne.out Hz.out (decide_eq_true hA) HB.out HS.out hp.out rfl, hown2, hb2⟩
        case measure => simp; omega
      · go_wp2_with (first | (go_at_call 32; go_must (refine (hqb _).mono ?_; rintro e w2 ⟨rfl, rfl⟩)) | (at_builtin; go_must (refine wp_apps (W := w) rfl _ _ 22 9 rfl i0 Try.underlying22 Try.underlying9 hi hy0 hy1 hy2 w.heap.size u5 p rfl hown q rfl (by omega) (Nat.le_refl _) hb ?_; intro v' w' hown' hb')))
        go_roundw
        case rel =>
          exact ⟨r, _, m + z, _, by omega, by omega, rfl, by go_num, rfl, by rw [List.length_append, Pl.len_list]; omega, show _ ++ Pl.fld r.data.toList _ _ = _ from by rw [hq1.out, hr1.out]; exact Pl.fld_step_plain _ p _ m z _ _ _ _ _ hne.out Hz.out (decide_eq_false hA) HB.out HS.out hp.out rfl rfl, hown', hb'⟩
        case measure => simp; omega
      · go_wp2_with (first | (go_at_call 32; go_must (refine (hqb _).mono ?_; rintro e w2 ⟨rfl, rfl⟩)) | (at_builtin; go_must (refine wp_apps (W := w) rfl _ _ 22 9 rfl i0 Try.underlying22 Try.underlying9 hi hy0 hy1 hy2 w.heap.size u5 p rfl hown q rfl (by omega) (Nat.le_refl _) hb ?_; intro v' w' hown' hb')))
        go_roundw
        case rel =>
          exact ⟨r, _, m + z, _, by omega, by omega, rfl, by go_num, rfl, by rw [List.length_append, Pl.len_list]; omega, show _ ++ Pl.fld r.data.toList _ _ = _ from by rw [hq1.out, hr1.out]; exact Pl.fld_step_plain _ p _ m z _ _ _ _ _ hne.out Hz.out (decide_eq_true hA) HB.out HS.out hp.out rfl rfl, hown', hb'⟩
        case measure => simp; omega
      · go_wp2_with (first | (go_at_call 32; go_must (refine (hqb _).mono ?_; rintro e w2 ⟨rfl, rfl⟩)) | (at_builtin; go_must (refine wp_apps (W := w) rfl _ _ 22 9 rfl i0 Try.underlying22 Try.underlying9 hi hy0 hy1 hy2 w.heap.size u5 p rfl hown q rfl (by omega) (Nat.le_refl _) hb ?_; intro v' w' hown' hb')))
        go_roundw
        case rel =>
          exact ⟨r, _, m + z, _, by omega, by omega, rfl, by go_num, rfl, by rw [List.length_append, Pl.len_list]; omega, show _ ++ Pl.fld r.data.toList _ _ = _ from by rw [hq1.out, hr1.out]; exact Pl.fld_step_plain _ p _ m z _ _ _ _ _ hne.out Hz.out (decide_eq_false hA) HB.out HS.out hp.out rfl rfl, hown', hb'⟩
        case measure => simp; omega
      · go_wp2_with (first | (go_at_call 32; go_must (refine (hqb _).mono ?_; rintro e w2 ⟨rfl, rfl⟩)) | (at_builtin; go_must (refine wp_apps (W := w) rfl _ _ 22 9 rfl i0 Try.underlying22 Try.underlying9 hi hy0 hy1 hy2 w.heap.size u5 p rfl hown q rfl (by omega) (Nat.le_refl _) hb ?_; intro v' w' hown' hb')))
        go_roundw
        case rel =>
          exact ⟨r, _, m + z, _, by omega, by omega, rfl, by go_num, rfl, by rw [List.length_append, Pl.len_list]; omega, show _ ++ Pl.fld r.data.toList _ _ = _ from by rw [hq1.out, hr1.out]; exact Pl.fld_step_plain _ p _ m z _ _ _ _ _ hne.out Hz.out (decide_eq_true hA) HB.out HS.out hp.out rfl rfl, hown', hb'⟩
        case measure => simp; omega
      · go_wp2_with (first | (go_at_call 32; go_must (refine (hqb _).mono ?_; rintro e w2 ⟨rfl, rfl⟩)) | (at_builtin; go_must (refine wp_apps (W := w) rfl _ _ 22 9 rfl i0 Try.underlying22 Try.underlying9 hi hy0 hy1 hy2 w.heap.size u5 p rfl hown q rfl (by omega) (Nat.le_refl _) hb ?_; intro v' w' hown' hb')))
        go_roundw
        case rel =>
          exact ⟨r, _, m + z, _, by omega, by omega, rfl, by go_num, rfl, by rw [List.length_append, Pl.len_list]; omega, show _ ++ Pl.fld r.data.toList _ _ = _ from by rw [hq1.out, hr1.out]; exact Pl.fld_step_plain _ p _ m z _ _ _ _ _ hne.out Hz.out (decide_eq_false hA) HB.out HS.out hp.out rfl rfl, hown', hb'⟩
        case measure => simp; omega
      · go_wp2_with (first | (go_at_call 32; go_must (refine (hqb _).mono ?_; rintro e w2 ⟨rfl, rfl⟩)) | (at_builtin; go_must (refine wp_apps (W := w) rfl _ _ 22 9 rfl i0 Try.underlying22 Try.underlying9 hi hy0 hy1 hy2 w.heap.size u5 p rfl hown q rfl (by omega) (Nat.le_refl _) hb ?_; intro v' w' hown' hb')))
        go_roundw
        case rel =>
          exact ⟨r, _, m + z, _, by omega, by omega, rfl, by go_num, rfl, by rw [List.length_append, Pl.len_list]; omega, show _ ++ Pl.fld r.data.toList _ _ = _ from by rw [hq1.out, hr1.out]; exact Pl.fld_step_plain _ p _ m z _ _ _ _ _ hne.out Hz.out (decide_eq_true hA) HB.out HS.out hp.out rfl rfl, hown', hb'⟩
        case measure => simp; omega
      · go_wp2_with (first | (go_at_call 32; go_must (refine (hqb _).mono ?_; rintro e w2 ⟨rfl, rfl⟩)) | (at_builtin; go_must (refine wp_apps (W := w) rfl _ _ 22 9 rfl i0 Try.underlying22 Try.underlying9 hi hy0 hy1 hy2 w.heap.size u5 p rfl hown q rfl (by omega) (Nat.le_refl _) hb ?_; intro v' w' hown' hb')))
        go_roundw
        case rel =>
          exact ⟨r, _, m + z, _, by omega, by omega, rfl, by go_num, rfl, by rw [List.length_append, Pl.len_list]; omega, show _ ++ Pl.fld r.data.toList _ _ = _ from by rw [hq1.out, hr1.out]; exact Pl.fld_step_plain _ p _ m z _ _ _ _ _ hne.out Hz.out (decide_eq_false hA) HB.out HS.out hp.out rfl rfl, hown', hb'⟩
        case measure => simp; omega
      · go_wp2_with (first | (go_at_call 32; go_must (refine (hqb _).mono ?_; rintro e w2 ⟨rfl, rfl⟩)) | (at_builtin; go_must (refine wp_apps (W := w) rfl _ _ 22 9 rfl i0 Try.underlying22 Try.underlying9 hi hy0 hy1 hy2 w.heap.size u5 p rfl hown q rfl (by omega) (Nat.le_refl _) hb ?_; intro v' w' hown' hb')))
        go_roundw
        case rel =>
          exact ⟨r, _, m + z, _, by omega, by omega, rfl, by go_num, rfl, by rw [List.length_append, Pl.len_list]; omega, show _ ++ Pl.fld r.data.toList _ _ = _ from by rw [hq1.out, hr1.out]; exact Pl.fld_step_plain _ p _ m z _ _ _ _ _ hne.out Hz.out (decide_eq_true hA) HB.out HS.out hp.out rfl rfl, hown', hb'⟩
        case measure => simp; omega
      · go_wp2_with (first | (go_at_call 32; go_must (refine (hqb _).mono ?_; rintro e w2 ⟨rfl, rfl⟩)) | (at_builtin; go_must (refine wp_apps (W := w) rfl _ _ 22 9 rfl i0 Try.underlying22 Try.underlying9 hi hy0 hy1 hy2 w.heap.size u5 p rfl hown q rfl (by omega) (Nat.le_refl _) hb ?_; intro v' w' hown' hb')))
        go_roundw
        case rel =>
          exact ⟨r, _, m + z, _, by omega, by omega, rfl, by go_num, rfl, by rw [List.length_append, Pl.len_list]; omega, show _ ++ Pl.fld r.data.toList _ _ = _ from by rw [hq1.out, hr1.out]; exact Pl.fld_step_plain _ p _ m z _ _ _ _ _ hne.out Hz.out (decide_eq_false hA) HB.out HS.out hp.out rfl rfl, hown', hb'⟩
        case measure => simp; omega
set_option maxHeartbeats 1000000 in
theorem implFoldRaw (s : ByteArray) (x : Int) (w : World) (hs : s.size ≤ 100000) (h : x < 0 ∨ 78 < x ∨ s.data.toList.all Pl.lb = false) :
    Calls Try.prog 11 #[.string s, .int .i64 x] w fun e w' => e = .returned (.string s) ∧ Below w.heap.size w w' := by
  by_cases h1 : x < 0
  · clear h
    go_enter Try.func11, Try.ntmps11
    go_wp2_with fail
    refine (implTooLong s _ (by omega)).mono ?_
    rintro e w1 ⟨rfl, rfl⟩
    rw [decide_eq_false (by omega)]
    go_wp2_with fail
    refine (libClone s _ (by omega)).mono ?_
    rintro e w1 ⟨rfl, hb⟩
    go_wp2
    go_ret
    exact ⟨rfl, hb⟩
  · by_cases h2 : 78 < x
    · clear h
      go_enter Try.func11, Try.ntmps11
      go_wp2_with fail
      refine (implTooLong s _ (by omega)).mono ?_
      rintro e w1 ⟨rfl, rfl⟩
      rw [decide_eq_false (by omega)]
      go_wp2_with fail
      refine (libClone s _ (by omega)).mono ?_
      rintro e w1 ⟨rfl, hb⟩
      go_wp2
      go_ret
      exact ⟨rfl, hb⟩
    · have hlb : s.data.toList.all Pl.lb = false := (h.resolve_left h1).resolve_left h2
      have hall := implAllOf kindLine s w (by omega)
      rw [hlb] at hall
      clear hlb h
      go_enter Try.func11, Try.ntmps11
      go_wp2_with fail
      refine (implTooLong s _ (by omega)).mono ?_
      rintro e w1 ⟨rfl, rfl⟩
      rw [decide_eq_false (by omega)]
      go_wp2_with fail
      refine hall.mono ?_
      rintro e w1 ⟨rfl, rfl⟩
      clear hall
      go_wp2_with fail
      refine (libClone s _ (by omega)).mono ?_
      rintro e w1 ⟨rfl, hb⟩
      go_wp2
      go_ret
      exact ⟨rfl, hb⟩
end Go.Proofs.Ytffjgcpiamgejaa
