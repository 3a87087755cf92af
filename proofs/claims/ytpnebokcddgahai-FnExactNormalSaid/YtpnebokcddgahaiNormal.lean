/- The walks of the two Normal. -/
import Derived.Test.YtpnebokcddgahaiChecked
import Derived.Test.YtpnebokcddgahaiPlain
import Derived.Test.YtpnebokcddgahaiBytes
import Derived.WalkKit
import Derived.WalkLawsBesides
import Derived.WalkSpells
namespace Go.Proofs.Ytpnebokcddgahai
open Go.RowKit Go.Lib
theorem Try.info5 : (Try.prog.info? 5).map (fun i => (i.zero, i.size, i.bytes)) = some (some (.int .u8 0), 1, 1) := by kernel_rfl
set_option maxHeartbeats 1000000 in
theorem specNormal (s : ByteArray) (w : World) (hs : s.size ≤ 100000) :
    Calls Try.prog 12 #[.string s] w fun e w' => e = .returned (.string ⟨(Pl.fin (Pl.nrm s.data.toList)).toArray⟩) ∧ Below w.heap.size w w' := by
  obtain ⟨i0, hi, hz0, hz1, hz2⟩ := info_parts Try.info5
  have hc0 : decide ((100000 : Int) < (s.size : Int)) = false := by simp; omega
  go_enter Try.func12, Try.ntmps12
  go_wp2
  go_loopw [3, 4] (fun v i wr => ∃ (k : Nat) (p : List UInt8), k ≤ s.size ∧ i = .int .i64 k ∧ p.length ≤ 2 * k ∧ Hid (p ++ Pl.nrm (s.data.toList.drop k) = Pl.nrm s.data.toList) ∧ Own w.heap.size v p wr ∧ Below w.heap.size w wr) (fun _ i _ => s.size - (intOf i).toNat)
  case atStart => exact ⟨0, [], Nat.zero_le _, rfl, by simp, rfl, Own.made _ _ (Nat.le_refl _), (Below.refl _ _).alloc (Nat.le_refl _) _⟩
  case round =>
    obtain ⟨k, p, hk, rfl, hpl, hp, hown, hb⟩ := hrel
    by_cases hlt : k < s.size
    · have h8 : s[k].toNat < 256 := UInt8.toNat_lt _
      by_cases h13 : ((s[k].toNat : Int) == 13) = true
      · go_wp2_with (at_builtin; go_must (refine wp_app (W := w) rfl _ _ 35 rfl i0 Try.underlying35 hi hz0 hz1 hz2 w.heap.size u3 p rfl hown _ [13, 10] rfl 2 2 rfl rfl (by simp; omega) (Nat.le_refl _) hb ?_; intro v' w' hown' hb'))
        · have h10 : ((s[k + 1].toNat : Int) == 10) = true := by assumption
          go_roundw
          case rel => exact ⟨k + 2, _, by omega, by go_num, by simp; omega, Pl.step_crlf _ p k (by simp; omega) (Pl.byte_eq _ 13 _ rfl h13) (Pl.byte_eq _ 10 _ rfl h10) hp, hown', hb'⟩
          case measure => simp [intOf]; omega
        · have h10 : ((s[k + 1].toNat : Int) == 10) = false := by assumption
          go_roundw
          case rel => exact ⟨k + 1, _, by omega, by go_num, by simp; omega, Pl.step_cr _ p k (by simpa using hlt) (Pl.byte_eq _ 13 _ rfl h13) (fun _ => Pl.byte_ne _ 10 _ rfl h10) hp, hown', hb'⟩
          case measure => simp [intOf]; omega
        · go_roundw
          case rel => exact ⟨k + 1, _, by omega, by go_num, by simp; omega, Pl.step_cr _ p k (by simpa using hlt) (Pl.byte_eq _ 13 _ rfl h13) (fun h => by exfalso; simp at h; omega) hp, hown', hb'⟩
          case measure => simp [intOf]; omega
      · rw [Bool.not_eq_true] at h13
        by_cases h10 : ((s[k].toNat : Int) == 10) = true
        · go_wp2_with (at_builtin; go_must (refine wp_app (W := w) rfl _ _ 35 rfl i0 Try.underlying35 hi hz0 hz1 hz2 w.heap.size u3 p rfl hown _ [13, 10] rfl 2 2 rfl rfl (by simp; omega) (Nat.le_refl _) hb ?_; intro v' w' hown' hb'))
          go_roundw
          case rel => exact ⟨k + 1, _, by omega, by go_num, by simp; omega, Pl.step_lf _ p k (by simpa using hlt) (Pl.byte_eq _ 10 _ rfl h10) hp, hown', hb'⟩
          case measure => simp [intOf]; omega
        · rw [Bool.not_eq_true] at h10
          go_wp2_with (at_builtin; go_must (refine wp_app (W := w) rfl _ _ 35 rfl i0 Try.underlying35 hi hz0 hz1 hz2 w.heap.size u3 p rfl hown _ [s[k]] rfl 1 1 rfl rfl (by simp; omega) (Nat.le_refl _) hb ?_; intro v' w' hown' hb'))
          go_roundw
          case rel => exact ⟨k + 1, _, by omega, by go_num, by simp; omega, Pl.step_other _ p k (by simpa using hlt) (Pl.byte_ne _ 13 _ rfl h13) (Pl.byte_ne _ 10 _ rfl h10) hp, hown', hb'⟩
          case measure => simp [intOf]; omega
    · have hpn : Hid (p = Pl.nrm s.data.toList) := Pl.done _ p k (by simp; omega) hp
      clear hp
      have hbk := hown.back (P := Try.prog) 35 9 Try.underlying35 Try.underlying5 Try.underlying9
      rcases hown.form with ⟨hv, hp0⟩ | ⟨g, cap, hv⟩
      · rw [hv] at hbk ⊢
        go_wp2
        go_ret
        subst hp0
        rw [← hpn.out]
        exact ⟨rfl, hb⟩
      · rcases List.eq_nil_or_concat p with hp0 | ⟨q, c, hq⟩
        · subst hp0
          simp only [List.length_nil] at hv
          rw [hv] at hbk ⊢
          go_wp2
          go_ret
          rw [← hpn.out]
          exact ⟨rfl, hb⟩
        · subst hq
          simp only [List.concat_eq_append, List.length_append, List.length_cons, List.length_nil, Nat.zero_add] at hv hbk hpl hown hpn
          rw [hv] at hbk hown ⊢
          have hcell := hown.cell q.length (by simp)
          simp only [List.getElem_concat_length] at hcell
          have h8 : c.toNat < 256 := UInt8.toNat_lt _
          by_cases h10 : ((c.toNat : Int) == 10) = true
          · have hne : ((c.toNat : Int) != 10) = false := by rw [bne, h10]; rfl
            go_wp2
            go_ret
            have hc := Pl.byte_eq c 10 _ rfl h10
            rw [← hpn.out, Pl.fin, if_pos (by rw [hc]; simp [Pl.endB])]
            exact ⟨by simp, hb⟩
          · have hne : ((c.toNat : Int) != 10) = true := by rw [bne]; simpa using h10
            go_wp2_with (at_builtin; go_must (refine wp_app (W := w) rfl _ _ 35 rfl i0 Try.underlying35 hi hz0 hz1 hz2 w.heap.size (.slice (some ⟨g, 0, none⟩) (q.length + 1) cap) (q ++ [c]) rfl hown _ [13, 10] rfl 2 2 rfl rfl (by simp; omega) (Nat.le_refl _) hb ?_; intro v' w' hown' hb'; have hbk' := hown'.back (P := Try.prog) 35 9 Try.underlying35 Try.underlying5 Try.underlying9))
            go_ret
            have hc := Pl.byte_ne c 10 _ rfl (by simpa using h10)
            rw [← hpn.out, Pl.fin, if_neg (by simp [Pl.endB, hc])]
            exact ⟨by simp, hb'⟩
set_option maxHeartbeats 400000 in
theorem implLineEndAt (s : ByteArray) (k : Nat) (w : World) (_hs : s.size ≤ 100000) (hk : k ≤ s.size) :
    Calls Try.prog 23 #[.string s, .int .i64 k] w fun e w' => e = .returned (.bool (Pl.crlf s.data.toList k)) ∧ w = w' := by
  by_cases h : s.size < k + 2
  · rw [Pl.crlf_short _ _ (by simp; omega)]
    go_enter Try.func23, Try.ntmps23
    go_wp2
    go_ret
    exact ⟨rfl, rfl⟩
  · rw [← Pl.crlf_long]
    go_enter Try.func23, Try.ntmps23
    go_wp2
    go_ret
    exact ⟨rfl, rfl⟩
set_option maxHeartbeats 1000000 in
theorem implNormal (s : ByteArray) (w : World) (hs : s.size ≤ 100000) :
    Calls Try.prog 13 #[.string s] w fun e w' => e = .returned (.string ⟨(Pl.fin (Pl.nrm s.data.toList)).toArray⟩) ∧ Below w.heap.size w w' := by
  obtain ⟨i0, hi, hz0, hz1, hz2⟩ := info_parts Try.info5
  have hc0 : decide ((100000 : Int) < (s.size : Int)) = false := by simp; omega
  go_enter Try.func13, Try.ntmps13
  go_wp2
  go_loopw [3, 4, 5] (fun v e i wr => ∃ (k : Nat) (p : List UInt8), k ≤ s.size ∧ i = .int .i64 k ∧ e = .bool (Pl.endB p) ∧ p.length ≤ 2 * k ∧ Hid (p ++ Pl.nrm (s.data.toList.drop k) = Pl.nrm s.data.toList) ∧ Own w.heap.size v p wr ∧ Below w.heap.size w wr) (fun _ _ i _ => s.size - (intOf i).toNat)
  case atStart => exact ⟨0, [], Nat.zero_le _, rfl, rfl, by simp, rfl, Own.nil _ _, Below.refl _ _⟩
  case round =>
    obtain ⟨k, p, hk, rfl, rfl, hpl, hp, hown, hb⟩ := hrel
    by_cases hlt : k < s.size
    · have h8 : s[k].toNat < 256 := UInt8.toNat_lt _
      by_cases h13 : ((s[k].toNat : Int) == 13) = true
      · by_cases hcr : Pl.crlf s.data.toList k = true
        · have Hcr : Hid (Pl.crlf s.data.toList k = true) := hcr
          go_wp2_with (first | (at_builtin; go_must (refine wp_apps (W := w) rfl _ _ 35 9 rfl i0 Try.underlying35 Try.underlying9 hi hz0 hz1 hz2 w.heap.size u3 p rfl hown ⟨#[13, 10]⟩ rfl (by simp [ByteArray.size]; omega) (Nat.le_refl _) hb ?_; intro v' w' hown' hb')) | (go_at_call 23; go_must (refine (implLineEndAt s k _ hs hk).mono ?_; rintro e w2 ⟨rfl, rfl⟩)))
          go_roundw
          case rel => (repeat apply Exists.intro); exact ⟨⟨k + 2, _, by obtain ⟨h, -⟩ := (Pl.crlf_iff _ _).1 Hcr.out; simp at h; omega, by go_num, by rw [Pl.endB_crlf], by simp; omega, (by obtain ⟨h, h0, h1⟩ := (Pl.crlf_iff _ _).1 Hcr.out; exact Pl.step_crlf _ p k h h0 h1 hp), hown', hb'⟩, rfl⟩
          case measure => simp [intOf]; omega
        · rw [Bool.not_eq_true] at hcr
          have Hcr : Hid (Pl.crlf s.data.toList k = false) := hcr
          go_wp2_with (first | (at_builtin; go_must (refine wp_apps (W := w) rfl _ _ 35 9 rfl i0 Try.underlying35 Try.underlying9 hi hz0 hz1 hz2 w.heap.size u3 p rfl hown ⟨#[13, 10]⟩ rfl (by simp [ByteArray.size]; omega) (Nat.le_refl _) hb ?_; intro v' w' hown' hb')) | (go_at_call 23; go_must (refine (implLineEndAt s k _ hs hk).mono ?_; rintro e w2 ⟨rfl, rfl⟩)))
          go_roundw
          case rel => (repeat apply Exists.intro); exact ⟨⟨k + 1, _, by omega, by go_num, by rw [Pl.endB_crlf], by simp; omega, Pl.step_cr _ p k (by simpa using hlt) (Pl.byte_eq _ 13 _ rfl h13) (fun h h1 => by have := (Pl.crlf_iff _ _).2 ⟨h, Pl.byte_eq _ 13 _ rfl h13, h1⟩; rw [Hcr.out] at this; cases this) hp, hown', hb'⟩, rfl⟩
          case measure => simp [intOf]; omega
      · rw [Bool.not_eq_true] at h13
        by_cases h10 : ((s[k].toNat : Int) == 10) = true
        · have hcr : Pl.crlf s.data.toList k = false := by
            rw [Bool.eq_false_iff]
            intro e
            obtain ⟨h, h0, -⟩ := (Pl.crlf_iff _ _).1 e
            exact Pl.byte_ne _ 13 _ rfl h13 h0
          go_wp2_with (first | (at_builtin; go_must (refine wp_apps (W := w) rfl _ _ 35 9 rfl i0 Try.underlying35 Try.underlying9 hi hz0 hz1 hz2 w.heap.size u3 p rfl hown ⟨#[13, 10]⟩ rfl (by simp [ByteArray.size]; omega) (Nat.le_refl _) hb ?_; intro v' w' hown' hb')) | (go_at_call 23; go_must (refine (implLineEndAt s k _ hs hk).mono ?_; rintro e w2 ⟨rfl, rfl⟩)))
          go_roundw
          case rel => (repeat apply Exists.intro); exact ⟨⟨k + 1, _, by omega, by go_num, by rw [Pl.endB_crlf], by simp; omega, Pl.step_lf _ p k (by simpa using hlt) (Pl.byte_eq _ 10 _ rfl h10) hp, hown', hb'⟩, rfl⟩
          case measure => simp [intOf]; omega
        · rw [Bool.not_eq_true] at h10
          go_wp2_with (at_builtin; go_must (refine wp_app (W := w) rfl _ _ 35 rfl i0 Try.underlying35 hi hz0 hz1 hz2 w.heap.size u3 p rfl hown _ [s[k]] rfl 1 1 rfl rfl (by simp; omega) (Nat.le_refl _) hb ?_; intro v' w' hown' hb'))
          go_roundw
          case rel => (repeat apply Exists.intro); exact ⟨⟨k + 1, p ++ [s[k]], by omega, by go_num, by rw [Pl.endB_other _ _ (Pl.byte_ne _ 10 _ rfl h10)], by simp; omega, Pl.step_other _ p k (by simpa using hlt) (Pl.byte_ne _ 13 _ rfl h13) (Pl.byte_ne _ 10 _ rfl h10) hp, hown', hb'⟩, rfl⟩
          case measure => simp [intOf]; omega
    · have hpn : Hid (p = Pl.nrm s.data.toList) := Pl.done _ p k (by simp; omega) hp
      clear hp
      have hbk := hown.back (P := Try.prog) 35 9 Try.underlying35 Try.underlying5 Try.underlying9
      by_cases he : Pl.endB p = true
      · have He : Hid (Pl.endB p = true) := he
        go_wp2
        go_ret
        rw [← hpn.out, Pl.fin, if_pos He.out]
        exact ⟨rfl, hb⟩
      · rw [Bool.not_eq_true] at he
        have He : Hid (Pl.endB p = false) := he
        go_wp2_with (at_builtin; go_must (refine wp_apps (W := w) rfl _ _ 35 9 rfl i0 Try.underlying35 Try.underlying9 hi hz0 hz1 hz2 w.heap.size u3 p rfl hown ⟨#[13, 10]⟩ rfl (by simp [ByteArray.size]; omega) (Nat.le_refl _) hb ?_; intro v' w' hown' hb'; have hbk' := hown'.back (P := Try.prog) 35 9 Try.underlying35 Try.underlying5 Try.underlying9))
        go_ret
        rw [← hpn.out, Pl.fin, if_neg (by rw [He.out]; simp)]
        exact ⟨rfl, hb'⟩
end Go.Proofs.Ytpnebokcddgahai
