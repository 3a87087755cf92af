
/- A piece's size; a text without the blanks at its ends. -/
import Derived.Test.YtffjgcpiamgejaaAllOf
namespace Go.Proofs.Ytffjgcpiamgejaa
open Go.RowKit Go.Lib
set_option maxHeartbeats 1000000 in
theorem implPieceSize (s : ByteArray) (w : World) (_hs : s.size ≤ 1100000) (h0 : 0 < s.size) :
    Calls Try.prog 31 #[.string s] w fun e w' => e = .returned (.int .i64 (Pl.pz s.data.toList : Nat)) ∧ w = w' := by
  have hz : Hid (Pl.pzAt s.data.toList 1 = Pl.pz s.data.toList) := show _ = _ from by
    have := Pl.pzAt_start s.data.toList 0 (by simpa using h0)
    rwa [List.drop_zero, Nat.zero_add, Nat.zero_add] at this
  go_enter Try.func31, Try.ntmps31
  go_wp2
  go_loopw [3] (fun i wr => ∃ j : Nat, 0 < j ∧ j ≤ s.size ∧ i = .int .i64 j ∧ Hid (Pl.pzAt s.data.toList j = Pl.pz s.data.toList) ∧ wr = w) (fun i _ => s.size - (Lib.intOf i).toNat)
  case atStart => exact ⟨1, by omega, by omega, rfl, hz, rfl⟩
  case round =>
    obtain ⟨j, hj0, hj, rfl, hp, rfl⟩ := hrel
    clear hz
    by_cases hlt : j < s.size
    · have h8 : s[j].toNat < 256 := UInt8.toNat_lt _
      have h9 : s[j - 1].toNat < 256 := UInt8.toNat_lt _
      have hc := fun w => implBlank s[j] w
      have hd := fun w => implBlank s[j - 1] w
      have hgo := Pl.pzAt_go s.data.toList j hj0 (by simpa using hlt)
      have hst := Pl.pzAt_stop s.data.toList j hj0 (by simpa using hlt)
      rw [Pl.at_list s j hlt, Pl.at_list s (j - 1) (by omega)] at hgo hst
      cases hb : Pl.blank s[j] <;> cases hb1 : Pl.blank s[j - 1] <;> simp only [hb, hb1] at hc hd hgo hst
      · clear hst
        have Hgo : Hid (Pl.pzAt s.data.toList (j + 1) = Pl.pzAt s.data.toList j) := hgo rfl
        clear hgo hb hb1
        go_wp2_with (go_at_call 32; go_must (refine (hc _).mono ?_; rintro e w2 ⟨rfl, rfl⟩))
        go_roundw
        case rel => exact ⟨j + 1, by omega, by omega, by go_num, show _ = _ from Hgo.out.trans hp.out, trivial⟩
        case measure => simp [Lib.intOf]; omega
      · clear hst
        have Hgo : Hid (Pl.pzAt s.data.toList (j + 1) = Pl.pzAt s.data.toList j) := hgo rfl
        clear hgo hb hb1
        go_wp2_with (go_at_call 32; go_must (refine (hc _).mono ?_; rintro e w2 ⟨rfl, rfl⟩))
        go_roundw
        case rel => exact ⟨j + 1, by omega, by omega, by go_num, show _ = _ from Hgo.out.trans hp.out, trivial⟩
        case measure => simp [Lib.intOf]; omega
      · clear hgo
        have Hst : Hid (Pl.pzAt s.data.toList j = j) := hst rfl
        clear hst hb hb1
        go_wp2_with fail
        refine (hc _).mono ?_
        rintro e w2 ⟨rfl, rfl⟩
        go_wp2_with fail
        refine (hd _).mono ?_
        rintro e w2 ⟨rfl, rfl⟩
        go_wp2
        go_ret
        rw [← hp.out, Hst.out]
        exact ⟨rfl, rfl⟩
      · clear hst
        have Hgo : Hid (Pl.pzAt s.data.toList (j + 1) = Pl.pzAt s.data.toList j) := hgo rfl
        clear hgo hb hb1
        go_wp2_with fail
        refine (hc _).mono ?_
        rintro e w2 ⟨rfl, rfl⟩
        go_wp2_with fail
        refine (hd _).mono ?_
        rintro e w2 ⟨rfl, rfl⟩
        go_wp2
        go_roundw
        case rel => exact ⟨j + 1, by omega, by omega, by go_num, show _ = _ from Hgo.out.trans hp.out, trivial⟩
        case measure => simp [Lib.intOf]; omega
    · have hend : Hid (Pl.pz s.data.toList = s.size) := show _ = _ from by rw [← hp.out, Pl.pzAt_end _ j (by simp; omega)]; omega
      clear hp
      go_wp2
      go_ret
      rw [hend.out]
      exact ⟨rfl, rfl⟩
set_option maxHeartbeats 1000000 in
theorem specTrim (s : ByteArray) (w : World) (_hs : s.size ≤ 1100000) :
    Calls Try.prog 34 #[.string s] w fun e w' => ∃ t : ByteArray, e = .returned (.string t) ∧ Hid ((t.size = 0 ↔ s.data.toList.all Pl.blank = true)) ∧ w = w' := by
  go_enter Try.func34, Try.ntmps34
  go_wp2
  go_loopw [0] (fun x wr => ∃ t : ByteArray, t.size ≤ s.size ∧ x = .string t ∧ Hid (t.data.toList.all Pl.blank = s.data.toList.all Pl.blank) ∧ wr = w) (fun x _ => match x with | .string t => t.size | _ => 0)
  case atStart => exact ⟨s, Nat.le_refl _, rfl, rfl, rfl⟩
  case round =>
    obtain ⟨t, ht, rfl, hp, rfl⟩ := hrel
    by_cases h0 : 0 < t.size
    · have h8 : t[0].toNat < 256 := UInt8.toNat_lt _
      have hc := fun w => specBlank t[0] w
      cases hb : Pl.blank t[0] <;> simp only [hb] at hc
      · go_wp2_with fail
        refine (hc _).mono ?_
        rintro e w2 ⟨rfl, rfl⟩
        go_wp2
        go_loopw [0] (fun x wx => ∃ t : ByteArray, t.size ≤ s.size ∧ x = .string t ∧ Hid (t.data.toList.all Pl.blank = s.data.toList.all Pl.blank) ∧ wx = wr) (fun x _ => match x with | .string t => t.size | _ => 0)
        case atStart => exact ⟨t, ht, rfl, hp, rfl⟩
        case round =>
          clear hp ht
          obtain ⟨t, ht, rfl, hp, rfl⟩ := hrel
          by_cases h0 : 0 < t.size
          · have h8 : t[t.size - 1].toNat < 256 := UInt8.toNat_lt _
            have hc := fun w => specBlank t[t.size - 1] w
            cases hb : Pl.blank t[t.size - 1] <;> simp only [hb] at hc
            · have Hb : Hid (t.data.toList.all Pl.blank = false) := Pl.all_last Pl.blank t h0 hb
              clear hb
              go_wp2_with fail
              refine (hc _).mono ?_
              rintro e w2 ⟨rfl, rfl⟩
              go_wp2
              go_ret
              refine ⟨t, rfl, show _ ↔ _ from ?_, rfl⟩
              rw [← hp.out, Hb.out]
              exact ⟨fun h => by omega, fun h => by cases h⟩
            · have Hb : Hid ((t.extract 0 (t.size - 1)).data.toList.all Pl.blank = t.data.toList.all Pl.blank) := Pl.all_front Pl.blank t h0 hb
              clear hb
              go_wp2_with fail
              refine (hc _).mono ?_
              rintro e w2 ⟨rfl, rfl⟩
              go_wp2
              go_roundw
              case rel => exact ⟨_, by simp; omega, rfl, show _ = _ from Hb.out.trans hp.out, trivial⟩
              case measure => simp; omega
          · go_wp2
            go_ret
            refine ⟨t, rfl, show _ ↔ _ from ?_, rfl⟩
            rw [← hp.out, Pl.all_none Pl.blank t (by omega)]
            exact ⟨fun _ => rfl, fun _ => by omega⟩
      · have Hb : Hid ((t.extract 1 t.size).data.toList.all Pl.blank = t.data.toList.all Pl.blank) := Pl.all_tail Pl.blank t h0 hb
        clear hb
        go_wp2_with fail
        refine (hc _).mono ?_
        rintro e w2 ⟨rfl, rfl⟩
        go_wp2
        go_roundw
        case rel => exact ⟨_, by simp; omega, rfl, show _ = _ from Hb.out.trans hp.out, trivial⟩
        case measure => simp; omega
    · go_wp2
      clear h0
      go_loopw [0] (fun x wx => ∃ t : ByteArray, t.size ≤ s.size ∧ x = .string t ∧ Hid (t.data.toList.all Pl.blank = s.data.toList.all Pl.blank) ∧ wx = wr) (fun x _ => match x with | .string t => t.size | _ => 0)
      case atStart => exact ⟨t, ht, rfl, hp, rfl⟩
      case round =>
        clear hp ht
        obtain ⟨t, ht, rfl, hp, rfl⟩ := hrel
        by_cases h0 : 0 < t.size
        · have h8 : t[t.size - 1].toNat < 256 := UInt8.toNat_lt _
          have hc := fun w => specBlank t[t.size - 1] w
          cases hb : Pl.blank t[t.size - 1] <;> simp only [hb] at hc
          · have Hb : Hid (t.data.toList.all Pl.blank = false) := Pl.all_last Pl.blank t h0 hb
            clear hb
            go_wp2_with fail
            refine (hc _).mono ?_
            rintro e w2 ⟨rfl, rfl⟩
            go_wp2
            go_ret
            refine ⟨t, rfl, show _ ↔ _ from ?_, rfl⟩
            rw [← hp.out, Hb.out]
            exact ⟨fun h => by omega, fun h => by cases h⟩
          · have Hb : Hid ((t.extract 0 (t.size - 1)).data.toList.all Pl.blank = t.data.toList.all Pl.blank) := Pl.all_front Pl.blank t h0 hb
            clear hb
            go_wp2_with fail
            refine (hc _).mono ?_
            rintro e w2 ⟨rfl, rfl⟩
            go_wp2
            go_roundw
            case rel => exact ⟨_, by simp; omega, rfl, show _ = _ from Hb.out.trans hp.out, trivial⟩
            case measure => simp; omega
        · go_wp2
          go_ret
          refine ⟨t, rfl, show _ ↔ _ from ?_, rfl⟩
          rw [← hp.out, Pl.all_none Pl.blank t (by omega)]
          exact ⟨fun _ => rfl, fun _ => by omega⟩
end Go.Proofs.Ytffjgcpiamgejaa
