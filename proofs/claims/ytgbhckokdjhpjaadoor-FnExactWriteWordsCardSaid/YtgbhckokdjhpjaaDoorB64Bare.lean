/- The walk of the digits without line ends, in the model. -/
import Derived.Test.YtgbhckokdjhpjaaDoorChecked
import Derived.Test.YtgbhckokdjhpjaaDoorB64Plain
import Derived.Test.YtgbhckokdjhpjaaDoorBytes
import Derived.Test.YtgbhckokdjhpjaaDoorPuts
import Derived.WalkKit
import Derived.WalkSmall
import Derived.WalkLawsBesides
import Derived.WalkSpells
namespace Go.Proofs.YtgbhckokdjhpjaaDoor
open Go.RowKit Go.Lib
set_option maxHeartbeats 400000 in
theorem specDigit (v : Int) (n : Nat) (hv : v = n) (w : World) (hn : n < 64) :
    Calls Tryd.prog 17 #[.int .i64 v] w fun e w' => e = .returned (.int .u8 ((Pb.d64 n).toNat : Int)) ∧ w = w' := by
  subst hv
  by_cases h1 : n < 26
  · rw [Pb.d64_a n h1]
    go_enter Tryd.func17, Tryd.ntmps17
    go_wp2
    go_ret
    exact ⟨rfl, rfl⟩
  by_cases h2 : n < 52
  · rw [Pb.d64_b n (by omega) h2]
    go_enter Tryd.func17, Tryd.ntmps17
    go_wp2
    go_ret
    exact ⟨rfl, rfl⟩
  by_cases h3 : n < 62
  · rw [Pb.d64_c n (by omega) h3]
    go_enter Tryd.func17, Tryd.ntmps17
    go_wp2
    go_ret
    exact ⟨rfl, rfl⟩
  by_cases h4 : n = 62
  · subst h4
    go_enter Tryd.func17, Tryd.ntmps17
    go_wp2
    go_ret
    exact ⟨rfl, rfl⟩
  · have h5 : n = 63 := by omega
    subst h5
    go_enter Tryd.func17, Tryd.ntmps17
    go_wp2
    go_ret
    exact ⟨rfl, rfl⟩
theorem specDig (d : UInt8) (v : Int) (n : Nat) (w : World) (hd : Hid (Pb.d64 n = d)) (hv : v = n) (hn : n < 64) :
    Calls Tryd.prog 17 #[.int .i64 v] w fun e w' => e = .returned (.int .u8 (d.toNat : Int)) ∧ w = w' := by
  rw [← hd.out]
  exact specDigit v n hv w hn
set_option maxRecDepth 100000 in
set_option maxHeartbeats 2000000 in
theorem specBare (s : ByteArray) (w : World) (hs : s.size ≤ 100000) :
    Calls Tryd.prog 11 #[.string s] w fun e w' => e = .returned (.string ⟨(Pb.bare s.data.toList).toArray⟩) ∧ Below w.heap.size w w' := by
  obtain ⟨i0, hi, hz0, hz1, hz2⟩ := info_parts Tryd.info5
  go_enter Tryd.func11, Tryd.ntmps11
  go_wp2
  go_loopw [3, 4] (fun v i wr => ∃ (k : Nat) (p : List UInt8), k ≤ s.size + 2 ∧ i = .int .i64 k ∧ p.length ≤ 2 * k ∧ Hid (p ++ Pb.bare (s.data.toList.drop k) = Pb.bare s.data.toList) ∧ Own w.heap.size v p wr ∧ Below w.heap.size w wr) (fun _ i _ => s.size + 3 - (RowKit.intOf i).toNat)
  case atStart => exact ⟨0, [], Nat.zero_le _, rfl, by simp, rfl, Own.made _ _ (Nat.le_refl _), (Below.refl _ _).alloc (Nat.le_refl _) _⟩
  case round =>
    obtain ⟨k, p, hk, rfl, hpl, hp, hown, hb⟩ := hrel
    by_cases hlt : k < s.size
    · have ha : s[k].toNat < 256 := UInt8.toNat_lt _
      by_cases h2 : k + 2 < s.size
      · have hb8 : s[k + 1].toNat < 256 := UInt8.toNat_lt _
        have hc8 : s[k + 2].toNat < 256 := UInt8.toNat_lt _
        have hst : Hid ((p ++ Pb.group s[k] s[k + 1] s[k + 2]) ++ Pb.bare (s.data.toList.drop (k + 3)) = Pb.bare s.data.toList) := Pb.step3 _ p k (by simp; omega) hp
        unfold Pb.group at hst
        generalize g1 : Pb.d64 (s[k].toNat / 4) = d1 at hst
        generalize g2 : Pb.d64 (s[k].toNat % 4 * 16 + s[k + 1].toNat / 16) = d2 at hst
        generalize g3 : Pb.d64 (s[k + 1].toNat % 16 * 4 + s[k + 2].toNat / 64) = d3 at hst
        generalize g4 : Pb.d64 (s[k + 2].toNat % 64) = d4 at hst
        have G1 := mkHid g1
        have G2 := mkHid g2
        have G3 := mkHid g3
        have G4 := mkHid g4
        clear g1 g2 g3 g4 hp
        go_wp2_with fail
        refine (specDig d1 _ _ _ G1 (by omega) (by omega)).mono ?_
        rintro e w2 ⟨rfl, rfl⟩
        go_wp2_with fail
        refine (specDig d2 _ _ _ G2 (by omega) (by omega)).mono ?_
        rintro e w2 ⟨rfl, rfl⟩
        go_wp2_with (first | (at_builtin; go_must (refine wp_app (W := w) rfl _ _ 27 rfl i0 Tryd.underlying27 hi hz0 hz1 hz2 w.heap.size u3 p rfl hown _ [d1, d2] rfl 2 2 rfl rfl (by simp; omega) (Nat.le_refl _) hb ?_; intro v1 w1 hown1 hb1; refine Hid.out ?_)) | fail)
        refine mkHid ?_
        go_wp2_with fail
        refine (specDig d3 _ _ _ G3 (by omega) (by omega)).mono ?_
        rintro e w2 ⟨rfl, rfl⟩
        go_wp2_with (first | (at_builtin; go_must (refine wp_app (W := w) rfl _ _ 27 rfl i0 Tryd.underlying27 hi hz0 hz1 hz2 w.heap.size v1 _ rfl hown1 _ [d3] rfl 1 1 rfl rfl (by simp; omega) (Nat.le_refl _) hb1 ?_; intro v2 w2 hown2 hb2; refine Hid.out ?_)) | fail)
        refine mkHid ?_
        go_wp2_with fail
        refine (specDig d4 _ _ _ G4 (by omega) (by omega)).mono ?_
        rintro e w2' ⟨rfl, rfl⟩
        go_wp2_with (first | (at_builtin; go_must (refine wp_app (W := w) rfl _ _ 27 rfl i0 Tryd.underlying27 hi hz0 hz1 hz2 w.heap.size v2 _ rfl hown2 _ [d4] rfl 1 1 rfl rfl (by simp; omega) (Nat.le_refl _) hb2 ?_; intro v3 w3 hown3 hb3)) | fail)
        go_roundw
        case rel => exact ⟨k + 3, _, by omega, by go_num, by simp; omega, hst, by simpa using hown3, hb3⟩
        case measure => simp [RowKit.intOf]; omega
      · by_cases h1 : k + 1 < s.size
        · have hb8 : s[k + 1].toNat < 256 := UInt8.toNat_lt _
          have hst : Hid ((p ++ [Pb.d64 (s[k].toNat / 4), Pb.d64 (s[k].toNat % 4 * 16 + s[k + 1].toNat / 16), Pb.d64 (s[k + 1].toNat % 16 * 4), 61]) ++ Pb.bare (s.data.toList.drop (k + 3)) = Pb.bare s.data.toList) := Pb.step2 _ p k (by simp; omega) hp
          generalize g1 : Pb.d64 (s[k].toNat / 4) = d1 at hst
          generalize g2 : Pb.d64 (s[k].toNat % 4 * 16 + s[k + 1].toNat / 16) = d2 at hst
          generalize g3 : Pb.d64 (s[k + 1].toNat % 16 * 4) = d3 at hst
          have G1 := mkHid g1
          have G2 := mkHid g2
          have G3 := mkHid g3
          clear g1 g2 g3 hp
          go_wp2_with fail
          refine (specDig d1 _ _ _ G1 (by omega) (by omega)).mono ?_
          rintro e w2 ⟨rfl, rfl⟩
          go_wp2_with fail
          refine (specDig d2 _ _ _ G2 (by omega) (by omega)).mono ?_
          rintro e w2 ⟨rfl, rfl⟩
          go_wp2_with (first | (at_builtin; go_must (refine wp_app (W := w) rfl _ _ 27 rfl i0 Tryd.underlying27 hi hz0 hz1 hz2 w.heap.size u3 p rfl hown _ [d1, d2] rfl 2 2 rfl rfl (by simp; omega) (Nat.le_refl _) hb ?_; intro v1 w1 hown1 hb1; refine Hid.out ?_)) | fail)
          refine mkHid ?_
          go_wp2_with fail
          refine (specDig d3 _ _ _ G3 (by omega) (by omega)).mono ?_
          rintro e w2 ⟨rfl, rfl⟩
          go_wp2_with (first | (at_builtin; go_must (refine wp_app (W := w) rfl _ _ 27 rfl i0 Tryd.underlying27 hi hz0 hz1 hz2 w.heap.size v1 _ rfl hown1 _ [d3] rfl 1 1 rfl rfl (by simp; omega) (Nat.le_refl _) hb1 ?_; intro v2 w2 hown2 hb2; refine Hid.out ?_)) | fail)
          refine mkHid ?_
          go_wp2_with (first | (at_builtin; go_must (refine wp_app (W := w) rfl _ _ 27 rfl i0 Tryd.underlying27 hi hz0 hz1 hz2 w.heap.size v2 _ rfl hown2 _ [61] rfl 1 1 rfl rfl (by simp; omega) (Nat.le_refl _) hb2 ?_; intro v3 w3 hown3 hb3)) | fail)
          go_roundw
          case rel => exact ⟨k + 3, _, by omega, by go_num, by simp; omega, hst, by simpa using hown3, hb3⟩
          case measure => simp [RowKit.intOf]; omega
        · have hst : Hid ((p ++ [Pb.d64 (s[k].toNat / 4), Pb.d64 (s[k].toNat % 4 * 16), 61, 61]) ++ Pb.bare (s.data.toList.drop (k + 3)) = Pb.bare s.data.toList) := Pb.step1 _ p k (by simp; omega) hp
          generalize g1 : Pb.d64 (s[k].toNat / 4) = d1 at hst
          generalize g2 : Pb.d64 (s[k].toNat % 4 * 16) = d2 at hst
          have G1 := mkHid g1
          have G2 := mkHid g2
          clear g1 g2 hp
          go_wp2_with fail
          refine (specDig d1 _ _ _ G1 (by omega) (by omega)).mono ?_
          rintro e w2 ⟨rfl, rfl⟩
          go_wp2_with fail
          refine (specDig d2 _ _ _ G2 (by omega) (by omega)).mono ?_
          rintro e w2 ⟨rfl, rfl⟩
          go_wp2_with (first | (at_builtin; go_must (refine wp_app (W := w) rfl _ _ 27 rfl i0 Tryd.underlying27 hi hz0 hz1 hz2 w.heap.size u3 p rfl hown _ [d1, d2] rfl 2 2 rfl rfl (by simp; omega) (Nat.le_refl _) hb ?_; intro v1 w1 hown1 hb1; refine Hid.out ?_)) | fail)
          refine mkHid ?_
          go_wp2_with (first | (at_builtin; go_must (refine wp_app (W := w) rfl _ _ 27 rfl i0 Tryd.underlying27 hi hz0 hz1 hz2 w.heap.size v1 _ rfl hown1 _ [61] rfl 1 1 rfl rfl (by simp; omega) (Nat.le_refl _) hb1 ?_; intro v2 w2 hown2 hb2; refine Hid.out ?_)) | fail)
          refine mkHid ?_
          go_wp2_with (first | (at_builtin; go_must (refine wp_app (W := w) rfl _ _ 27 rfl i0 Tryd.underlying27 hi hz0 hz1 hz2 w.heap.size v2 _ rfl hown2 _ [61] rfl 1 1 rfl rfl (by simp; omega) (Nat.le_refl _) hb2 ?_; intro v3 w3 hown3 hb3)) | fail)
          go_roundw
          case rel => exact ⟨k + 3, _, by omega, by go_num, by simp; omega, hst, by simpa using hown3, hb3⟩
          case measure => simp [RowKit.intOf]; omega
    · have hpn : Hid (p = Pb.bare s.data.toList) := Pb.step0 _ p k (by simp; omega) hp
      have hbk := hown.back (P := Tryd.prog) 27 9 Tryd.underlying27 Tryd.underlying5 Tryd.underlying9
      clear hp
      go_wp2
      go_ret
      rw [← hpn.out]
      exact ⟨rfl, hb⟩
end Go.Proofs.YtgbhckokdjhpjaaDoor
