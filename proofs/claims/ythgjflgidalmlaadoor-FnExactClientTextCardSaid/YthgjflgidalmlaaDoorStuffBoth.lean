
/- The walks of the two Stuff. -/
import Derived.Test.YthgjflgidalmlaaDoorBase
import Derived.Test.YthgjflgidalmlaaDoorLinesBoth
import Derived.Test.YthgjflgidalmlaaDoorStuffPlain
namespace Go.Proofs.YthgjflgidalmlaaDoor
open Go.RowKit Go.Lib
set_option maxHeartbeats 400000 in
theorem specBegins (s : ByteArray) (w : World) (_hs : s.size ≤ 100000) :
    Calls Tryd.prog 28 #[.string s, .string ⟨#[46]⟩] w fun e w' => e = .returned (.bool (Pl.dot s.data.toList)) ∧ w = w' := by
  by_cases h : s.size = 0
  · have e : Pl.dot s.data.toList = false := by rw [List.length_eq_zero_iff.1 (show s.data.toList.length = 0 by simpa using h)]; rfl
    rw [e]
    clear e
    go_enter Tryd.func28, Tryd.ntmps28
    go_wp2
    go_ret
    exact ⟨rfl, rfl⟩
  · rw [← Pl.dot_ext]
    go_enter Tryd.func28, Tryd.ntmps28
    go_wp2
    go_ret
    exact ⟨rfl, rfl⟩
theorem libBegins (s : ByteArray) (w : World) :
    Calls Tryd.prog 39 #[.string s, .string ⟨#[46]⟩] w fun e w' => e = .returned (.bool (Pl.dot s.data.toList)) ∧ w = w' := by
  refine (Tryd.strings_HasPrefix s ⟨#[46]⟩ w).mono ?_
  rintro e w' ⟨rfl, rfl⟩
  exact ⟨rfl, rfl⟩
theorem OwnS.row {B : Nat} {v : Value} {ps : List (List UInt8)} {w : World} (h : OwnS B v ps w) : ∃ ao cap, v = .slice ao ps.length cap ∧ ∀ (j : Nat) (hj : j < ps.length), ∃ g, g < w.heap.size ∧ ao = some ⟨g, 0, none⟩ ∧ w.cell? ⟨g, j, none⟩ = some (txtL ps[j]) := by
  rcases h.form with ⟨hv, h0⟩ | ⟨g, cap, hv, hB, hg, -⟩
  · subst h0
    exact ⟨none, 0, hv, fun j hj => by simp at hj⟩
  · subst hv
    exact ⟨_, cap, rfl, fun j hj => ⟨g, hg, rfl, h.cell j hj⟩⟩
theorem lines_pack (s : ByteArray) : ∃ ls, ls = Pl.lines s.data.toList ∧ ls.length ≤ s.size ∧ (∀ k, (Pl.stuffL (ls.take k)).length ≤ 4 * s.size) ∧ ∀ (k : Nat) (h : k < ls.length), ls[k].length ≤ s.size := by
  have hll : s.data.toList.length = s.size := by simp
  refine ⟨_, rfl, ?_, ?_, ?_⟩
  · have := Pl.lines_total _ s.data.toList (Nat.le_refl _); omega
  · intro k; rw [← hll]; exact Pl.stuff_len s.data.toList k
  · intro k h; rw [← hll]; exact Pl.line_len s.data.toList k h
set_option maxHeartbeats 1000000 in
theorem specStuff (s : ByteArray) (w : World) (hs : s.size ≤ 100000) :
    Calls Tryd.prog 13 #[.string s] w fun e w' => e = .returned (.string ⟨(Pl.stuff s.data.toList).toArray⟩) ∧ Below w.heap.size w w' := by
  obtain ⟨i0, hi, hz0, hz1, hz2⟩ := info_parts Tryd.info5
  have hc0 : decide ((100000 : Int) < (s.size : Int)) = false := by simp; omega
  obtain ⟨ls, hls, htot, hlen, hline⟩ := lines_pack s
  have Hls : Hid (ls = Pl.lines s.data.toList) := hls
  clear hls
  go_enter Tryd.func13, Tryd.ntmps13
  go_wp2_with fail
  refine (specLines s _ hs).mono ?_
  rintro e w1 ⟨v, rfl, hownL, hb1⟩
  rw [← Hls.out] at hownL
  obtain ⟨ao, cap, hv, hrow⟩ := hownL.row
  rw [hv]
  have Hlen := mkHidL hlen
  have Hline := mkHidL hline
  clear hlen hline hownL hv
  go_wp2_with fail
  go_loopw [4, 5] (fun v i wr => ∃ (k : Nat), k ≤ ls.length ∧ i = .int .i64 k ∧ Own w1.heap.size v (Pl.stuffL (ls.take k)) wr ∧ Below w1.heap.size w1 wr) (fun _ i _ => ls.length - (RowKit.intOf i).toNat)
  case atStart => exact ⟨0, Nat.zero_le _, rfl, Own.made _ _ (Nat.le_refl _), (Below.refl _ _).alloc (Nat.le_refl _) _⟩
  case round =>
    obtain ⟨k, hk, rfl, hown, hb⟩ := hrel
    have hl0 := Hlen.out k
    by_cases hlt : k < ls.length
    · obtain ⟨g, hg, hao, hcell⟩ := hrow k hlt
      have hl1 := Hline.out k hlt
      have hstep : Hid (Pl.stuffL (ls.take (k + 1)) = Pl.stuffL (ls.take k) ++ Pl.sent ls[k]) := Pl.stuff_take ls k hlt
      have hc := (hb.cell (p := ⟨g, k, none⟩) hg).trans hcell
      unfold txtL at hc
      obtain ⟨x, hx⟩ : ∃ x, x = ls[k] := ⟨_, rfl⟩
      rw [← hx] at hc hl1 hstep
      generalize Pl.stuffL (ls.take k) = p at *
      unfold txtL at hcell
      rw [← hx] at hcell
      clear hrow hx
      subst hao
      by_cases hd : Pl.dot x = true
      · have Hd : Hid (Pl.dot x = true) := hd
        go_wp2_with fail
        refine (specBegins ⟨x.toArray⟩ _ (by rw [szL]; omega)).mono ?_
        rintro e w2 ⟨rfl, rfl⟩
        go_wp2_with (at_builtin; go_must (refine wp_app (W := w1) rfl _ _ 51 rfl i0 Tryd.underlying51 hi hz0 hz1 hz2 w1.heap.size u4 p rfl hown _ [46] rfl 1 1 rfl rfl (by simp; omega) (Nat.le_refl _) hb ?_; intro v2 w2 hown2 hb2; refine Hid.out ?_))
        refine mkHidL ?_
        have hc2 := (hb2.cell (p := ⟨g, k, none⟩) hg).trans hcell
        go_wp2_with (at_builtin; go_must (refine wp_apps (W := w1) rfl _ _ 51 9 rfl i0 Tryd.underlying51 Tryd.underlying9 hi hz0 hz1 hz2 w1.heap.size v2 _ rfl hown2 ⟨x.toArray⟩ rfl (by simp [szL]; omega) (Nat.le_refl _) hb2 ?_; intro v3 w3 hown3 hb3; refine Hid.out ?_))
        refine mkHidL ?_
        go_wp2_with (at_builtin; go_must (refine wp_app (W := w1) rfl _ _ 51 rfl i0 Tryd.underlying51 hi hz0 hz1 hz2 w1.heap.size v3 _ rfl hown3 _ [13, 10] rfl 2 2 rfl rfl (by simp; omega) (Nat.le_refl _) hb3 ?_; intro v4 w4 hown4 hb4))
        go_roundw
        case rel => exact ⟨k + 1, by omega, by go_num, by rw [hstep.out, Pl.sent, if_pos Hd.out]; simpa using hown4, hb4⟩
        case measure => simp [RowKit.intOf]; omega
      · rw [Bool.not_eq_true] at hd
        have Hd : Hid (Pl.dot x = false) := hd
        go_wp2_with fail
        refine (specBegins ⟨x.toArray⟩ _ (by rw [szL]; omega)).mono ?_
        rintro e w2 ⟨rfl, rfl⟩
        go_wp2_with (at_builtin; go_must (refine wp_apps (W := w1) rfl _ _ 51 9 rfl i0 Tryd.underlying51 Tryd.underlying9 hi hz0 hz1 hz2 w1.heap.size u4 p rfl hown ⟨x.toArray⟩ rfl (by simp [szL]; omega) (Nat.le_refl _) hb ?_; intro v3 w3 hown3 hb3; refine Hid.out ?_))
        refine mkHidL ?_
        go_wp2_with (at_builtin; go_must (refine wp_app (W := w1) rfl _ _ 51 rfl i0 Tryd.underlying51 hi hz0 hz1 hz2 w1.heap.size v3 _ rfl hown3 _ [13, 10] rfl 2 2 rfl rfl (by simp; omega) (Nat.le_refl _) hb3 ?_; intro v4 w4 hown4 hb4))
        go_roundw
        case rel => exact ⟨k + 1, by omega, by go_num, by rw [hstep.out, Pl.sent, if_neg (by rw [Hd.out]; simp)]; simpa using hown4, hb4⟩
        case measure => simp [RowKit.intOf]; omega
    · rw [List.take_of_length_le (by omega)] at hown hl0
      have Hf : Hid (Pl.stuffL ls ++ [46, 13, 10] = Pl.stuff s.data.toList) := by rw [Pl.stuff, ← Hls.out]; exact rfl
      generalize Pl.stuffL ls = p at *
      go_wp2_with (at_builtin; go_must (refine wp_app (W := w1) rfl _ _ 51 rfl i0 Tryd.underlying51 hi hz0 hz1 hz2 w1.heap.size u4 p rfl hown _ [46, 13, 10] rfl 3 3 rfl rfl (by simp; omega) (Nat.le_refl _) hb ?_; intro v' w' hown' hb'; have hbk' := hown'.back (P := Tryd.prog) 51 9 Tryd.underlying51 Tryd.underlying5 Tryd.underlying9))
      go_ret
      rw [← Hf.out]
      exact ⟨rfl, hb1.trans (hb'.mono hb1.size)⟩
set_option maxHeartbeats 1000000 in
theorem implStuff (s : ByteArray) (m : Int) (w : World) (hs : s.size ≤ 100000) (hm : w.cell? ⟨0, 0, none⟩ = some (.int .i64 m)) :
    Calls Tryd.prog 19 #[.string s] w fun e w' => e = .returned (.string ⟨(Pl.stuff s.data.toList).toArray⟩) ∧ Below w.heap.size w w' := by
  obtain ⟨i0, hi, hz0, hz1, hz2⟩ := info_parts Tryd.info5
  have hc0 : decide ((100000 : Int) < (s.size : Int)) = false := by simp; omega
  obtain ⟨ls, hls, htot, hlen, hline⟩ := lines_pack s
  have Hls : Hid (ls = Pl.lines s.data.toList) := hls
  clear hls
  go_enter Tryd.func19, Tryd.ntmps19
  go_wp2_with (first | (go_at_call 37; go_in) | fail)
  refine (implLines s m _ hs hm).mono ?_
  rintro e w1 ⟨v, rfl, hownL, hb1⟩
  rw [← Hls.out] at hownL
  obtain ⟨ao, cap, hv, hrow⟩ := hownL.row
  rw [hv]
  have Hlen := mkHidL hlen
  have Hline := mkHidL hline
  clear hlen hline hownL hv hm
  go_wp2_with fail
  go_loopw [3, 11] (fun v i wr => ∃ (k : Nat), k ≤ ls.length ∧ i = .int .i64 k ∧ Own w1.heap.size v (Pl.stuffL (ls.take k)) wr ∧ Below w1.heap.size w1 wr) (fun _ i _ => ls.length - (RowKit.intOf i).toNat)
  case atStart => exact ⟨0, Nat.zero_le _, rfl, Own.nil _ _, Below.refl _ _⟩
  case round =>
    obtain ⟨k, hk, rfl, hown, hb⟩ := hrel
    have hl0 := Hlen.out k
    by_cases hlt : k < ls.length
    · obtain ⟨g, hg, hao, hcell⟩ := hrow k hlt
      have hl1 := Hline.out k hlt
      have hstep : Hid (Pl.stuffL (ls.take (k + 1)) = Pl.stuffL (ls.take k) ++ Pl.sent ls[k]) := Pl.stuff_take ls k hlt
      have hc := (hb.cell (p := ⟨g, k, none⟩) hg).trans hcell
      unfold txtL at hc
      obtain ⟨x, hx⟩ : ∃ x, x = ls[k] := ⟨_, rfl⟩
      rw [← hx] at hc hl1 hstep
      generalize Pl.stuffL (ls.take k) = p at *
      clear hrow hx hcell
      subst hao
      by_cases hd : Pl.dot x = true
      · have Hd : Hid (Pl.dot x = true) := hd
        go_wp2_with fail
        refine (libBegins ⟨x.toArray⟩ _).mono ?_
        rintro e w2 ⟨rfl, rfl⟩
        go_wp2_with (at_builtin; go_must (refine wp_app (W := w1) rfl _ _ 51 rfl i0 Tryd.underlying51 hi hz0 hz1 hz2 w1.heap.size u3 p rfl hown _ [46] rfl 1 1 rfl rfl (by simp; omega) (Nat.le_refl _) hb ?_; intro v2 w2 hown2 hb2; refine Hid.out ?_))
        refine mkHidL ?_
        go_wp2_with (at_builtin; go_must (refine wp_apps (W := w1) rfl _ _ 51 9 rfl i0 Tryd.underlying51 Tryd.underlying9 hi hz0 hz1 hz2 w1.heap.size v2 _ rfl hown2 ⟨x.toArray⟩ rfl (by simp [szL]; omega) (Nat.le_refl _) hb2 ?_; intro v3 w3 hown3 hb3; refine Hid.out ?_))
        refine mkHidL ?_
        go_wp2_with (at_builtin; go_must (refine wp_apps (W := w1) rfl _ _ 51 9 rfl i0 Tryd.underlying51 Tryd.underlying9 hi hz0 hz1 hz2 w1.heap.size v3 _ rfl hown3 ⟨#[13, 10]⟩ rfl (by simp [ByteArray.size]; omega) (Nat.le_refl _) hb3 ?_; intro v4 w4 hown4 hb4))
        go_roundw
        case rel => exact ⟨k + 1, by omega, by go_num, by rw [hstep.out, Pl.sent, if_pos Hd.out]; simpa using hown4, hb4⟩
        case measure => simp [RowKit.intOf]; omega
      · rw [Bool.not_eq_true] at hd
        have Hd : Hid (Pl.dot x = false) := hd
        go_wp2_with fail
        refine (libBegins ⟨x.toArray⟩ _).mono ?_
        rintro e w2 ⟨rfl, rfl⟩
        go_wp2_with (at_builtin; go_must (refine wp_apps (W := w1) rfl _ _ 51 9 rfl i0 Tryd.underlying51 Tryd.underlying9 hi hz0 hz1 hz2 w1.heap.size u3 p rfl hown ⟨x.toArray⟩ rfl (by simp [szL]; omega) (Nat.le_refl _) hb ?_; intro v3 w3 hown3 hb3; refine Hid.out ?_))
        refine mkHidL ?_
        go_wp2_with (at_builtin; go_must (refine wp_apps (W := w1) rfl _ _ 51 9 rfl i0 Tryd.underlying51 Tryd.underlying9 hi hz0 hz1 hz2 w1.heap.size v3 _ rfl hown3 ⟨#[13, 10]⟩ rfl (by simp [ByteArray.size]; omega) (Nat.le_refl _) hb3 ?_; intro v4 w4 hown4 hb4))
        go_roundw
        case rel => exact ⟨k + 1, by omega, by go_num, by rw [hstep.out, Pl.sent, if_neg (by rw [Hd.out]; simp)]; simpa using hown4, hb4⟩
        case measure => simp [RowKit.intOf]; omega
    · rw [List.take_of_length_le (by omega)] at hown hl0
      have Hf : Hid (Pl.stuffL ls ++ [46, 13, 10] = Pl.stuff s.data.toList) := by rw [Pl.stuff, ← Hls.out]; exact rfl
      generalize Pl.stuffL ls = p at *
      go_wp2_with (at_builtin; go_must (refine wp_apps (W := w1) rfl _ _ 51 9 rfl i0 Tryd.underlying51 Tryd.underlying9 hi hz0 hz1 hz2 w1.heap.size u3 p rfl hown ⟨#[46, 13, 10]⟩ rfl (by simp [ByteArray.size]; omega) (Nat.le_refl _) hb ?_; intro v' w' hown' hb'; have hbk' := hown'.back (P := Tryd.prog) 51 9 Tryd.underlying51 Tryd.underlying5 Tryd.underlying9))
      go_ret
      rw [← Hf.out]
      exact ⟨by simp, hb1.trans (hb'.mono hb1.size)⟩
end Go.Proofs.YthgjflgidalmlaaDoor
