/- The walk of Unstuff. -/
import Derived.Test.YtpnebokcddgahaiUnstuff
import Derived.Deep.RegionWith
namespace Go.Proofs.Ytpnebokcddgahai
open Go.RowKit Go.Lib
theorem libUndot (x : List UInt8) (w : World) :
    Calls Try.prog 26 #[.string ⟨x.toArray⟩, .string ⟨#[46]⟩] w fun e w' => e = .returned (.string ⟨(Pl.undot x).toArray⟩) ∧ w = w' := by
  refine (Try.strings_TrimPrefix ⟨x.toArray⟩ ⟨#[46]⟩ w).mono ?_
  rintro e w' ⟨rfl, rfl⟩
  exact ⟨rfl, rfl⟩
theorem Own.keep {B C : Nat} {v : Value} {ps : List UInt8} {w w' : World} (h : Own B v ps w) (hC : w.heap.size ≤ C) (hb : Below C w w') : Own B v ps w' := by
  refine ⟨h.1, ?_⟩
  rcases h.2 with h | ⟨g, cap, cur, h1, h2, h3, h4⟩
  · exact .inl h
  · refine .inr ⟨g, cap, cur, h1, h2, ?_, h4⟩
    have hg : g < w.heap.size := by
      by_cases hg : g < w.heap.size
      · exact hg
      · rw [Array.getElem?_eq_none (by omega)] at h3; cases h3
    rw [hb.block g (by omega), h3]
set_option maxHeartbeats 2000000 in
theorem implUnstuff (s : ByteArray) (m : Int) (w : World) (hs : s.size ≤ 100000) (hm : w.cell? ⟨0, 0, none⟩ = some (.int .i64 m)) :
    Calls Try.prog 17 #[.string s] w fun e w' => e = .returned (cutV (Pl.un s.data.toList [])) ∧ Below w.heap.size w w' := by
  obtain ⟨i0, hi, hz0, hz1, hz2⟩ := info_parts Try.info5
  have hc0 : decide ((100000 : Int) < (s.size : Int)) = false := by simp; omega
  have h0 := zero_lt hm
  go_enter Try.func17, Try.ntmps17
  go_wp2
  have hroom := mkHid (room w)
  obtain ⟨W, hW⟩ : ∃ W, W = w.alloc (.cells #[.bool false, .string ⟨#[]⟩, .string ⟨#[]⟩] 29) := ⟨_, rfl⟩
  rw [← hW] at hroom
  have HW := mkHid hW
  clear hW
  go_loopw [0, 3] (fun t v wr => ∃ (r p : List UInt8), t = .string ⟨r.toArray⟩ ∧ r.length + p.length ≤ s.size ∧ Hid (Pl.un r p = Pl.un s.data.toList []) ∧ Own W.heap.size v p wr ∧ Below W.heap.size W wr) (fun t _ _ => strLen t)
  case atStart =>
    refine ⟨s.data.toList, [], rfl, by simp, rfl, Own.nil _ _, ?_⟩
    rw [← HW.out]
    exact Below.refl _ _
  case round =>
    obtain ⟨r, p, rfl, hpl, hp, hown, hb⟩ := hrel
    have hWs := hroom.out.size
    have hfin : Below w.heap.size w wr := hroom.out.below.trans (hb.mono (by omega))
    have hmr : wr.cell? ⟨0, 0, none⟩ = some (.int .i64 m) := (hfin.cell (p := ⟨0, 0, none⟩) h0).trans hm
    have hszr := hb.size
    obtain ⟨x, y, c, hcut⟩ : ∃ x y c, cut r Pl.crs = (x, y, c) := ⟨_, _, _, rfl⟩
    have Hcut := mkHid hcut
    go_wp2_with fail
    refine (libCut r x y c hcut m _ (by omega) hmr).mono ?_
    rintro e w1 ⟨rfl, hb1⟩
    have hown1 := hown.keep (Nat.le_refl _) hb1
    have hbW1 : Below W.heap.size W w1 := hb.trans (hb1.mono hszr)
    obtain ⟨q0, q1, q2, g0, g1, g2⟩ := hroom.out.on hbW1
    have hfin1 : Below w.heap.size w w1 := hroom.out.below.trans (hbW1.mono (by omega))
    have hsz1 := hbW1.size
    clear hcut hown hb hb1 hmr hfin
    cases c with
    | false =>
      have hnone : Hid (Pl.un s.data.toList [] = none) := by rw [← hp.out]; exact Pl.un_none _ _ _ _ Hcut.out
      go_wp2
      refine bodyPost_ret (v := cutV none) (by simp [results, Try.results17, go_sem, cutV, q0, q1, q2]) rfl ⟨by rw [hnone.out], ?_⟩
      exact (((hfin1.setCell (p := ⟨w.heap.size, 0, none⟩) (Nat.le_refl _) _).setCell (p := ⟨w.heap.size, 1, none⟩) (Nat.le_refl _) _).setCell (p := ⟨w.heap.size, 2, none⟩) (Nat.le_refl _) _)
    | true =>
      have hfound := Pl.cut_found r (by rw [Hcut.out])
      rw [Hcut.out] at hfound
      simp only at hfound
      by_cases hd : x = [46]
      · subst hd
        have hdone : Hid (Pl.un s.data.toList [] = some (p, y)) := by rw [← hp.out]; exact Pl.un_done _ p _ Hcut.out
        have hbk := (show Own W.heap.size u3 p w1.drew from hown1).back (P := Try.prog) 35 9 Try.underlying35 Try.underlying5 Try.underlying9
        clear hp Hcut
        go_wp2_with fail
        go_region_with (go_at_call 21; (refine (libClone ⟨y.toArray⟩ _ (by rw [sz]; omega)).mono ?_; rintro e w2 ⟨rfl, hb2⟩; have hbk2 := ((show Own W.heap.size u3 p w1.drew from hown1).keep (Nat.le_refl _) hb2).back (P := Try.prog) 35 9 Try.underlying35 Try.underlying5 Try.underlying9; obtain ⟨q0', q1', q2', g0', g1', g2'⟩ := hroom.out.on (hbW1.drew.trans (hb2.mono hsz1))))
        all_goals
          have hfin2 : Below w.heap.size w w2 := hroom.out.below.trans ((hbW1.drew.trans (hb2.mono hsz1)).mono (by omega))
          go_wp2
          refine bodyPost_ret (v := cutV (some (p, y))) (by simp [results, Try.results17, go_sem, cutV, txt, q0', q1', q2']) rfl ⟨by rw [hdone.out], ?_⟩
          have hfin3 := fun v0 v1 v2 => (((hfin2.setCell (p := ⟨w.heap.size, 0, none⟩) (Nat.le_refl _) v0).setCell (p := ⟨w.heap.size, 1, none⟩) (Nat.le_refl _) v1).setCell (p := ⟨w.heap.size, 2, none⟩) (Nat.le_refl _) v2)
          first | exact hfin3 _ _ _ | exact (hfin3 _ _ _).drew
      · have hxd := beq_dot x false (by simp [hd])
        have hstep : Hid (Pl.un y (p ++ Pl.undot x ++ [13, 10]) = Pl.un s.data.toList []) := by rw [← hp.out, Pl.un_step _ p x _ Hcut.out hd]; exact rfl
        have hul := Pl.undot_len x
        clear hp Hcut hd
        go_wp2_with fail
        refine (libUndot x _).mono ?_
        rintro e w2 ⟨rfl, rfl⟩
        generalize Pl.undot x = z at hstep hul
        go_wp2_with (at_builtin; go_must (refine wp_apps (W := W) rfl _ _ 35 9 rfl i0 Try.underlying35 Try.underlying9 hi hz0 hz1 hz2 W.heap.size u3 p rfl hown1 ⟨z.toArray⟩ rfl (by simp [sz]; omega) (Nat.le_refl _) hbW1 ?_; intro v3 w3 hown3 hb3; refine Hid.out ?_))
        refine mkHid ?_
        go_wp2_with (at_builtin; go_must (refine wp_apps (W := W) rfl _ _ 35 9 rfl i0 Try.underlying35 Try.underlying9 hi hz0 hz1 hz2 W.heap.size v3 _ rfl hown3 ⟨#[13, 10]⟩ rfl (by simp [ByteArray.size]; omega) (Nat.le_refl _) hb3 ?_; intro v4 w4 hown4 hb4))
        go_roundw
        case rel => exact ⟨_, by simp; omega, hstep, by rw [← hWs]; exact hown4, by rw [← hWs]; exact hb4⟩
        case measure => simp [strLen_mk]; omega
end Go.Proofs.Ytpnebokcddgahai
