
/- The walk of the program's Unstuff. -/
import Derived.Test.YtdhojelfegoalaaUnstuffSpec
import Derived.Deep.RegionWith
namespace Go.Proofs.Ytdhojelfegoalaa
open Go.RowKit Go.Lib
set_option maxRecDepth 20000 in
theorem libUndot (x : List UInt8) (w : World) :
    Calls Try.prog 16 #[.string ⟨x.toArray⟩, .string ⟨#[46]⟩] w fun e w' => e = .returned (.string ⟨(Pl.undot x).toArray⟩) ∧ w = w' := by
  refine (Try.strings_TrimPrefix ⟨x.toArray⟩ ⟨#[46]⟩ w).mono ?_
  rintro e w' ⟨rfl, rfl⟩
  exact ⟨rfl, rfl⟩
set_option maxRecDepth 20000 in
theorem Own.keepU {B C : Nat} {v : Value} {ps : List UInt8} {w w' : World} (h : Own B v ps w) (hC : w.heap.size ≤ C) (hb : Below C w w') : Own B v ps w' := by
  refine ⟨h.1, ?_⟩
  rcases h.2 with h | ⟨g, cap, cur, h1, h2, h3, h4⟩
  · exact .inl h
  · refine .inr ⟨g, cap, cur, h1, h2, ?_, h4⟩
    have hg : g < w.heap.size := by
      by_cases hg : g < w.heap.size
      · exact hg
      · rw [Array.getElem?_eq_none (by omega)] at h3; cases h3
    rw [hb.block g (by omega), h3]
def thru (z : Int) (n : Nat) : Int := if z < 0 then 0 else z + n
set_option maxRecDepth 20000 in
set_option maxHeartbeats 400000 in
theorem implSizeThrough (s p : ByteArray) (m : Int) (w : World) (hs : s.size ≤ 1048576) (hm : w.cell? ⟨0, 0, none⟩ = some (.int .i64 m)) :
    Calls Try.prog 20 #[.string s, .string p] w fun e w' => e = .returned (.int .i64 (thru (index s.data.toList p.data.toList) p.size)) ∧ w = w' := by
  have hI := mkHidL ((Try.strings_Index s p m w (by omega) hm).mono (R' := fun e w' => e = .returned (.int .i64 (index s.data.toList p.data.toList)) ∧ w = w') fun _ _ h => ⟨h.1, h.2.symm⟩)
  have hg := index_ge s.data.toList p.data.toList
  have hr := index_room s.data.toList p.data.toList
  have e1 : s.data.toList.length = s.size := by simp
  have e2 : p.data.toList.length = p.size := by simp
  rw [e1, e2] at hr
  clear hm e1 e2
  generalize index s.data.toList p.data.toList = z at *
  unfold thru
  by_cases h : z < 0
  · rw [if_pos h]
    go_enter Try.func20, Try.ntmps20
    go_wp2_with fail
    refine hI.out.mono ?_
    rintro e w1 ⟨rfl, rfl⟩
    go_wp2
    go_ret
    exact ⟨rfl, rfl⟩
  · rw [if_neg h]
    have hr2 := hr (by omega)
    clear hr
    go_enter Try.func20, Try.ntmps20
    go_wp2_with fail
    refine hI.out.mono ?_
    rintro e w1 ⟨rfl, rfl⟩
    go_wp2
    go_ret
    exact ⟨by go_num, rfl⟩
set_option maxRecDepth 20000 in
set_option maxHeartbeats 400000 in
theorem implStuffedSize (s : ByteArray) (m : Int) (w : World) (hs : s.size ≤ 1048576) (hm : w.cell? ⟨0, 0, none⟩ = some (.int .i64 m)) :
    Calls Try.prog 15 #[.string s] w fun e w' => e = .returned (.int .i64 (Pl.stSize s.data.toList : Nat)) ∧ w = w' := by
  have hP : Hid (Calls Try.prog 14 #[.string s, .string ⟨#[46, 13, 10]⟩] w fun e w' => e = .returned (.bool (hasPrefix s.data.toList Pl.last)) ∧ w = w') := (Try.strings_HasPrefix s ⟨#[46, 13, 10]⟩ w).mono fun _ _ h => ⟨h.1, h.2.symm⟩
  have hT : Hid (Calls Try.prog 20 #[.string s, .string ⟨#[13, 10, 46, 13, 10]⟩] w fun e w' => e = .returned (.int .i64 (thru (index s.data.toList Pl.piece) 5)) ∧ w = w') := implSizeThrough s ⟨#[13, 10, 46, 13, 10]⟩ m w hs hm
  have hR : (Pl.stSize s.data.toList : Int) = if hasPrefix s.data.toList Pl.last = true then 3 else thru (index s.data.toList Pl.piece) 5 := by
    unfold Pl.stSize thru
    split
    · rfl
    · split
      · rfl
      · have := index_ge s.data.toList Pl.piece
        omega
  rw [hR]
  clear hR hm
  generalize thru (index s.data.toList Pl.piece) 5 = z at *
  cases hb : hasPrefix s.data.toList Pl.last
  · rw [hb] at hP
    clear hb
    go_enter Try.func15, Try.ntmps15
    go_wp2_with fail
    refine hP.out.mono ?_
    rintro e w1 ⟨rfl, rfl⟩
    go_wp2_with fail
    refine hT.out.mono ?_
    rintro e w1 ⟨rfl, rfl⟩
    go_wp2
    go_ret
    exact ⟨rfl, rfl⟩
  · rw [hb] at hP
    clear hb
    go_enter Try.func15, Try.ntmps15
    go_wp2_with fail
    refine hP.out.mono ?_
    rintro e w1 ⟨rfl, rfl⟩
    go_wp2
    go_ret
    exact ⟨rfl, rfl⟩
def unOf (s : ByteArray) : Option (List UInt8 × List UInt8) := if s.size ≤ 100000 then Pl.un s.data.toList [] else none
set_option maxRecDepth 20000 in
set_option maxHeartbeats 2000000 in
theorem implUnstuff (s : ByteArray) (m : Int) (w : World) (hs : s.size ≤ 1048576) (hm : w.cell? ⟨0, 0, none⟩ = some (.int .i64 m)) :
    Calls Try.prog 8 #[.string s] w fun e w' => e = .returned (cutV (unOf s)) ∧ Below w.heap.size w w' := by
  obtain ⟨i0, hi, hz0, hz1, hz2⟩ := info_parts Try.info5
  have h0 := zero_ltL hm
  have hroom := mkHidL (room w)
  obtain ⟨W, hW⟩ : ∃ W, W = w.alloc (.cells #[.bool false, .string ⟨#[]⟩, .string ⟨#[]⟩] 25) := ⟨_, rfl⟩
  rw [← hW] at hroom
  have hmW : W.cell? ⟨0, 0, none⟩ = some (.int .i64 m) := (hroom.out.below.cell (p := ⟨0, 0, none⟩) h0).trans hm
  have HW := mkHidL hW
  have cS := mkHidL (implStuffedSize s m W hs hmW)
  have hle := Pl.st_le s.data.toList
  have h3 := Pl.st_three s.data.toList
  rw [show s.data.toList.length = s.size by simp] at hle
  have hat := mkHidL (Pl.un_at s.data.toList)
  clear hW hm
  obtain ⟨n, hn⟩ : ∃ n, Pl.stSize s.data.toList = n := ⟨_, rfl⟩
  rw [hn] at cS hle h3 hat
  clear hn
  by_cases hbig : 100000 < s.size
  · have hc0 : decide ((100000 : Int) < (s.size : Int)) = true := by simp; omega
    have hR : unOf s = none := by unfold unOf; rw [if_neg (by omega)]
    rw [hR]
    clear hR hat h3
    obtain ⟨q0, q1, q2, g0, g1, g2⟩ := hroom.out.on (Below.refl _ _)
    go_enter Try.func8, Try.ntmps8
    go_wp2_with fail
    rw [← HW.out]
    refine cS.out.mono ?_
    rintro e w1 ⟨rfl, rfl⟩
    go_wp2
    refine bodyPost_ret (v := cutV none) (by simp [results, Try.results8, go_sem, cutV, q0, q1, q2]) rfl ⟨rfl, ?_⟩
    exact (((hroom.out.below.setCell (p := ⟨w.heap.size, 0, none⟩) (Nat.le_refl _) _).setCell (p := ⟨w.heap.size, 1, none⟩) (Nat.le_refl _) _).setCell (p := ⟨w.heap.size, 2, none⟩) (Nat.le_refl _) _)
  · have hc0 : decide ((100000 : Int) < (s.size : Int)) = false := by simp; omega
    have hR : unOf s = Pl.un s.data.toList [] := by unfold unOf; rw [if_pos (by omega)]
    rw [hR, hat.out]
    clear hR hat
    by_cases hn : n = 0
    · subst hn
      rw [if_pos rfl]
      obtain ⟨q0, q1, q2, g0, g1, g2⟩ := hroom.out.on (Below.refl _ _)
      go_enter Try.func8, Try.ntmps8
      go_wp2_with fail
      rw [← HW.out]
      refine cS.out.mono ?_
      rintro e w1 ⟨rfl, rfl⟩
      go_wp2
      refine bodyPost_ret (v := cutV none) (by simp [results, Try.results8, go_sem, cutV, q0, q1, q2]) rfl ⟨rfl, ?_⟩
      exact (((hroom.out.below.setCell (p := ⟨w.heap.size, 0, none⟩) (Nat.le_refl _) _).setCell (p := ⟨w.heap.size, 1, none⟩) (Nat.le_refl _) _).setCell (p := ⟨w.heap.size, 2, none⟩) (Nat.le_refl _) _)
    · rw [if_neg hn]
      have hk3 := h3 hn
      clear h3 hn
      obtain ⟨k, rfl⟩ : ∃ k, n = k + 3 := ⟨n - 3, by omega⟩
      clear hk3
      rw [show k + 3 - 3 = k by omega]
      have hrest : s.extract (k + 3) s.size = ⟨(s.data.toList.drop (k + 3)).toArray⟩ := by rw [Pl.ext_mk, List.take_of_length_le (by simp)]
      have hfst : (s.extract 0 k).data.toList = s.data.toList.take k := by rw [Pl.ext_mk]; simp
      obtain ⟨T, hT⟩ : ∃ T, s.extract 0 k = T := ⟨_, rfl⟩
      have hTs : T.size ≤ 100000 := by rw [← hT, ByteArray.size_extract]; omega
      rw [hT] at hfst
      rw [← hfst]
      obtain ⟨ls, hls, htot, -, hline⟩ := lines_pack T
      have hlen : ∀ j, (Pl.unL (ls.take j)).length ≤ 4 * T.size := fun j => by rw [hls]; have := Pl.un_len T.data.toList j; rw [show T.data.toList.length = T.size by simp] at this; exact this
      rw [← hls]
      have cL := mkHidL (implLines T m W hTs hmW)
      rw [← hls] at cL
      have Hlen := mkHidL hlen
      have Hline := mkHidL hline
      have hsy : (s.data.toList.drop (k + 3)).length ≤ 100000 := by rw [List.length_drop]; simp; omega
      generalize s.data.toList.drop (k + 3) = y at *
      clear hlen hline hls hfst hmW
      go_enter Try.func8, Try.ntmps8
      go_wp2_with fail
      rw [← HW.out]
      refine cS.out.mono ?_
      rintro e w1 ⟨rfl, rfl⟩
      go_wp2_with (first | (go_at_call 12; go_in) | fail)
      refine cL.out.mono ?_
      rintro e w1 ⟨v, rfl, hownL, hb1⟩
      obtain ⟨ao, cap, hv, hrow⟩ := hownL.row
      rw [hv]
      have hrm := mkHidL (hroom.out.on hb1)
      have hbw := mkHidL (hroom.out.below.trans (hb1.mono hroom.out.below.size))
      have hgw : w.heap.size < w1.heap.size := by have := hroom.out.size; have := hb1.size; omega
      clear hownL hv cL cS hb1
      go_wp2_with fail
      go_loopw [4, 22] (fun v i wr => ∃ (j : Nat), j ≤ ls.length ∧ i = .int .i64 j ∧ Own w1.heap.size v (Pl.unL (ls.take j)) wr ∧ Below w1.heap.size w1 wr) (fun _ i _ => ls.length - (RowKit.intOf i).toNat)
      case atStart => exact ⟨0, Nat.zero_le _, rfl, Own.nil _ _, Below.refl _ _⟩
      case round =>
        obtain ⟨j, hj, rfl, hown, hb⟩ := hrel
        have hl0 := Hlen.out j
        by_cases hlt : j < ls.length
        · obtain ⟨g, hg, hao, hcell⟩ := hrow j hlt
          have hl1 := Hline.out j hlt
          have hstep : Hid (Pl.unL (ls.take (j + 1)) = Pl.unL (ls.take j) ++ Pl.undot ls[j] ++ [13, 10]) := Pl.unL_take ls j hlt
          have hc := (hb.cell (p := ⟨g, j, none⟩) hg).trans hcell
          unfold txtL at hc
          obtain ⟨x, hx⟩ : ∃ x, x = ls[j] := ⟨_, rfl⟩
          rw [← hx] at hc hl1 hstep
          generalize Pl.unL (ls.take j) = p at *
          clear hrow hx hcell
          subst hao
          have hul := Pl.undot_len x
          have cU := mkHidL (fun w => libUndot x w)
          generalize Pl.undot x = u at *
          go_wp2_with fail
          refine (cU.out _).mono ?_
          rintro e w2 ⟨rfl, rfl⟩
          go_wp2_with (at_builtin; go_must (refine wp_apps (W := w1) rfl _ _ 30 9 rfl i0 Try.underlying30 Try.underlying9 hi hz0 hz1 hz2 w1.heap.size u4 p rfl hown ⟨u.toArray⟩ rfl (by simp [szL]; omega) (Nat.le_refl _) hb ?_; intro v3 w3 hown3 hb3; refine Hid.out ?_))
          refine mkHidL ?_
          go_wp2_with (at_builtin; go_must (refine wp_apps (W := w1) rfl _ _ 30 9 rfl i0 Try.underlying30 Try.underlying9 hi hz0 hz1 hz2 w1.heap.size v3 _ rfl hown3 ⟨#[13, 10]⟩ rfl (by simp [ByteArray.size]; omega) (Nat.le_refl _) hb3 ?_; intro v4 w4 hown4 hb4))
          go_roundw
          case rel => exact ⟨j + 1, by omega, by go_num, by rw [hstep.out]; simpa using hown4, hb4⟩
          case measure => simp [RowKit.intOf]; omega
        · rw [List.take_of_length_le (by omega)] at hown hl0
          obtain ⟨p, hp⟩ : ∃ p, Pl.unL ls = p := ⟨_, rfl⟩
          rw [hp] at hown hl0
          have Hp := mkHidL hp
          clear hp
          have hbk := (show Own w1.heap.size u4 p wr.drew from hown).back (P := Try.prog) 30 9 Try.underlying30 Try.underlying5 Try.underlying9
          clear hrow
          go_wp2_with fail
          go_region_with (go_at_call 17; (refine (libCloneL ⟨y.toArray⟩ _ (by rw [szL]; omega)).mono ?_; rintro e w2 ⟨rfl, hb2⟩; have hbk2 := ((show Own w1.heap.size u4 p wr.drew from hown).keepU (Nat.le_refl _) hb2).back (P := Try.prog) 30 9 Try.underlying30 Try.underlying5 Try.underlying9; obtain ⟨q0', q1', q2', g0', g1', g2'⟩ := hrm.out; have hbF := mkHidL (hb.drew.trans (hb2.mono hb.size)); have q0 := (hbF.out.cell (p := ⟨w.heap.size, 0, none⟩) hgw).trans q0'; have q1 := (hbF.out.cell (p := ⟨w.heap.size, 1, none⟩) hgw).trans q1'; have q2 := (hbF.out.cell (p := ⟨w.heap.size, 2, none⟩) hgw).trans q2'; have g0 := (hbF.out.frozen (p := ⟨w.heap.size, 0, none⟩) hgw).trans g0'; have g1 := (hbF.out.frozen (p := ⟨w.heap.size, 1, none⟩) hgw).trans g1'; have g2 := (hbF.out.frozen (p := ⟨w.heap.size, 2, none⟩) hgw).trans g2'))
          all_goals
            have hfin2 : Below w.heap.size w w2 := hbw.out.trans (hbF.out.mono hbw.out.size)
            go_wp2
            refine bodyPost_ret (v := cutV (some (p, y))) (by simp [results, Try.results8, go_sem, cutV, txtL, q0, q1, q2]) rfl ⟨by rw [Hp.out], ?_⟩
            have hfin3 := fun v0 v1 v2 => (((hfin2.setCell (p := ⟨w.heap.size, 0, none⟩) (Nat.le_refl _) v0).setCell (p := ⟨w.heap.size, 1, none⟩) (Nat.le_refl _) v1).setCell (p := ⟨w.heap.size, 2, none⟩) (Nat.le_refl _) v2)
            first | exact hfin3 _ _ _ | exact (hfin3 _ _ _).drew
end Go.Proofs.Ytdhojelfegoalaa
