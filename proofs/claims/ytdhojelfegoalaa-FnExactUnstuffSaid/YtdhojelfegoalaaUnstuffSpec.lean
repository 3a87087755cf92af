
/- The walk of the model of Unstuff. -/
import Derived.Test.YtdhojelfegoalaaStuffBoth
import Derived.Test.YtdhojelfegoalaaUnstuffPlain
import Derived.RegionTactic
namespace Go.Proofs.Ytdhojelfegoalaa
open Go.RowKit Go.Lib
def cutV : Option (List UInt8 × List UInt8) → Value
  | none => .agg #[.bool false, .string ⟨#[]⟩, .string ⟨#[]⟩]
  | some (t, r) => .agg #[.bool true, txtL t, txtL r]
theorem beq_dot (x : List UInt8) (b : Bool) (h : decide (x = [46]) = b) : (x == [46]) = b := by rw [← h]; rw [Bool.eq_iff_iff]; simp
/-- The world with the room for the answer. -/
structure Room (w W : World) : Prop where
  size : W.heap.size = w.heap.size + 1
  below : Below w.heap.size w W
  c0 : W.cell? ⟨w.heap.size, 0, none⟩ = some (.bool false)
  c1 : W.cell? ⟨w.heap.size, 1, none⟩ = some (.string ⟨#[]⟩)
  c2 : W.cell? ⟨w.heap.size, 2, none⟩ = some (.string ⟨#[]⟩)
  f0 : W.frozen? ⟨w.heap.size, 0, none⟩ = false
  f1 : W.frozen? ⟨w.heap.size, 1, none⟩ = false
  f2 : W.frozen? ⟨w.heap.size, 2, none⟩ = false
theorem room (w : World) : Room w (w.alloc (.cells #[.bool false, .string ⟨#[]⟩, .string ⟨#[]⟩] 25)) :=
  ⟨by simp, (Below.refl _ _).alloc (Nat.le_refl _) _, by simp, by simp, by simp, by simp, by simp, by simp⟩
theorem Room.on {w W W' : World} (h : Room w W) (hb : Below W.heap.size W W') :
    W'.cell? ⟨w.heap.size, 0, none⟩ = some (.bool false) ∧ W'.cell? ⟨w.heap.size, 1, none⟩ = some (.string ⟨#[]⟩) ∧ W'.cell? ⟨w.heap.size, 2, none⟩ = some (.string ⟨#[]⟩) ∧
    W'.frozen? ⟨w.heap.size, 0, none⟩ = false ∧ W'.frozen? ⟨w.heap.size, 1, none⟩ = false ∧ W'.frozen? ⟨w.heap.size, 2, none⟩ = false := by
  have hs := h.size
  exact ⟨(hb.cell (p := ⟨w.heap.size, 0, none⟩) (by simp; omega)).trans h.c0, (hb.cell (p := ⟨w.heap.size, 1, none⟩) (by simp; omega)).trans h.c1, (hb.cell (p := ⟨w.heap.size, 2, none⟩) (by simp; omega)).trans h.c2,
    (hb.frozen (p := ⟨w.heap.size, 0, none⟩) (by simp; omega)).trans h.f0, (hb.frozen (p := ⟨w.heap.size, 1, none⟩) (by simp; omega)).trans h.f1, (hb.frozen (p := ⟨w.heap.size, 2, none⟩) (by simp; omega)).trans h.f2⟩
set_option maxHeartbeats 2000000 in
theorem specUnstuff (s : ByteArray) (w : World) (hs : s.size ≤ 100000) :
    Calls Try.prog 7 #[.string s] w fun e w' => e = .returned (cutV (Pl.un s.data.toList [])) ∧ Below w.heap.size w w' := by
  obtain ⟨i0, hi, hz0, hz1, hz2⟩ := info_parts Try.info5
  have hc0 : decide ((100000 : Int) < (s.size : Int)) = false := by simp; omega
  go_enter Try.func7, Try.ntmps7
  go_wp2
  have hroom := room w
  have hmade := Own.made (w.alloc (.cells #[.bool false, .string ⟨#[]⟩, .string ⟨#[]⟩] 25)).heap.size (w.alloc (.cells #[.bool false, .string ⟨#[]⟩, .string ⟨#[]⟩] 25)) (Nat.le_refl _)
  have hbm := (Below.refl (w.alloc (.cells #[.bool false, .string ⟨#[]⟩, .string ⟨#[]⟩] 25)).heap.size (w.alloc (.cells #[.bool false, .string ⟨#[]⟩, .string ⟨#[]⟩] 25))).alloc (Nat.le_refl _) (.cells #[] 5)
  have hroom' := mkHidL hroom
  have hmade' := mkHidL hmade
  have hbm' := mkHidL hbm
  clear hroom hmade hbm
  obtain ⟨W, hW⟩ : ∃ W, W = w.alloc (.cells #[.bool false, .string ⟨#[]⟩, .string ⟨#[]⟩] 25) := ⟨_, rfl⟩
  rw [← hW] at hroom' hmade' hbm'
  have HW := mkHidL hW
  clear hW
  go_loopw [3, 4, 5] (fun v f i wr => ∃ (a k : Nat) (p : List UInt8), a ≤ k ∧ k ≤ s.size ∧ f = .int .i64 a ∧ i = .int .i64 k ∧ p.length ≤ a ∧ Hid (Pl.un (s.data.toList.drop a) p = Pl.un s.data.toList []) ∧ Pl.NoCr (s.data.toList.drop a) (k - a) ∧ Own W.heap.size v p wr ∧ Below W.heap.size W wr) (fun _ _ i _ => s.size - (RowKit.intOf i).toNat)
  case atStart =>
    refine ⟨0, 0, [], Nat.le_refl _, Nat.zero_le _, rfl, rfl, by simp, rfl, Pl.NoCr.zero _, ?_, ?_⟩
    · have := hmade'.out
      rw [hroom'.out.size] at this ⊢
      rw [← HW.out]
      exact this
    · rw [← HW.out]
      exact hbm'.out
  case round =>
    obtain ⟨a, k, p, hak, hk, rfl, rfl, hpl, hp, hno, hown, hb⟩ := hrel
    obtain ⟨q0, q1, q2, g0, g1, g2⟩ := hroom'.out.on hb
    have hWs := hroom'.out.size
    by_cases hlt : k + 1 < s.size
    · have h8 : s[k].toNat < 256 := UInt8.toNat_lt _
      have hk1' : decide ((k : Int) + 1 < (s.size : Int)) = true := by simp; omega
      by_cases h13 : ((s[k].toNat : Int) == 13) = true
      · have h13' : ((s[k].toNat : Int) != 13) = false := by rw [bne, h13]; rfl
        by_cases h10 : ((s[k + 1].toNat : Int) == 10) = true
        · have h10' : ((s[k + 1].toNat : Int) != 10) = false := by rw [bne, h10]; rfl
          have hcr := (Pl.crlf_iff s.data.toList k).2 ⟨by simpa using hlt, Pl.byte_eq _ 13 _ rfl h13, Pl.byte_eq _ 10 _ rfl h10⟩
          have hcut := mkHidL (Pl.cut_at s.data.toList a k hak hno hcr)
          have hx := Pl.ext_mk s a k
          have hxl : ((s.data.toList.drop a).take (k - a)).length ≤ k - a := by rw [List.length_take]; omega
          generalize (s.data.toList.drop a).take (k - a) = x at hcut hx hxl
          clear hcr hno
          by_cases hd : x = [46]
          · subst hd
            have hdone : Hid (Pl.un s.data.toList [] = some (p, s.data.toList.drop (k + 2))) := by
              rw [← hp.out]
              exact Pl.un_done _ p _ hcut.out
            have hbk := (show Own W.heap.size u3 p wr.drew from hown).back (P := Try.prog) 30 9 Try.underlying30 Try.underlying5 Try.underlying9
            have hrest : s.extract (k + 2) s.size = ⟨(s.data.toList.drop (k + 2)).toArray⟩ := by rw [Pl.ext_mk, List.take_of_length_le (by simp)]
            generalize s.data.toList.drop (k + 2) = y at hdone hrest
            clear hp hcut
            go_wp2_with fail
            go_region
            all_goals
              go_wp2
              refine bodyPost_ret (v := cutV (some (p, y))) (by simp [results, Try.results7, go_sem, cutV, txtL, q0, q1, q2]) rfl ⟨by rw [hdone.out], ?_⟩
              have hfin : Below w.heap.size w wr := hroom'.out.below.trans (hb.mono (by omega))
              have hfin3 := fun v0 v1 v2 => (((hfin.setCell (p := ⟨w.heap.size, 0, none⟩) (Nat.le_refl _) v0).setCell (p := ⟨w.heap.size, 1, none⟩) (Nat.le_refl _) v1).setCell (p := ⟨w.heap.size, 2, none⟩) (Nat.le_refl _) v2)
              first | exact hfin3 _ _ _ | exact (hfin3 _ _ _).drew
          · have hxd := beq_dot x false (by simp [hd])
            by_cases hdot : Pl.dot x = true
            · have Hd := mkHidL hdot
              have hpos := Pl.dot_pos x hdot
              have hstep : Hid (Pl.un (s.data.toList.drop (k + 2)) (p ++ x.drop 1 ++ [13, 10]) = Pl.un s.data.toList []) := by
                rw [← hp.out, Pl.un_step _ p x _ hcut.out hd, Pl.undot_dot x Hd.out]; exact rfl
              have hx1 : (⟨x.toArray⟩ : ByteArray).extract 1 x.length = ⟨(x.drop 1).toArray⟩ := by
                rw [Pl.ext_mk]
                simp only [List.take_of_length_le (show (List.drop 1 x).length ≤ x.length - 1 by simp)]
              have hyl : (x.drop 1).length ≤ x.length := by simp
              generalize x.drop 1 = y at hx1 hstep hyl
              clear hp hcut hd
              go_wp2_with fail
              refine (specBegins ⟨x.toArray⟩ _ (by rw [szL]; omega)).mono ?_
              rintro e w2 ⟨rfl, rfl⟩
              go_wp2_with (at_builtin; go_must (refine wp_apps (W := W) rfl _ _ 30 9 rfl i0 Try.underlying30 Try.underlying9 hi hz0 hz1 hz2 W.heap.size u3 p rfl hown ⟨y.toArray⟩ rfl (by simp [szL]; omega) (Nat.le_refl _) hb ?_; intro v3 w3 hown3 hb3; refine Hid.out ?_))
              refine mkHidL ?_
              go_wp2_with (at_builtin; go_must (refine wp_app (W := W) rfl _ _ 30 rfl i0 Try.underlying30 hi hz0 hz1 hz2 W.heap.size v3 _ rfl hown3 _ [13, 10] rfl 2 2 rfl rfl (by simp; omega) (Nat.le_refl _) hb3 ?_; intro v4 w4 hown4 hb4))
              go_roundw
              case rel => exact ⟨k + 2, k + 2, _, Nat.le_refl _, by omega, by go_num, by go_num, by simp; omega, hstep, by rw [Nat.sub_self]; exact Pl.NoCr.zero _, hown4, hb4⟩
              case measure => simp [RowKit.intOf]; omega
            · rw [Bool.not_eq_true] at hdot
              have Hd := mkHidL hdot
              have hstep : Hid (Pl.un (s.data.toList.drop (k + 2)) (p ++ x ++ [13, 10]) = Pl.un s.data.toList []) := by
                rw [← hp.out, Pl.un_step _ p x _ hcut.out hd, Pl.undot_no x Hd.out]; exact rfl
              clear hp hcut hd
              go_wp2_with fail
              refine (specBegins ⟨x.toArray⟩ _ (by rw [szL]; omega)).mono ?_
              rintro e w2 ⟨rfl, rfl⟩
              go_wp2_with (at_builtin; go_must (refine wp_apps (W := W) rfl _ _ 30 9 rfl i0 Try.underlying30 Try.underlying9 hi hz0 hz1 hz2 W.heap.size u3 p rfl hown ⟨x.toArray⟩ rfl (by simp [szL]; omega) (Nat.le_refl _) hb ?_; intro v3 w3 hown3 hb3; refine Hid.out ?_))
              refine mkHidL ?_
              go_wp2_with (at_builtin; go_must (refine wp_app (W := W) rfl _ _ 30 rfl i0 Try.underlying30 hi hz0 hz1 hz2 W.heap.size v3 _ rfl hown3 _ [13, 10] rfl 2 2 rfl rfl (by simp; omega) (Nat.le_refl _) hb3 ?_; intro v4 w4 hown4 hb4))
              go_roundw
              case rel => exact ⟨k + 2, k + 2, _, Nat.le_refl _, by omega, by go_num, by go_num, by simp; omega, hstep, by rw [Nat.sub_self]; exact Pl.NoCr.zero _, hown4, hb4⟩
              case measure => simp [RowKit.intOf]; omega
        · rw [Bool.not_eq_true] at h10
          have h10' : ((s[k + 1].toNat : Int) != 10) = true := by rw [bne, h10]; rfl
          have hcr := mkHidL (Pl.crlf_no10 s.data.toList k (by simpa using hlt) (Pl.byte_ne _ 10 _ rfl h10))
          go_wp2
          go_roundw
          case rel => exact ⟨a, k + 1, p, by omega, by omega, rfl, by go_num, by omega, hp, Pl.noCr_next _ a k hak hno hcr.out, hown, hb⟩
          case measure => simp [RowKit.intOf]; omega
      · rw [Bool.not_eq_true] at h13
        have h13' : ((s[k].toNat : Int) != 13) = true := by rw [bne, h13]; rfl
        have hcr := mkHidL (Pl.crlf_no13 s.data.toList k (by simp; omega) (Pl.byte_ne _ 13 _ rfl h13))
        go_wp2
        go_roundw
        case rel => exact ⟨a, k + 1, p, by omega, by omega, rfl, by go_num, by omega, hp, Pl.noCr_next _ a k hak hno hcr.out, hown, hb⟩
        case measure => simp [RowKit.intOf]; omega
    · have hnone : Hid (Pl.un s.data.toList [] = none) := by
        rw [← hp.out]
        exact Pl.un_none _ _ _ _ (Pl.cut_end s.data.toList a k (by simp; omega) hno)
      clear hp hno
      go_wp2
      refine bodyPost_ret (v := cutV none) (by simp [results, Try.results7, go_sem, cutV, q0, q1, q2]) rfl ⟨by rw [hnone.out], ?_⟩
      have hfin : Below w.heap.size w wr := hroom'.out.below.trans (hb.mono (by omega))
      exact (((hfin.setCell (p := ⟨w.heap.size, 0, none⟩) (Nat.le_refl _) _).setCell (p := ⟨w.heap.size, 1, none⟩) (Nat.le_refl _) _).setCell (p := ⟨w.heap.size, 2, none⟩) (Nat.le_refl _) _)
end Go.Proofs.Ytdhojelfegoalaa
