
/- The program's Wild. -/
import Derived.Test.YtdlacoakimahkaaWildPlaces
namespace Go.Proofs.Ytdlacoakimahkaa
open Go.RowKit Go.Lib
theorem libCloneW (s : ByteArray) (w : World) (hs : s.size ≤ 100000) :
    Calls Try.prog 16 #[.string s] w fun e w' => e = .returned (.string s) ∧ Below w.heap.size w w' := by
  go_enter Try.func16, Try.ntmps16
  go_wp2_with fail
  refine (Try.stringslite_Clone s _ (by omega)).mono ?_
  rintro e w1 ⟨rfl, hb1⟩
  go_wp2
  go_ret
  exact ⟨rfl, hb1⟩
theorem wrapW (n : Int) (h0 : -9223372036854775808 ≤ n) (h1 : n ≤ 9223372036854775807) : IntKind.i64.wrap n = n := by
  simp only [IntKind.wrap, IntKind.bits, IntKind.signed, Bool.true_and]
  split <;> rename_i h <;> simp at h <;> omega
theorem extW (s : ByteArray) (a k : Nat) : s.extract a k = ⟨((s.data.toList.drop a).take (k - a)).toArray⟩ := by
  apply ByteArray.ext
  rw [ByteArray.data_extract, ← Array.toList_inj]
  simp
theorem szT (l : List UInt8) : (⟨l.toArray⟩ : ByteArray).size = l.length := by
  show l.toArray.size = l.length
  simp
theorem OwnS.one (w : World) (u : ByteArray) (B : Nat) (h : B ≤ w.heap.size) : OwnS B (.slice (some ⟨w.heap.size, 0, none⟩) 1 1) [u.data.toList] (w.alloc (.cells #[.string u] 9)) :=
  World.ownsRow_lit w #[.string u] 1 h (by unfold maxLen; omega) rfl
set_option maxHeartbeats 1000000 in
set_option maxRecDepth 20000 in
theorem implWild (p t : ByteArray) (w : World) (hp : p.size ≤ 200) (ht : t.size ≤ 2000) :
    Calls Try.prog 5 #[.string p, .string t] w fun e w' => ∃ v, e = .returned v ∧ OwnS w.heap.size v (Wi.wild p.data.toList t.data.toList) w' ∧ Below w.heap.size w w' := by
  obtain ⟨i0, hi, hz0, hz1, hz2⟩ := info_parts Try.info9
  have hc1 : decide ((200 : Int) < (p.size : Int)) = false := by simp; omega
  have hc2 : decide ((2000 : Int) < (t.size : Int)) = false := by simp; omega
  have hlp : (lower p.data.toList).length = p.size := by simp [lower]
  have hlt : (lower t.data.toList).length = t.size := by simp [lower]
  go_enter Try.func5, Try.ntmps5
  go_wp2_with fail
  refine (implLowered p _ (by omega)).mono ?_
  rintro e w1 ⟨rfl, hb1⟩
  go_wp2_with fail
  refine (implPieces ⟨(lower p.data.toList).toArray⟩ _ (by rw [szT]; omega) (by
    intro c hc
    obtain ⟨d, -, rfl⟩ := List.mem_map.1 hc
    exact Wi.small_small d)).mono ?_
  rintro e w2 ⟨v2, rfl, hown2, hb2⟩
  rw [show (⟨(lower p.data.toList).toArray⟩ : ByteArray).data.toList = lower p.data.toList from rfl, Wi.items_lower] at hown2
  obtain ⟨o, cap, rfl, hcs⟩ := hown2.form
  go_wp2_with fail
  refine (implLowered t _ (by omega)).mono ?_
  rintro e w3 ⟨rfl, hb3⟩
  have hlen := Wi.items_len p.data.toList
  rw [show p.data.toList.length = p.size by simp] at hlen
  have hPi := mkH (Wi.items_ge p.data.toList)
  generalize hP : Wi.items p.data.toList = P at *
  have hs1 := hb1.size
  have hs2 := hb2.size
  have hs3 := hb3.size
  have hpc : pieceAt w3 w3.heap.size o P := fun j hj => by
    obtain ⟨g, e1, e2, e3, e4, e5, e6⟩ := hcs j hj
    exact ⟨g, e1, by omega, (hb3.cell (p := ⟨g, j * 3, none⟩) e3).trans e4, (hb3.cell (p := ⟨g, j * 3 + 1, none⟩) e3).trans e5, (hb3.cell (p := ⟨g, j * 3 + 2, none⟩) e3).trans e6⟩
  go_wp2_with fail
  refine (implPlaces o cap P.length P rfl (by rw [← hP]; exact Wi.items_ge _) ⟨(lower t.data.toList).toArray⟩ _ (by omega) (by rw [szT]; omega) hpc).mono ?_
  rintro e w4 ⟨v4, rfl, hpl, hb4⟩
  have hb04 : Below w.heap.size w w4 := ((hb1.trans (hb2.mono hs1)).trans (hb3.mono (by omega))).trans (hb4.mono (by omega))
  rw [show (⟨(lower t.data.toList).toArray⟩ : ByteArray).data.toList = lower t.data.toList from rfl] at hpl
  rcases hpl with ⟨hF, rfl⟩ | ⟨hF, rfl, hrow⟩
  · have hw : Hid (Wi.wild p.data.toList t.data.toList = []) := by
      unfold Wi.wild
      rw [hP, if_neg (by rw [hF]; decide)]
      exact rfl
    clear hcs hpc hown2 hP
    go_wp2
    go_ret
    rw [hw.out]
    exact ⟨_, rfl, OwnS.nil _ _, hb04⟩
  · have hw : Hid (Wi.told P (lower t.data.toList) t.data.toList P.length = Wi.wild p.data.toList t.data.toList) := by
      unfold Wi.wild
      rw [hP, if_pos hF]
      exact rfl
    have hpc4 : Hid (pieceAt w4 w3.heap.size o P) := fun j hj => by
      obtain ⟨g, e1, e2, e3, e4, e5⟩ := hpc j hj
      exact ⟨g, e1, e2, (hb4.cell (p := ⟨g, j * 3, none⟩) e2).trans e3, (hb4.cell (p := ⟨g, j * 3 + 1, none⟩) e2).trans e4, (hb4.cell (p := ⟨g, j * 3 + 2, none⟩) e2).trans e5⟩
    clear hcs hpc hown2 hP
    have hg3 := hrow.lt
    go_wp2_with fail
    refine (libCloneW t _ (by omega)).mono ?_
    rintro e w5 ⟨rfl, hb5⟩
    have hs5 := hb5.size
    have hrow5 := mkH (rowIs_keep hrow hb5)
    have hpc5 : Hid (pieceAt w5 w5.heap.size o P) := fun j hj => by
      obtain ⟨g, e1, e2, e3, e4, e5⟩ := hpc4.out j hj
      have hs4 := hb4.size
      exact ⟨g, e1, by omega, (hb5.cell (p := ⟨g, j * 3, none⟩) (by show g < _; omega)).trans e3, (hb5.cell (p := ⟨g, j * 3 + 1, none⟩) (by show g < _; omega)).trans e4, (hb5.cell (p := ⟨g, j * 3 + 2, none⟩) (by show g < _; omega)).trans e5⟩
    have hb05 := mkH (hb04.trans (hb5.mono (by have := hb04.size; omega)))
    have hmo := mkH (Wi.pos_mono P (lower t.data.toList) hF)
    have hle := mkH (Wi.pos_F P (lower t.data.toList) hF)
    clear hrow hpc4 hb04 hb5 hb4 hb3 hb2 hb1 hs1 hs2 hs3 hlp
    have hlt' := mkH hlt
    clear hlt
    go_wp2
    go_loopw [8, 36] (fun v i wr => ∃ k : Nat, k ≤ P.length ∧ i = .int .i64 k ∧ OwnS w5.heap.size v (Wi.told P (lower t.data.toList) t.data.toList k) wr ∧ Below w5.heap.size w5 wr) (fun _ i _ => P.length - (Lib.intOf i).toNat)
    case atStart =>
      exact ⟨0, Nat.zero_le _, rfl, OwnS.one w5 t _ (Nat.le_refl _), (Below.refl _ _).alloc (Nat.le_refl _) _⟩
    case round =>
      obtain ⟨k, hk, rfl, hown, hb⟩ := hrel
      obtain ⟨ao, ac, hv, hbl⟩ : ∃ ao ac, u8 = .slice ao (Wi.told P (lower t.data.toList) t.data.toList k).length ac ∧ True := by
        rcases hown.form with ⟨h1, h2⟩ | ⟨g, c, h1, -⟩
        · exact ⟨none, 0, by rw [h2]; exact h1, trivial⟩
        · exact ⟨_, c, h1, trivial⟩
      subst hv
      by_cases hkn : k < P.length
      · obtain ⟨g0, rfl, hg0, c1, c2, c3⟩ := hpc5.out k hkn
        have d1 := (hb.cell (p := ⟨g0, k * 3, none⟩) hg0).trans c1
        have d2 := (hb.cell (p := ⟨g0, k * 3 + 1, none⟩) hg0).trans c2
        have d3 := (hb.cell (p := ⟨g0, k * 3 + 2, none⟩) hg0).trans c3
        have b1 := (hb.cell (p := ⟨w3.heap.size, k, none⟩) hrow5.out.lt).trans (hrow5.out.cell (i := k) (by omega))
        have b2 := (hb.cell (p := ⟨w3.heap.size, k + 1, none⟩) hrow5.out.lt).trans (hrow5.out.cell (i := k + 1) (by omega))
        have hmk := hmo.out k hkn
        have hlk := (hle.out (k + 1) (by omega)).1
        rw [hlt'.out] at hlk
        have htw := mkH (Wi.told_wild P (lower t.data.toList) t.data.toList k hkn)
        have htf := mkH (Wi.told_full P (lower t.data.toList) t.data.toList k hkn)
        have htb := mkH (Wi.told_byte P (lower t.data.toList) t.data.toList k hkn)
        have htl := Wi.told_len P (lower t.data.toList) t.data.toList k
        generalize Wi.told P (lower t.data.toList) t.data.toList k = T at *
        obtain ⟨y1, hy1⟩ : ∃ y, Wi.pos P (lower t.data.toList) k = y := ⟨_, rfl⟩
        obtain ⟨y2, hy2⟩ : ∃ y, Wi.pos P (lower t.data.toList) (k + 1) = y := ⟨_, rfl⟩
        rw [hy1] at b1 hmk htw
        rw [hy2] at b2 hmk hlk htw
        have hsb := hb.size
        have hy1 : Hid (Wi.pos P (lower t.data.toList) k = y1) := hy1
        have hy2 : Hid (Wi.pos P (lower t.data.toList) (k + 1) = y2) := hy2
        have hext : Hid (([(t.data.toList.drop y1).take (y2 - y1)].map txtL) = [.string (t.extract y1 y2)]) := by
          show [txtL _] = _
          rw [extW]
          rfl
        have Hcl : Hid (∀ W, Calls Try.prog 16 #[.string (t.extract y1 y2)] W fun e w' => e = .returned (.string (t.extract y1 y2)) ∧ Below W.heap.size W w') := fun W => libCloneW _ W (by rw [ByteArray.size_extract]; omega)
        by_cases hx : P[k] < 0
        · by_cases hT : T.length < 10
          · have hT' : decide ((T.length : Int) < 10) = true := by simp; omega
            have e1 := mkH (htw.out hx hT)
            by_cases hm : P[k] = -1
            · have hm' : (P[k] == -1) = true := by simpa using hm
              rw [hm'] at d1
              clear htw htf htb hpc5 c1 c2 c3 hx hT hm hm' hlt' hmo hle
              have hown1 : OwnS w5.heap.size (.slice ao T.length ac) T (wr.alloc (.cells #[.bool true, .bool (P[k] == -2), .int .u8 (pb P[k])] 41)) := World.ownsRow.alloc hown _
              have hb1 := mkH (hb.alloc hsb (.cells #[.bool true, .bool (P[k] == -2), .int .u8 (pb P[k])] 41))
              have bb1 := (hb1.out.cell (p := ⟨w3.heap.size, k, none⟩) hrow5.out.lt).trans (hrow5.out.cell (i := k) (by omega))
              have bb2 := (hb1.out.cell (p := ⟨w3.heap.size, k + 1, none⟩) hrow5.out.lt).trans (hrow5.out.cell (i := k + 1) (by omega))
              have hsz1 := hb1.out.size
              rw [hy1.out] at bb1
              rw [hy2.out] at bb2
              go_wp2
              generalize wr.alloc (.cells #[.bool true, .bool (P[k] == -2), .int .u8 (pb P[k])] 41) = W1 at *
              clear hown hb d1 d2 d3
              have hI2 : IntKind.i64.wrap ((k : Int) + 1) = (k : Int) + 1 := wrapW _ (by omega) (by omega)
              refine wp_region_any (by kernel_rfl) ?_
              refine wpAny_take (i := 0) (v := .slice ao T.length ac) rfl (by kernel_rfl) (by kernel_rfl) (by kernel_rfl) (fun _ _ _ h => h) (Or.inl ⟨by rfl, ?_⟩) ?_
              · intro w
                go_simp
                all_goals first | done | (intro h; exfalso; omega)
              go_simp
              refine wpAny_take (i := 1) (v := .string t) rfl (by kernel_rfl) (by kernel_rfl) (by kernel_rfl) (fun _ _ _ h => h) (Or.inl ⟨by rfl, ?_⟩) ?_
              · intro w
                go_simp
                all_goals first | done | (intro h; exfalso; omega)
              go_simp
              refine wpAny_take (i := 2) (v := .slice (some ⟨w3.heap.size, 0, none⟩) (P.length + 1) (P.length + 1)) rfl (by kernel_rfl) (by kernel_rfl) (by kernel_rfl) (fun _ _ _ h => h) (Or.inl ⟨by rfl, ?_⟩) ?_
              · intro w
                go_simp
                all_goals first | done | (intro h; exfalso; omega)
              go_simp
              refine wpAny_take (i := 3) (v := .int .i64 k) rfl (by kernel_rfl) (by kernel_rfl) (by kernel_rfl) (fun _ _ _ h => h) (Or.inl ⟨by rfl, ?_⟩) ?_
              · intro w
                go_simp
                all_goals first | done | (intro h; exfalso; omega)
              go_simp
              refine wpAny_take (i := 4) (v := .pointer (some ⟨w3.heap.size, k, none⟩)) rfl (by kernel_rfl) (by kernel_rfl) (by kernel_rfl) (fun _ _ _ h => h) (Or.inl ⟨by rfl, ?_⟩) ?_
              · intro w
                go_simp
                all_goals first | done | (intro h; exfalso; omega)
              go_simp
              refine wpAny_take (i := 6) (v := .slice (some ⟨w3.heap.size, 0, none⟩) (P.length + 1) (P.length + 1)) rfl (by kernel_rfl) (by kernel_rfl) (by kernel_rfl) (fun _ _ _ h => h) (Or.inl ⟨by rfl, ?_⟩) ?_
              · intro w
                go_simp
                all_goals first | done | (intro h; exfalso; omega)
              go_simp
              refine wpAny_take (i := 7) (v := .int .i64 k) rfl (by kernel_rfl) (by kernel_rfl) (by kernel_rfl) (fun _ _ _ h => h) (Or.inl ⟨by rfl, ?_⟩) ?_
              · intro w
                go_simp
                all_goals first | done | (intro h; exfalso; omega)
              go_simp
              refine wpAny_take (i := 8) (v := .int .i64 ((k : Int) + 1)) rfl (by kernel_rfl) (by kernel_rfl) (by kernel_rfl) (fun _ _ _ h => h) (Or.inl ⟨by rfl, ?_⟩) ?_
              · intro w
                go_simp
                all_goals first | done | (intro h; exfalso; omega)
              go_simp
              refine wpAny_take (i := 9) (v := .pointer (some ⟨w3.heap.size, k + 1, none⟩)) rfl (by kernel_rfl) (by kernel_rfl) (by kernel_rfl) (fun _ _ _ h => h) (Or.inl ⟨by rfl, ?_⟩) ?_
              · intro w
                go_simp
                all_goals first | done | (intro h; exfalso; omega)
              go_simp
              refine wpAny_ready (rs := [5, 10]) (by kernel_rfl) (by simp) ?_
              refine AllReady.cons rfl (fun K hK => ?_) (AllReady.cons rfl (fun K hK => ?_) AllReady.nil)
              · go_simp
                refine hK _ _ ?_
                clear hK K
                go_simp
                refine wpAny_ready (rs := [10]) (by kernel_rfl) (by simp) ?_
                refine AllReady.cons rfl (fun K hK => ?_) AllReady.nil
                go_simp
                refine hK _ _ ?_
                clear hK K
                go_simp
                refine wpAny_take (i := 11) (v := .string (t.extract y1 y2)) rfl (by kernel_rfl) (by kernel_rfl) (by kernel_rfl) (fun _ _ _ h => h) (Or.inl ⟨by rfl, ?_⟩) ?_
                · intro w
                  go_simp
                  all_goals first | done | (intro h; exfalso; omega)
                go_simp
                refine wpAny_ready (rs := [12]) (by kernel_rfl) (by simp) ?_
                refine AllReady.cons rfl (fun K hK => ?_) AllReady.nil
                go_simp
                go_wp2_with fail
                refine (Hcl.out _).mono ?_
                rintro e W3 ⟨rfl, hb3⟩
                have hown3 := hown1.keep (Nat.le_refl _) (((Below.refl _ W1).drew).trans hb3)
                have hbb3 := mkH (hb1.out.trans ((((Below.refl W1.heap.size W1).drew).trans hb3).mono hsz1))
                clear hb3
                show K _ _
                refine hK _ _ ?_
                clear hK K
                go_simp
                refine wpAny_ready (rs := [13]) (by kernel_rfl) (by simp) ?_
                refine AllReady.cons rfl (fun K hK => ?_) AllReady.nil
                go_simp
                refine hK _ _ ?_
                clear hK K
                go_simp
                refine wpAny_ready (rs := [14]) (by kernel_rfl) (by simp) ?_
                refine AllReady.cons rfl (fun K hK => ?_) AllReady.nil
                have hs3 := hbb3.out.size
                refine wp_append_own _ _ _ 25 rfl w5.heap.size 9 i0 (.string ByteArray.empty) 1 16 Try.underlying25 hi hz0 hz1 hz2 rfl (by decide) (.slice ao T.length ac) T.length (T.map txtL) rfl (World.ownsRow.alloc hown3 _) ⟨W3.heap.size, 0, none⟩ 1 1 [.string (t.extract y1 y2)] rfl rfl (by intro j u hj; match j, hj with | 0, hj => cases hj; simp [Addr.add]) (by intro u hu; simp at hu; subst hu; rfl) (by unfold maxLen; omega) (by omega) (by simp; omega) ?_
                intro v5 w6 ho5 hg5 _
                refine hK _ _ ?_
                clear hK K
                go_simp
                refine wpAny_take (i := 15) (v := v5) rfl (by kernel_rfl) (by kernel_rfl) (by kernel_rfl) (fun _ _ _ h => h) (Or.inl ⟨by rfl, ?_⟩) ?_
                · intro w
                  go_simp
                  all_goals first | done | (intro h; exfalso; omega)
                go_simp
                refine wpAny_done (by kernel_rfl) ?_ _
                have hown5 : OwnS w5.heap.size v5 (T ++ [(t.data.toList.drop y1).take (y2 - y1)]) w6 := by
                  unfold OwnS
                  rw [List.map_append, List.length_append]
                  rw [show [(t.data.toList.drop y1).take (y2 - y1)].map txtL = [.string (t.extract y1 y2)] from hext.out]
                  exact ho5
                have hb6 := mkH ((hbb3.out.alloc hs3 (.cells #[.string (t.extract y1 y2)] 9)).grown hg5 (by simp; omega) (fun j hj => (World.ownsRow.lt hown3 j hj).1))
                rw [← e1.out] at hown5
                clear ho5 hg5 e1 hown3 hbb3
                go_wp2
                go_roundw
                case rel => exact ⟨k + 1, by omega, by go_num, hown5, hb6.out⟩
                case measure => simp [Lib.intOf]; omega
              · go_simp
                refine hK _ _ ?_
                clear hK K
                go_simp
                refine wpAny_ready (rs := [5]) (by kernel_rfl) (by simp) ?_
                refine AllReady.cons rfl (fun K hK => ?_) AllReady.nil
                go_simp
                refine hK _ _ ?_
                clear hK K
                go_simp
                refine wpAny_take (i := 11) (v := .string (t.extract y1 y2)) rfl (by kernel_rfl) (by kernel_rfl) (by kernel_rfl) (fun _ _ _ h => h) (Or.inl ⟨by rfl, ?_⟩) ?_
                · intro w
                  go_simp
                  all_goals first | done | (intro h; exfalso; omega)
                go_simp
                refine wpAny_ready (rs := [12]) (by kernel_rfl) (by simp) ?_
                refine AllReady.cons rfl (fun K hK => ?_) AllReady.nil
                go_simp
                go_wp2_with fail
                refine (Hcl.out _).mono ?_
                rintro e W3 ⟨rfl, hb3⟩
                have hown3 := hown1.keep (Nat.le_refl _) (((Below.refl _ W1).drew).trans hb3)
                have hbb3 := mkH (hb1.out.trans ((((Below.refl W1.heap.size W1).drew).trans hb3).mono hsz1))
                clear hb3
                show K _ _
                refine hK _ _ ?_
                clear hK K
                go_simp
                refine wpAny_ready (rs := [13]) (by kernel_rfl) (by simp) ?_
                refine AllReady.cons rfl (fun K hK => ?_) AllReady.nil
                go_simp
                refine hK _ _ ?_
                clear hK K
                go_simp
                refine wpAny_ready (rs := [14]) (by kernel_rfl) (by simp) ?_
                refine AllReady.cons rfl (fun K hK => ?_) AllReady.nil
                have hs3 := hbb3.out.size
                refine wp_append_own _ _ _ 25 rfl w5.heap.size 9 i0 (.string ByteArray.empty) 1 16 Try.underlying25 hi hz0 hz1 hz2 rfl (by decide) (.slice ao T.length ac) T.length (T.map txtL) rfl (World.ownsRow.alloc hown3 _) ⟨W3.heap.size, 0, none⟩ 1 1 [.string (t.extract y1 y2)] rfl rfl (by intro j u hj; match j, hj with | 0, hj => cases hj; simp [Addr.add]) (by intro u hu; simp at hu; subst hu; rfl) (by unfold maxLen; omega) (by omega) (by simp; omega) ?_
                intro v5 w6 ho5 hg5 _
                refine hK _ _ ?_
                clear hK K
                go_simp
                refine wpAny_take (i := 15) (v := v5) rfl (by kernel_rfl) (by kernel_rfl) (by kernel_rfl) (fun _ _ _ h => h) (Or.inl ⟨by rfl, ?_⟩) ?_
                · intro w
                  go_simp
                  all_goals first | done | (intro h; exfalso; omega)
                go_simp
                refine wpAny_done (by kernel_rfl) ?_ _
                have hown5 : OwnS w5.heap.size v5 (T ++ [(t.data.toList.drop y1).take (y2 - y1)]) w6 := by
                  unfold OwnS
                  rw [List.map_append, List.length_append]
                  rw [show [(t.data.toList.drop y1).take (y2 - y1)].map txtL = [.string (t.extract y1 y2)] from hext.out]
                  exact ho5
                have hb6 := mkH ((hbb3.out.alloc hs3 (.cells #[.string (t.extract y1 y2)] 9)).grown hg5 (by simp; omega) (fun j hj => (World.ownsRow.lt hown3 j hj).1))
                rw [← e1.out] at hown5
                clear ho5 hg5 e1 hown3 hbb3
                go_wp2
                go_roundw
                case rel => exact ⟨k + 1, by omega, by go_num, hown5, hb6.out⟩
                case measure => simp [Lib.intOf]; omega
            · have hm' : (P[k] == -1) = false := by simpa using hm
              have hm2 : (P[k] == -2) = true := by
                have := (hPi.out P[k] (List.getElem_mem _)).1
                simp
                omega
              rw [hm'] at d1
              rw [hm2] at d2
              clear htw htf htb hpc5 c1 c2 c3 hx hT hm hm' hm2 hlt' hmo hle
              have hown1 : OwnS w5.heap.size (.slice ao T.length ac) T (wr.alloc (.cells #[.bool false, .bool true, .int .u8 (pb P[k])] 41)) := World.ownsRow.alloc hown _
              have hb1 := mkH (hb.alloc hsb (.cells #[.bool false, .bool true, .int .u8 (pb P[k])] 41))
              have bb1 := (hb1.out.cell (p := ⟨w3.heap.size, k, none⟩) hrow5.out.lt).trans (hrow5.out.cell (i := k) (by omega))
              have bb2 := (hb1.out.cell (p := ⟨w3.heap.size, k + 1, none⟩) hrow5.out.lt).trans (hrow5.out.cell (i := k + 1) (by omega))
              have hsz1 := hb1.out.size
              rw [hy1.out] at bb1
              rw [hy2.out] at bb2
              go_wp2
              generalize wr.alloc (.cells #[.bool false, .bool true, .int .u8 (pb P[k])] 41) = W1 at *
              clear hown hb d1 d2 d3
              have hI2 : IntKind.i64.wrap ((k : Int) + 1) = (k : Int) + 1 := wrapW _ (by omega) (by omega)
              refine wp_region_any (by kernel_rfl) ?_
              refine wpAny_take (i := 0) (v := .slice ao T.length ac) rfl (by kernel_rfl) (by kernel_rfl) (by kernel_rfl) (fun _ _ _ h => h) (Or.inl ⟨by rfl, ?_⟩) ?_
              · intro w
                go_simp
                all_goals first | done | (intro h; exfalso; omega)
              go_simp
              refine wpAny_take (i := 1) (v := .string t) rfl (by kernel_rfl) (by kernel_rfl) (by kernel_rfl) (fun _ _ _ h => h) (Or.inl ⟨by rfl, ?_⟩) ?_
              · intro w
                go_simp
                all_goals first | done | (intro h; exfalso; omega)
              go_simp
              refine wpAny_take (i := 2) (v := .slice (some ⟨w3.heap.size, 0, none⟩) (P.length + 1) (P.length + 1)) rfl (by kernel_rfl) (by kernel_rfl) (by kernel_rfl) (fun _ _ _ h => h) (Or.inl ⟨by rfl, ?_⟩) ?_
              · intro w
                go_simp
                all_goals first | done | (intro h; exfalso; omega)
              go_simp
              refine wpAny_take (i := 3) (v := .int .i64 k) rfl (by kernel_rfl) (by kernel_rfl) (by kernel_rfl) (fun _ _ _ h => h) (Or.inl ⟨by rfl, ?_⟩) ?_
              · intro w
                go_simp
                all_goals first | done | (intro h; exfalso; omega)
              go_simp
              refine wpAny_take (i := 4) (v := .pointer (some ⟨w3.heap.size, k, none⟩)) rfl (by kernel_rfl) (by kernel_rfl) (by kernel_rfl) (fun _ _ _ h => h) (Or.inl ⟨by rfl, ?_⟩) ?_
              · intro w
                go_simp
                all_goals first | done | (intro h; exfalso; omega)
              go_simp
              refine wpAny_take (i := 6) (v := .slice (some ⟨w3.heap.size, 0, none⟩) (P.length + 1) (P.length + 1)) rfl (by kernel_rfl) (by kernel_rfl) (by kernel_rfl) (fun _ _ _ h => h) (Or.inl ⟨by rfl, ?_⟩) ?_
              · intro w
                go_simp
                all_goals first | done | (intro h; exfalso; omega)
              go_simp
              refine wpAny_take (i := 7) (v := .int .i64 k) rfl (by kernel_rfl) (by kernel_rfl) (by kernel_rfl) (fun _ _ _ h => h) (Or.inl ⟨by rfl, ?_⟩) ?_
              · intro w
                go_simp
                all_goals first | done | (intro h; exfalso; omega)
              go_simp
              refine wpAny_take (i := 8) (v := .int .i64 ((k : Int) + 1)) rfl (by kernel_rfl) (by kernel_rfl) (by kernel_rfl) (fun _ _ _ h => h) (Or.inl ⟨by rfl, ?_⟩) ?_
              · intro w
                go_simp
                all_goals first | done | (intro h; exfalso; omega)
              go_simp
              refine wpAny_take (i := 9) (v := .pointer (some ⟨w3.heap.size, k + 1, none⟩)) rfl (by kernel_rfl) (by kernel_rfl) (by kernel_rfl) (fun _ _ _ h => h) (Or.inl ⟨by rfl, ?_⟩) ?_
              · intro w
                go_simp
                all_goals first | done | (intro h; exfalso; omega)
              go_simp
              refine wpAny_ready (rs := [5, 10]) (by kernel_rfl) (by simp) ?_
              refine AllReady.cons rfl (fun K hK => ?_) (AllReady.cons rfl (fun K hK => ?_) AllReady.nil)
              · go_simp
                refine hK _ _ ?_
                clear hK K
                go_simp
                refine wpAny_ready (rs := [10]) (by kernel_rfl) (by simp) ?_
                refine AllReady.cons rfl (fun K hK => ?_) AllReady.nil
                go_simp
                refine hK _ _ ?_
                clear hK K
                go_simp
                refine wpAny_take (i := 11) (v := .string (t.extract y1 y2)) rfl (by kernel_rfl) (by kernel_rfl) (by kernel_rfl) (fun _ _ _ h => h) (Or.inl ⟨by rfl, ?_⟩) ?_
                · intro w
                  go_simp
                  all_goals first | done | (intro h; exfalso; omega)
                go_simp
                refine wpAny_ready (rs := [12]) (by kernel_rfl) (by simp) ?_
                refine AllReady.cons rfl (fun K hK => ?_) AllReady.nil
                go_simp
                go_wp2_with fail
                refine (Hcl.out _).mono ?_
                rintro e W3 ⟨rfl, hb3⟩
                have hown3 := hown1.keep (Nat.le_refl _) (((Below.refl _ W1).drew).trans hb3)
                have hbb3 := mkH (hb1.out.trans ((((Below.refl W1.heap.size W1).drew).trans hb3).mono hsz1))
                clear hb3
                show K _ _
                refine hK _ _ ?_
                clear hK K
                go_simp
                refine wpAny_ready (rs := [13]) (by kernel_rfl) (by simp) ?_
                refine AllReady.cons rfl (fun K hK => ?_) AllReady.nil
                go_simp
                refine hK _ _ ?_
                clear hK K
                go_simp
                refine wpAny_ready (rs := [14]) (by kernel_rfl) (by simp) ?_
                refine AllReady.cons rfl (fun K hK => ?_) AllReady.nil
                have hs3 := hbb3.out.size
                refine wp_append_own _ _ _ 25 rfl w5.heap.size 9 i0 (.string ByteArray.empty) 1 16 Try.underlying25 hi hz0 hz1 hz2 rfl (by decide) (.slice ao T.length ac) T.length (T.map txtL) rfl (World.ownsRow.alloc hown3 _) ⟨W3.heap.size, 0, none⟩ 1 1 [.string (t.extract y1 y2)] rfl rfl (by intro j u hj; match j, hj with | 0, hj => cases hj; simp [Addr.add]) (by intro u hu; simp at hu; subst hu; rfl) (by unfold maxLen; omega) (by omega) (by simp; omega) ?_
                intro v5 w6 ho5 hg5 _
                refine hK _ _ ?_
                clear hK K
                go_simp
                refine wpAny_take (i := 15) (v := v5) rfl (by kernel_rfl) (by kernel_rfl) (by kernel_rfl) (fun _ _ _ h => h) (Or.inl ⟨by rfl, ?_⟩) ?_
                · intro w
                  go_simp
                  all_goals first | done | (intro h; exfalso; omega)
                go_simp
                refine wpAny_done (by kernel_rfl) ?_ _
                have hown5 : OwnS w5.heap.size v5 (T ++ [(t.data.toList.drop y1).take (y2 - y1)]) w6 := by
                  unfold OwnS
                  rw [List.map_append, List.length_append]
                  rw [show [(t.data.toList.drop y1).take (y2 - y1)].map txtL = [.string (t.extract y1 y2)] from hext.out]
                  exact ho5
                have hb6 := mkH ((hbb3.out.alloc hs3 (.cells #[.string (t.extract y1 y2)] 9)).grown hg5 (by simp; omega) (fun j hj => (World.ownsRow.lt hown3 j hj).1))
                rw [← e1.out] at hown5
                clear ho5 hg5 e1 hown3 hbb3
                go_wp2
                go_roundw
                case rel => exact ⟨k + 1, by omega, by go_num, hown5, hb6.out⟩
                case measure => simp [Lib.intOf]; omega
              · go_simp
                refine hK _ _ ?_
                clear hK K
                go_simp
                refine wpAny_ready (rs := [5]) (by kernel_rfl) (by simp) ?_
                refine AllReady.cons rfl (fun K hK => ?_) AllReady.nil
                go_simp
                refine hK _ _ ?_
                clear hK K
                go_simp
                refine wpAny_take (i := 11) (v := .string (t.extract y1 y2)) rfl (by kernel_rfl) (by kernel_rfl) (by kernel_rfl) (fun _ _ _ h => h) (Or.inl ⟨by rfl, ?_⟩) ?_
                · intro w
                  go_simp
                  all_goals first | done | (intro h; exfalso; omega)
                go_simp
                refine wpAny_ready (rs := [12]) (by kernel_rfl) (by simp) ?_
                refine AllReady.cons rfl (fun K hK => ?_) AllReady.nil
                go_simp
                go_wp2_with fail
                refine (Hcl.out _).mono ?_
                rintro e W3 ⟨rfl, hb3⟩
                have hown3 := hown1.keep (Nat.le_refl _) (((Below.refl _ W1).drew).trans hb3)
                have hbb3 := mkH (hb1.out.trans ((((Below.refl W1.heap.size W1).drew).trans hb3).mono hsz1))
                clear hb3
                show K _ _
                refine hK _ _ ?_
                clear hK K
                go_simp
                refine wpAny_ready (rs := [13]) (by kernel_rfl) (by simp) ?_
                refine AllReady.cons rfl (fun K hK => ?_) AllReady.nil
                go_simp
                refine hK _ _ ?_
                clear hK K
                go_simp
                refine wpAny_ready (rs := [14]) (by kernel_rfl) (by simp) ?_
                refine AllReady.cons rfl (fun K hK => ?_) AllReady.nil
                have hs3 := hbb3.out.size
                refine wp_append_own _ _ _ 25 rfl w5.heap.size 9 i0 (.string ByteArray.empty) 1 16 Try.underlying25 hi hz0 hz1 hz2 rfl (by decide) (.slice ao T.length ac) T.length (T.map txtL) rfl (World.ownsRow.alloc hown3 _) ⟨W3.heap.size, 0, none⟩ 1 1 [.string (t.extract y1 y2)] rfl rfl (by intro j u hj; match j, hj with | 0, hj => cases hj; simp [Addr.add]) (by intro u hu; simp at hu; subst hu; rfl) (by unfold maxLen; omega) (by omega) (by simp; omega) ?_
                intro v5 w6 ho5 hg5 _
                refine hK _ _ ?_
                clear hK K
                go_simp
                refine wpAny_take (i := 15) (v := v5) rfl (by kernel_rfl) (by kernel_rfl) (by kernel_rfl) (fun _ _ _ h => h) (Or.inl ⟨by rfl, ?_⟩) ?_
                · intro w
                  go_simp
                  all_goals first | done | (intro h; exfalso; omega)
                go_simp
                refine wpAny_done (by kernel_rfl) ?_ _
                have hown5 : OwnS w5.heap.size v5 (T ++ [(t.data.toList.drop y1).take (y2 - y1)]) w6 := by
                  unfold OwnS
                  rw [List.map_append, List.length_append]
                  rw [show [(t.data.toList.drop y1).take (y2 - y1)].map txtL = [.string (t.extract y1 y2)] from hext.out]
                  exact ho5
                have hb6 := mkH ((hbb3.out.alloc hs3 (.cells #[.string (t.extract y1 y2)] 9)).grown hg5 (by simp; omega) (fun j hj => (World.ownsRow.lt hown3 j hj).1))
                rw [← e1.out] at hown5
                clear ho5 hg5 e1 hown3 hbb3
                go_wp2
                go_roundw
                case rel => exact ⟨k + 1, by omega, by go_num, hown5, hb6.out⟩
                case measure => simp [Lib.intOf]; omega
          · have hT' : decide ((T.length : Int) < 10) = false := by simp; omega
            have e1 := mkH (htf.out hT)
            by_cases hm : P[k] = -1
            · have hm' : (P[k] == -1) = true := by simpa using hm
              rw [hm'] at d1
              clear htw htf htb hpc5 c1 c2 c3 hx hT hm hm' hlt' hmo hle b1 b2
              have hown1 := mkH (show OwnS w5.heap.size (.slice ao T.length ac) T (wr.alloc (.cells #[.bool true, .bool (P[k] == -2), .int .u8 (pb P[k])] 41)) from World.ownsRow.alloc hown _)
              have hb1 := mkH (hb.alloc hsb (.cells #[.bool true, .bool (P[k] == -2), .int .u8 (pb P[k])] 41))
              clear hown hb
              go_wp2
              go_roundw
              case rel => exact ⟨k + 1, by omega, by go_num, by rw [e1.out]; exact hown1.out, hb1.out⟩
              case measure => simp [Lib.intOf]; omega
            · have hm' : (P[k] == -1) = false := by simpa using hm
              have hm2 : (P[k] == -2) = true := by
                have := (hPi.out P[k] (List.getElem_mem _)).1
                simp
                omega
              rw [hm'] at d1
              rw [hm2] at d2
              clear htw htf htb hpc5 c1 c2 c3 hx hT hm hm' hm2 hlt' hmo hle b1 b2
              have hown1 := mkH (show OwnS w5.heap.size (.slice ao T.length ac) T (wr.alloc (.cells #[.bool false, .bool true, .int .u8 (pb P[k])] 41)) from World.ownsRow.alloc hown _)
              have hb1 := mkH (hb.alloc hsb (.cells #[.bool false, .bool true, .int .u8 (pb P[k])] 41))
              clear hown hb
              go_wp2
              go_roundw
              case rel => exact ⟨k + 1, by omega, by go_num, by rw [e1.out]; exact hown1.out, hb1.out⟩
              case measure => simp [Lib.intOf]; omega
        · have e1 := mkH (htb.out (by omega))
          have hm' : (P[k] == -1) = false := by simp; omega
          have hm2 : (P[k] == -2) = false := by simp; omega
          rw [hm'] at d1
          rw [hm2] at d2
          clear htw htf htb hpc5 c1 c2 c3 hx hm' hm2 hlt' hmo hle b1 b2
          have hown1 := mkH (show OwnS w5.heap.size (.slice ao T.length ac) T (wr.alloc (.cells #[.bool false, .bool false, .int .u8 (pb P[k])] 41)) from World.ownsRow.alloc hown _)
          have hb1 := mkH (hb.alloc hsb (.cells #[.bool false, .bool false, .int .u8 (pb P[k])] 41))
          clear hown hb
          go_wp2
          go_roundw
          case rel => exact ⟨k + 1, by omega, by go_num, by rw [e1.out]; exact hown1.out, hb1.out⟩
          case measure => simp [Lib.intOf]; omega
      · obtain rfl : k = P.length := by omega
        clear hpc5
        go_wp2
        go_ret
        rw [← hw.out]
        have hown9 := hown.low hb05.out.size
        exact ⟨_, rfl, hown9, hb05.out.trans (hb.mono hb05.out.size)⟩
end Go.Proofs.Ytdlacoakimahkaa
