
/- The program's ReadRanges. -/
import Derived.Test.YtdlbkedjkkapgaaDoorImplRangeEnd
namespace Go.Proofs.YtdlbkedjkkapgaaDoor
open Go.RowKit Go.Lib Go.Maps
set_option linter.unusedVariables false
set_option maxHeartbeats 4000000 in
theorem implReadRanges (t : ByteArray) (m : Int) (w : World) (hs : t.size ≤ 1048576) (hm : w.cell? ⟨0, 0, none⟩ = some (.int .i64 m)) :
    Calls Tryd.prog 5 #[.string t] w fun e w' => ∃ y : Value, e = .returned y ∧ Hid (OwnR w.heap.size y (plReadRanges t) w') ∧ Below w.heap.size w w' := by
  have hm0 := bcell_ltR hm
  have hsp := Tryd.strings_SplitN t ⟨#[44]⟩ 101 m w (by omega) hm (by decide) (by omega) (by omega)
  have hpl : plReadRanges t = Cu.rdI ((splitB ⟨#[44]⟩ 0 (min 101 (t.size + 1) - 1) t).map (·.data.toList)) := by
    rw [splitB_data, show (ByteArray.mk #[44]).data.toList = [44] from rfl]
    have hll : t.data.toList.length = t.size := by simp
    rw [← hll, Cu.rd_same]
    unfold plReadRanges
    rw [hll]
  have hsz := part_sizeR ⟨#[44]⟩ 0 (min 101 (t.size + 1) - 1) t
  have hpn := splitB_len ⟨#[44]⟩ 0 (min 101 (t.size + 1) - 1) t
  rw [hpl]
  generalize splitB ⟨#[44]⟩ 0 (min 101 (t.size + 1) - 1) t = parts at hsp hsz hpn ⊢
  obtain ⟨N, hN⟩ : ∃ N, min 101 (t.size + 1) = N := ⟨_, rfl⟩
  rw [hN] at hsp hpn
  have hN1 : N ≤ 101 := by omega
  obtain ⟨W1, hW1⟩ : ∃ W1, w.alloc (.cells (cellsOf parts N) 9) = W1 := ⟨_, rfl⟩
  have hcell : Hid (∀ k (h : k < parts.length), W1.cell? ⟨w.heap.size, k, none⟩ = some (.string parts[k])) := show ∀ k (h : k < parts.length), _ from by
    intro k h
    rw [← hW1]
    have e : (cellsOf parts N)[k]? = some (.string parts[k]) := by
      unfold cellsOf
      rw [List.getElem?_toArray, List.getElem?_append_left (by simpa using h), List.getElem?_map, List.getElem?_eq_getElem h]
      rfl
    simp [e]
  have hbW : Below w.heap.size w W1 := by rw [← hW1]; exact (Below.refl _ _).alloc (Nat.le_refl _) _
  have hsW : w.heap.size < W1.heap.size := by rw [← hW1]; simp
  have hmW : W1.cell? ⟨0, 0, none⟩ = some (.int .i64 m) := (hbW.cell (p := ⟨0, 0, none⟩) hm0).trans hm
  rw [hW1] at hsp
  replace hsp := mkHid hsp
  replace hbW := mkHid hbW
  have Hsz := mkHid hsz
  have HmW := mkHid hmW
  have hadd := fun k => add_off w.heap.size k
  obtain ⟨Y, hY⟩ : ∃ Y, Cu.rdI (parts.map (·.data.toList)) = Y := ⟨_, rfl⟩
  rw [hY]
  replace hY := mkHid hY
  clear hpl hsz hW1 hm hmW hN
  go_enter Tryd.func5, Tryd.ntmps5
  go_wp2_with fail
  refine hsp.out.mono ?_
  rintro e W1 ⟨rfl, rfl⟩
  clear hsp
  go_wp2
  obtain ⟨G, hG⟩ : ∃ G, W1.heap.size = G := ⟨_, rfl⟩
  go_loopw [3, 14] (fun yv iv wr => ∃ i : Nat, i ≤ parts.length ∧ iv = .int .i64 i ∧ Hid (OwnR G yv ((parts.take i).map fun q => Cu.rgI q.data.toList) wr) ∧ Hid (Below G W1 wr) ∧ G ≤ wr.heap.size) (fun _ iv _ => parts.length - (Lib.intOf iv).toNat)
  case atStart => exact ⟨0, Nat.zero_le _, rfl, OwnR.nil _ _, hG ▸ Below.refl _ _, by omega⟩
  case round =>
    obtain ⟨i, hi, rfl, hown, hB, hs1⟩ := hrel
    have hm1 : wr.cell? ⟨0, 0, none⟩ = some (.int .i64 m) := (hB.out.cell (p := ⟨0, 0, none⟩) (by show 0 < G; omega)).trans HmW.out
    by_cases hlt : i < parts.length
    · have c0 : wr.cell? ⟨w.heap.size, i, none⟩ = some (.string parts[i]) := (hB.out.cell (p := ⟨w.heap.size, i, none⟩) (by show w.heap.size < G; omega)).trans (hcell.out i hlt)
      have hpz := Hsz.out parts[i] (List.getElem_mem hlt)
      have htk : Hid (((parts.take i).map fun q => Cu.rgI q.data.toList) ++ [Cu.rgI parts[i].data.toList] = (parts.take (i + 1)).map fun q => Cu.rgI q.data.toList) := by
        show _ = _
        rw [List.take_succ_eq_append_getElem hlt, List.map_append]
        rfl
      have hnb : Hid (∀ k, u3.ownBlock = some k → G ≤ k) := fun k hk => (World.ownsRow.lt hown.out k hk).1
      generalize parts[i] = pc at *
      have cC0 := Tryd.strings_Cut pc ⟨#[58]⟩ m wr (by omega) hm1
      have hfz : (Lib.cut pc.data.toList [58]).1.length ≤ 1048576 ∧ (Lib.cut pc.data.toList [58]).2.1.length ≤ 1048576 := by
        have hll : pc.data.toList.length = pc.size := by simp
        unfold Lib.cut
        split
        · simp; omega
        · simp; omega
      have hrg : Cu.rgI pc.data.toList = ⟨min (Cu.re (Lib.cut pc.data.toList [58]).1) (Cu.re (if (Lib.cut pc.data.toList [58]).2.2 then (Lib.cut pc.data.toList [58]).2.1 else (Lib.cut pc.data.toList [58]).1)), max (Cu.re (Lib.cut pc.data.toList [58]).1) (Cu.re (if (Lib.cut pc.data.toList [58]).2.2 then (Lib.cut pc.data.toList [58]).2.1 else (Lib.cut pc.data.toList [58]).1))⟩ := rfl
      rw [show (ByteArray.mk #[58]).data.toList = [58] from rfl] at cC0
      rw [hrg] at htk
      generalize Lib.cut pc.data.toList [58] = cc at *
      obtain ⟨fl, ll, tw⟩ := cc
      dsimp only at cC0 htk hfz
      have eF : (⟨fl.toArray⟩ : ByteArray).data.toList = fl := by simp
      have eL : (⟨ll.toArray⟩ : ByteArray).data.toList = ll := by simp
      have cF : Hid (∀ w, Calls Tryd.prog 13 #[.string ⟨fl.toArray⟩] w fun e w' => e = .returned (.int .i64 (Cu.re fl)) ∧ Below w.heap.size w w') := fun w => by
        have := implRangeEnd ⟨fl.toArray⟩ w (by show fl.toArray.size ≤ _; simpa using hfz.1)
        rwa [eF] at this
      have cL : Hid (∀ w, Calls Tryd.prog 13 #[.string ⟨ll.toArray⟩] w fun e w' => e = .returned (.int .i64 (Cu.re ll)) ∧ Below w.heap.size w w') := fun w => by
        have := implRangeEnd ⟨ll.toArray⟩ w (by show ll.toArray.size ≤ _; simpa using hfz.2)
        rwa [eL] at this
      have cC := mkHid cC0
      clear cC0 hrg eF eL hfz
      generalize (⟨fl.toArray⟩ : ByteArray) = fb at *
      generalize (⟨ll.toArray⟩ : ByteArray) = lb at *
      cases tw
      · rw [if_neg (by simp)] at htk
        generalize Cu.re fl = zf at *
        rw [Int.min_self, Int.max_self] at htk
        clear cL
        go_wp2_with (go_at_call 12; fail)
        refine cC.out.mono ?_
        rintro e w2 ⟨rfl, nd, hnd⟩
        have hb2 : Below wr.heap.size wr w2 := by rw [hnd]; exact below_drewN (Below.refl _ _) nd
        have B2 := mkHid hb2
        clear cC hnd c0 hm1 hb2
        go_wp2_with (go_at_call 13; fail)
        refine (cF.out _).mono ?_
        rintro e w3 ⟨rfl, hb3⟩
        have B3 := mkHid (B2.out.trans (hb3.mono B2.out.size))
        clear hb3 B2
        go_wp2_with (go_at_call 13; fail)
        refine (cF.out _).mono ?_
        rintro e w4 ⟨rfl, hb4⟩
        have B4 := mkHid (B3.out.trans (hb4.mono B3.out.size))
        have O4 := mkHid (hown.out.below B4.out)
        have BB := mkHid (hB.out.trans (B4.out.mono hs1))
        have s4 : G ≤ w4.heap.size := Nat.le_trans hs1 B4.out.size
        clear hb4 B3 B4 cF hown hB
        obtain ⟨C, hC⟩ : ∃ C, ((parts.take i).map fun q => Cu.rgI q.data.toList) = C := ⟨_, rfl⟩
        have hCl : C.length ≤ 1000000 := by rw [← hC]; simp; omega
        rw [hC] at O4 htk
        replace hC := mkHid hC
        go_wp2_with (first | (at_builtin; go_must (refine wp_appR rfl _ _ rfl G u3 C rfl O4.out ⟨zf, zf⟩ 1 (by rfl) hCl s4 ?_; intro y5 w6 hown5 hg5; refine Hid.out ?_)) | fail)
        rw [htk.out] at hown5
        have hB6 : Hid (Below G W1 w6) := (BB.out.alloc (by omega) (.cells #[.int .i64 zf, .int .i64 zf] 31)).grown hg5 (by simp; omega) (fun k hk => hnb.out k hk)
        replace hown5 := mkHid hown5
        have hs6 : G ≤ w6.heap.size := Nat.le_trans s4 (by have := hg5.size; simp at this; omega)
        clear hg5 hnb O4 BB htk
        refine mkHid ?_
        go_wp2
        go_roundw
        case rel => exact ⟨i + 1, by omega, by go_num, hown5, hB6, hs6⟩
        case measure => simp [Lib.intOf]; omega
      · rw [if_pos rfl] at htk
        generalize Cu.re fl = zf at *
        generalize Cu.re ll = zl at *
        go_wp2_with (go_at_call 12; fail)
        refine cC.out.mono ?_
        rintro e w2 ⟨rfl, nd, hnd⟩
        have hb2 : Below wr.heap.size wr w2 := by rw [hnd]; exact below_drewN (Below.refl _ _) nd
        have B2 := mkHid hb2
        clear cC hnd c0 hm1 hb2
        go_wp2_with (go_at_call 13; fail)
        refine (cF.out _).mono ?_
        rintro e w3 ⟨rfl, hb3⟩
        have B3 := mkHid (B2.out.trans (hb3.mono B2.out.size))
        clear hb3 B2
        go_wp2_with (go_at_call 13; fail)
        refine (cL.out _).mono ?_
        rintro e w4 ⟨rfl, hb4⟩
        have B4 := mkHid (B3.out.trans (hb4.mono B3.out.size))
        have O4 := mkHid (hown.out.below B4.out)
        have BB := mkHid (hB.out.trans (B4.out.mono hs1))
        have s4 : G ≤ w4.heap.size := Nat.le_trans hs1 B4.out.size
        clear hb4 B3 B4 cF cL hown hB
        obtain ⟨C, hC⟩ : ∃ C, ((parts.take i).map fun q => Cu.rgI q.data.toList) = C := ⟨_, rfl⟩
        have hCl : C.length ≤ 1000000 := by rw [← hC]; simp; omega
        rw [hC] at O4 htk
        replace hC := mkHid hC
        obtain ⟨mn, hmn⟩ : ∃ mn, min zf zl = mn := ⟨_, rfl⟩
        obtain ⟨mx, hmx⟩ : ∃ mx, max zf zl = mx := ⟨_, rfl⟩
        rw [hmn, hmx] at htk
        go_wp2_with (first | (at_builtin; go_must (refine wp_appR rfl _ _ rfl G u3 C rfl O4.out ⟨mn, mx⟩ 1 (by rfl) hCl s4 ?_; intro y5 w6 hown5 hg5; refine Hid.out ?_)) | fail)
        rw [htk.out] at hown5
        have hB6 : Hid (Below G W1 w6) := (BB.out.alloc (by omega) (.cells #[.int .i64 mn, .int .i64 mx] 31)).grown hg5 (by simp; omega) (fun k hk => hnb.out k hk)
        replace hown5 := mkHid hown5
        have hs6 : G ≤ w6.heap.size := Nat.le_trans s4 (by have := hg5.size; simp at this; omega)
        clear hg5 hnb O4 BB htk
        refine mkHid ?_
        go_wp2
        go_roundw
        case rel => exact ⟨i + 1, by omega, by go_num, hown5, hB6, hs6⟩
        case measure => simp [Lib.intOf]; omega
    · have hie : i = parts.length := by omega
      subst hie
      rw [List.take_length] at hown
      obtain ⟨P, hP⟩ : ∃ P, (parts.map fun q => Cu.rgI q.data.toList) = P := ⟨_, rfl⟩
      have hPb : P.length ≤ 1048576 := by rw [← hP, List.length_map]; omega
      have hYv : Y = if Rg.rsOk P then P else [] := by
        rw [← hY.out, ← hP]
        unfold Cu.rdI
        rw [List.map_map]
        rfl
      rw [hP] at hown
      obtain ⟨o, cap, rfl⟩ := hown.out.shape
      have cA := mkHid (implAreRanges o P cap G wr hown.out.gl hPb)
      replace hYv := mkHid hYv
      have hbe := mkHid (hbW.out.trans (hB.out.mono (by omega)))
      have hGw : w.heap.size ≤ G := by omega
      clear hP hm1 hY hcell Hsz
      generalize Rg.rsOk P = b at *
      go_wp2_with (go_at_call 14; fail)
      refine cA.out.mono ?_
      rintro e w5 ⟨rfl, hb5⟩
      have hbe5 := mkHid (hbe.out.trans (hb5.mono hbe.out.size))
      have hown5 := mkHid ((hown.out.below hb5).base hGw)
      clear cA hown hbe hb5 hbW hB
      cases b
      · have hYn : Hid (Y = []) := by show _ = _; rw [hYv.out]; rfl
        clear hYv hown5
        go_wp2
        go_ret
        rw [hYn.out]
        exact ⟨_, rfl, OwnR.nil _ _, hbe5.out⟩
      · have hYn : Hid (Y = P) := by show _ = _; rw [hYv.out]; rfl
        clear hYv
        go_wp2
        go_ret
        rw [hYn.out]
        exact ⟨_, rfl, hown5, hbe5.out⟩
end Go.Proofs.YtdlbkedjkkapgaaDoor
