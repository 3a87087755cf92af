
/- The walk of the program's scanner: a quoted text. -/
import Derived.Test.YtgibjilghnnnmaaDoorScan2
import Derived.Test.YtgibjilghnnnmaaDoorJumpN
import Derived.Test.YtgibjilghnnnmaaDoorPhrasePlain
import Derived.Test.YtgibjilghnnnmaaDoorDraw
namespace Go.Proofs.YtgibjilghnnnmaaDoor
open Go.RowKit Go.Lib
theorem fold_no (l : List UInt8) (a : Nat) (h : (Pl.b l a == 13) = false) : Pl.fold l a = false := by
  unfold Pl.fold
  cases hc : Pl.crlf l a with
  | false => rfl
  | true =>
    have := (Pl.crlf_b l a hc).1
    rw [this] at h
    cases h
/-- A text whose bytes are no line end's. -/
def Clean (s : ByteArray) : Prop := ∀ i (h : i < s.size), (s[i] == 13) = false ∧ Pl.lb s[i] = true
theorem Clean.nofold {s : ByteArray} (h : Clean s) (a : Nat) : Pl.fold s.data.toList a = false := by
  refine fold_no _ _ ?_
  by_cases ha : a < s.size
  · rw [Pl.b_lt _ a (by simpa using ha)]
    exact (h a ha).1
  · unfold Pl.b
    rw [List.getD_eq_getElem?_getD, List.getElem?_eq_none (by simp; omega)]
    rfl
/-- Where a quoted text's scan stands: what is said so far, what is left. -/
structure SaidAt (s : ByteArray) (L : List UInt8) (l : Nat) (cur beg : Nat) (w : World) (g : Nat) (v : Value) (wr : World) : Prop where
  ex : ∃ p r : List UInt8, p ++ r = L ∧ Own w.heap.size v p wr ∧ p.length ≤ cur ∧ (l = 0 ∧ s.data.toList.drop cur = Pl.qs r ++ [34] ∨ l = 1 ∧ ∃ c q, r = c :: q ∧ s.data.toList.drop cur = c :: (Pl.qs q ++ [34]))
  sc : Sc wr g s cur beg
  grown : w.grownBy wr (some g)
abbrev saidJ (s : ByteArray) (L : List UInt8) (b : Nat) (w : World) (g : Nat) (l : Nat) (a : Act) (wr : World) : Prop := ∃ (cur : Nat) (v u6 u7 u8 u9 u10 u11 u12 u13 u14 u15 u16 u17 u18 u19 u20 u21 u22 u23 u24 u25 u26 u27 : Value), Hid (SaidAt s L l cur b w g v wr) ∧ cur ≤ s.size ∧ l ≤ 1 ∧ a = { tmps := #[scp g, .int .u8 34, undef, undef, .string ⟨#[]⟩, v, u6, u7, u8, u9, u10, u11, u12, u13, u14, u15, u16, u17, u18, u19, u20, u21, u22, u23, u24, u25, u26, u27], defers := [] }
set_option maxHeartbeats 4000000 in
theorem scSaid (g : Nat) (s : ByteArray) (a b : Nat) (L : List UInt8) (w : World) (hs : s.size ≤ 100000) (hcl : Clean s) (h : Sc w g s a b) (ha : a ≤ s.size) (hL : s.data.toList.drop a = Pl.qs L ++ [34]) :
    Calls Tryd.prog 36 #[scp g, .int .u8 34] w fun e w' => e = .returned (.string ⟨L.toArray⟩) ∧ Sc w' g s s.size b ∧ w.grownBy w' (some g) := by
  obtain ⟨i0, hi, hy0, hy1, hy2⟩ := info_parts Tryd.info5
  have hgB := h.lt
  have H0 : Hid (SaidAt s L 0 a b w g (.slice none 0 0) w) := ⟨⟨[], L, rfl, Own.nil _ _, Nat.zero_le _, .inl ⟨rfl, hL⟩⟩, h, grown_refl _ _⟩
  clear h hL
  go_enter Tryd.func36, Tryd.ntmps36
  go_wp2
  refine wp_scope_from 0 (saidJ s L b w g) (fun _ _ w => s.size - atOf w g) rfl ?_ ?_ ?_
  · clear H0 ha
    rintro a' wr ⟨cur, v, u6, u7, u8, u9, u10, u11, u12, u13, u14, u15, u16, u17, u18, u19, u20, u21, u22, u23, u24, u25, u26, u27, HS, hcur, -, rfl⟩
    obtain ⟨⟨p, r, hpr, hown, hpl, hrest⟩, hsc, hgr⟩ := HS.out
    have hd : s.data.toList.drop cur = Pl.qs r ++ [34] := by
      rcases hrest with ⟨-, hd⟩ | ⟨h, -⟩
      · exact hd
      · cases h
    clear HS hrest
    have hlt : cur < s.size := by
      by_cases h : cur < s.size
      · exact h
      · rw [List.drop_eq_nil_of_le (by simp; omega)] at hd
        have := congrArg List.length hd
        simp at this
    have hat : Hid (atOf wr g = cur) := hsc.at
    have hcons := List.drop_eq_getElem_cons (l := s.data.toList) (i := cur) (by simpa using hlt)
    rw [Pl.at_list s cur hlt] at hcons
    have hb8 : s[cur].toNat < 256 := UInt8.toNat_lt _
    have hlb := (hcl cur hlt).2
    have hF := scFoldNo g s cur b wr hs hcur hsc (hcl.nofold cur)
    have HBy := (show Hid _ from fun (w : World) h => scByteYes g s cur b w hs h hlt hlb)
    have Hsc := (show Hid _ from hsc)
    have Hgr := (show Hid _ from hgr)
    clear hsc hgr hlb
    cases r with
    | nil =>
      have h34 : s[cur] = 34 := by
        rw [hcons] at hd
        simpa [Pl.qs] using (List.cons.inj hd).1
      have hend : cur + 1 = s.size := by
        have := congrArg List.length hd
        simp [Pl.qs] at this
        omega
      have hpL : p = L := by simpa using hpr
      subst hpL
      clear hd hcons hpr
      generalize hsk : s[cur] = c at *
      subst h34
      go_wp2_with fail
      refine hF.mono ?_
      rintro e w1 ⟨rfl, hb1⟩
      go_wp2_with fail
      refine (HBy.out _ (Hsc.out.below hb1)).mono ?_
      rintro e w2 ⟨rfl, s2, g2⟩
      have hown2 : Own w.heap.size v p w2 := Own.gr hown (grown_trans (grown_below hb1) g2) hgB
      have hbk := hown2.back (P := Tryd.prog) 22 9 Tryd.underlying22 Tryd.underlying5 Tryd.underlying9
      have G2 := (show Hid _ from grown_trans Hgr.out (grown_trans (grown_below hb1) g2))
      rw [hend] at s2
      have S2 := (show Hid _ from s2)
      rw [show (((34 : UInt8).toNat : Nat) : Int) = 34 from rfl]
      clear hF HBy Hsc Hgr hb1 g2 s2 hown hown2 hat
      go_wp2
      simp only [jumpN]
      go_ret
      exact ⟨rfl, S2.out, G2.out⟩
    | cons c q =>
      cases hq : (c == 34 || c == 92)
      · have hcs : s[cur] = c := by
          rw [hcons, Pl.qs, hq, if_neg (by simp)] at hd
          exact (List.cons.inj hd).1
        have hdn : s.data.toList.drop (cur + 1) = Pl.qs q ++ [34] := by
          rw [hcons, Pl.qs, hq, if_neg (by simp)] at hd
          exact (List.cons.inj hd).2
        rw [Bool.or_eq_false_iff] at hq
        have n34 : ((c.toNat : Int) == 34) = false := by
          cases h : ((c.toNat : Int) == 34)
          · rfl
          · rw [Pl.byte_eq c 34 _ rfl h] at hq; exact absurd hq.1 (by decide)
        have n92 : ((c.toNat : Int) == 92) = false := by
          cases h : ((c.toNat : Int) == 92)
          · rfl
          · rw [Pl.byte_eq c 92 _ rfl h] at hq; exact absurd hq.2 (by decide)
        have HN : Hid (s.data.toList.drop (cur + 1) = Pl.qs q ++ [34]) := hdn
        have HP : Hid ((p ++ [c]) ++ q = L) := by show _ = _; rw [← hpr]; simp
        clear hd hcons hpr hdn hq
        generalize hsk : s[cur] = c0 at *
        subst hcs
        go_wp2_with fail
        refine hF.mono ?_
        rintro e w1 ⟨rfl, hb1⟩
        go_wp2_with fail
        refine (HBy.out _ (Hsc.out.below hb1)).mono ?_
        rintro e w2 ⟨rfl, s2, g2⟩
        have hown2 : Own w.heap.size v p w2 := Own.gr hown (grown_trans (grown_below hb1) g2) hgB
        have G2 := (show Hid _ from grown_trans Hgr.out (grown_trans (grown_below hb1) g2))
        have S2 := (show Hid _ from s2)
        have hw2 : w.heap.size ≤ w2.heap.size := G2.out.size
        clear hF HBy Hsc Hgr hb1 g2 s2 hown
        go_wp2_with (at_builtin; go_must (refine wp_app (W := w2) rfl _ _ 22 rfl i0 Tryd.underlying22 hi hy0 hy1 hy2 w.heap.size v p rfl hown2 _ [c0] rfl 1 1 rfl rfl (by simp; omega) hw2 (Below.refl _ _) ?_; intro v' w' hown' hb'))
        have S3 : Sc w' g s (cur + 1) b := ⟨by rw [hb'.block g (by omega)]; exact S2.out.blk⟩
        have G3 : w.grownBy w' (some g) := ⟨hb'.os.trans G2.out.os, hb'.tape.trans G2.out.tape, hb'.output.trans G2.out.output, Nat.le_trans G2.out.size hb'.size, fun i hi hr => (hb'.block i hi).trans (G2.out.block i hi hr)⟩
        go_step3
        refine ⟨⟨cur + 1, v', _, _, _, _, _, _, _, _, _, _, _, _, _, _, _, _, _, _, _, _, _, _, ⟨⟨p ++ [c0], q, HP.out, hown', by simp; omega, .inl ⟨rfl, HN.out⟩⟩, S3, G3⟩, by omega, by omega, rfl⟩, ?_⟩
        rw [S3.at, hat.out]
        omega
      · have hcs : s[cur] = 92 := by
          rw [hcons, Pl.qs, hq, if_pos rfl] at hd
          exact (List.cons.inj hd).1
        have hdn : s.data.toList.drop (cur + 1) = c :: (Pl.qs q ++ [34]) := by
          rw [hcons, Pl.qs, hq, if_pos rfl] at hd
          exact (List.cons.inj hd).2
        have HN : Hid (s.data.toList.drop (cur + 1) = c :: (Pl.qs q ++ [34])) := hdn
        have HP : Hid (p ++ c :: q = L) := hpr
        clear hd hcons hpr hdn hq
        generalize hsk : s[cur] = c0 at *
        subst hcs
        go_wp2_with fail
        refine hF.mono ?_
        rintro e w1 ⟨rfl, hb1⟩
        go_wp2_with fail
        refine (HBy.out _ (Hsc.out.below hb1)).mono ?_
        rintro e w2 ⟨rfl, s2, g2⟩
        have hown2 : Own w.heap.size v p w2 := Own.gr hown (grown_trans (grown_below hb1) g2) hgB
        have G2 := (show Hid _ from grown_trans Hgr.out (grown_trans (grown_below hb1) g2))
        have S2 := (show Hid _ from s2)
        rw [show (((92 : UInt8).toNat : Nat) : Int) = 92 from rfl]
        clear hF HBy Hsc Hgr hb1 g2 s2 hown
        go_wp2
        go_step3
        refine ⟨⟨cur + 1, v, _, _, _, _, _, _, _, _, _, _, _, _, _, _, _, _, _, _, _, _, _, _, ⟨⟨p, c :: q, HP.out, hown2, by omega, .inr ⟨rfl, c, q, rfl, HN.out⟩⟩, S2.out, G2.out⟩, by omega, by omega, rfl⟩, ?_⟩
        rw [S2.out.at, hat.out]
        omega
  · clear H0 ha
    rintro l a' wr hl0 ⟨cur, v, u6, u7, u8, u9, u10, u11, u12, u13, u14, u15, u16, u17, u18, u19, u20, u21, u22, u23, u24, u25, u26, u27, HS, hcur, hl, rfl⟩
    obtain rfl : l = 1 := by omega
    obtain ⟨⟨p, r, hpr, hown, hpl, hrest⟩, hsc, hgr⟩ := HS.out
    obtain ⟨c, q, rfl, hd⟩ : ∃ c q, r = c :: q ∧ s.data.toList.drop cur = c :: (Pl.qs q ++ [34]) := by
      rcases hrest with ⟨h, -⟩ | ⟨-, h⟩
      · cases h
      · exact h
    clear HS hrest hl hl0
    have hlt : cur < s.size := by
      by_cases h : cur < s.size
      · exact h
      · rw [List.drop_eq_nil_of_le (by simp; omega)] at hd
        cases hd
    have hat : Hid (atOf wr g = cur) := hsc.at
    have hcons := List.drop_eq_getElem_cons (l := s.data.toList) (i := cur) (by simpa using hlt)
    rw [Pl.at_list s cur hlt] at hcons
    have hb8 : s[cur].toNat < 256 := UInt8.toNat_lt _
    have hBy := scByteYes g s cur b wr hs hsc hlt (hcl cur hlt).2
    have Hgr := (show Hid _ from hgr)
    rw [hcons] at hd
    have hcs : s[cur] = c := (List.cons.inj hd).1
    have HN : Hid (s.data.toList.drop (cur + 1) = Pl.qs q ++ [34]) := (List.cons.inj hd).2
    have HP : Hid ((p ++ [c]) ++ q = L) := by show _ = _; rw [← hpr]; simp
    clear hd hcons hpr hgr hsc
    generalize hsk : s[cur] = c0 at *
    subst hcs
    refine ⟨_, rfl, ?_⟩
    go_wp2_with fail
    refine hBy.mono ?_
    rintro e w2 ⟨rfl, s2, g2⟩
    have hown2 : Own w.heap.size v p w2 := Own.gr hown g2 hgB
    have G2 := (show Hid _ from grown_trans Hgr.out g2)
    have S2 := (show Hid _ from s2)
    have hw2 : w.heap.size ≤ w2.heap.size := G2.out.size
    clear hBy Hgr g2 s2 hown
    go_wp2_with (at_builtin; go_must (refine wp_app (W := w2) rfl _ _ 22 rfl i0 Tryd.underlying22 hi hy0 hy1 hy2 w.heap.size v p rfl hown2 _ [c0] rfl 1 1 rfl rfl (by simp; omega) hw2 (Below.refl _ _) ?_; intro v' w' hown' hb'))
    have S3 : Sc w' g s (cur + 1) b := ⟨by rw [hb'.block g (by omega)]; exact S2.out.blk⟩
    have G3 : w.grownBy w' (some g) := ⟨hb'.os.trans G2.out.os, hb'.tape.trans G2.out.tape, hb'.output.trans G2.out.output, Nat.le_trans G2.out.size hb'.size, fun i hi hr => (hb'.block i hi).trans (G2.out.block i hi hr)⟩
    go_step3
    refine ⟨⟨cur + 1, v', _, _, _, _, _, _, _, _, _, _, _, _, _, _, _, _, _, _, _, _, _, _, ⟨⟨p ++ [c0], q, HP.out, hown', by simp; omega, .inl ⟨rfl, HN.out⟩⟩, S3, G3⟩, by omega, by omega, rfl⟩, ?_⟩
    rw [S3.at, hat.out]
    omega
  · intro hX
    go_wp2
    go_step3
    rename_i hK
    exact hK _ _ (hX _ _ ⟨a, .slice none 0 0, _, _, _, _, _, _, _, _, _, _, _, _, _, _, _, _, _, _, _, _, _, _, H0, ha, by omega, rfl⟩)
end Go.Proofs.YtgibjilghnnnmaaDoor
