
/- Plain mathematics of domains and boxes: lists of bytes alone; no program. -/

/- The walk of the program's scanner: what is said up to a byte, whatever stands behind it. -/

/- The walk of the program's scanner: a quoted text, a literal. -/
import Derived.Test.YtadoifnfgoonaaaGreatDoorPhrasePlain
import Derived.Test.YtadoifnfgoonaaaGreatDoorTokenH
namespace Go.Proofs.YtadoifnfgoonaaaGreatDoor
open Go.Lib
namespace Pl
/-- A byte of a literal. -/
def litB (c : UInt8) : Bool := decide (32 ≤ c.toNat) && (decide (c.toNat ≤ 126) && (!(c == 91) && (!(c == 93) && !(c == 92))))
/-- What stands between the first byte and the last. -/
def mid (l : List UInt8) : List UInt8 := (l.take (l.length - 1)).drop 1
def isLit (l : List UInt8) : Bool := hasPrefix l [91] && (hasSuffix (trimPrefix l [91]) [93] && (trimSuffix (trimPrefix l [91]) [93]).all litB)
def domI (l : List UInt8) : Bool := decide (l.length ≤ 255) && (scan 46 false l || isLit l)
set_option maxRecDepth 20000 in
theorem atom_open : atom 91 = false := by decide +kernel
set_option maxRecDepth 20000 in
theorem scan_open (r : List UInt8) : scan 46 false (91 :: r) = false := by
  rw [scan, if_neg (by rw [atom_open]; simp), if_neg (by decide)]
set_option maxRecDepth 20000 in
/-- A text that opens with no bracket. -/
theorem dom_atoms (l : List UInt8) (c : UInt8) (r : List UInt8) (e : l = c :: r) (h : c ≠ 91) (hn : l.length ≤ 255) : domI l = scan 46 false l := by
  have hp : hasPrefix l [91] = false := by rw [e, hasPrefix]; simp [List.isPrefixOf, Ne.symm h]
  rw [domI, isLit, hp, decide_eq_true hn]
  simp
set_option maxRecDepth 20000 in
theorem suf (r : List UInt8) (d : UInt8) (h : 1 ≤ r.length) : hasSuffix r [d] = (r[r.length - 1] == d) := by
  obtain ⟨x, y, rfl⟩ : ∃ x y, r = x ++ [y] := ⟨r.dropLast, r.getLast (by intro e; rw [e] at h; simp at h), (List.dropLast_concat_getLast _).symm⟩
  rw [hasSuffix]
  simp [List.isSuffixOf, List.isPrefixOf]
  by_cases e : d = y
  · subst e; simp
  · have : (d == y) = false := by simpa using e
    have : (y == d) = false := by simpa using Ne.symm e
    simp [*]
set_option maxRecDepth 20000 in
theorem dom_lit (l : List UInt8) (r : List UInt8) (e : l = 91 :: r) (hn : l.length ≤ 255) : domI l = isLit l := by
  rw [domI, decide_eq_true hn, e, scan_open]
  simp
set_option maxRecDepth 20000 in
theorem lit_short (l : List UInt8) (r : List UInt8) (e : l = 91 :: r) (h : l.length < 2) : isLit l = false := by
  have : r = [] := by rw [e] at h; simp at h; exact List.length_eq_zero_iff.1 (by omega)
  rw [e, this]; rfl
set_option maxRecDepth 20000 in
theorem lit_open (l : List UInt8) (r : List UInt8) (e : l = 91 :: r) (h : 2 ≤ l.length) (hl : l[l.length - 1] ≠ 93) : isLit l = false := by
  subst e
  have h1 : 1 ≤ r.length := by simpa using h
  have hp : hasPrefix (91 :: r) [91] = true := by simp [hasPrefix, List.isPrefixOf]
  have hg : (91 :: r)[(91 :: r).length - 1]'(by simp) = r[r.length - 1] := by
    have : (91 :: r).length - 1 = (r.length - 1) + 1 := by simp; omega
    simp only [this, List.getElem_cons_succ]
  rw [hg] at hl
  rw [isLit, trimPrefix, hp, if_pos rfl]
  simp only [List.length_cons, List.length_nil, List.drop_succ_cons, List.drop_zero]
  rw [suf r 93 h1]
  have : (r[r.length - 1] == 93) = false := by simpa using hl
  rw [this]
  simp
set_option maxRecDepth 20000 in
theorem lit_mid (l : List UInt8) (r : List UInt8) (e : l = 91 :: r) (h : 2 ≤ l.length) (hl : l[l.length - 1] = 93) : isLit l = (mid l).all litB := by
  subst e
  have h1 : 1 ≤ r.length := by simpa using h
  have hp : hasPrefix (91 :: r) [91] = true := by simp [hasPrefix, List.isPrefixOf]
  have hg : (91 :: r)[(91 :: r).length - 1]'(by simp) = r[r.length - 1] := by
    have : (91 :: r).length - 1 = (r.length - 1) + 1 := by simp; omega
    simp only [this, List.getElem_cons_succ]
  rw [hg] at hl
  have hs : hasSuffix r [93] = true := by rw [suf r 93 h1, hl]; rfl
  have e1 : trimPrefix (91 :: r) [91] = r := by rw [trimPrefix, hp, if_pos rfl]; rfl
  rw [isLit, hp, e1, hs, trimSuffix, hs, if_pos rfl, mid]
  have : (91 :: r).length - 1 = (r.length - 1) + 1 := by simp; omega
  rw [this]
  simp
set_option maxRecDepth 20000 in
theorem mid_step (l : List UInt8) (k : Nat) (hk : k < l.length - 1) : (((l.take (l.length - 1)).drop k).all litB) = (litB (l[k]'(by omega)) && ((l.take (l.length - 1)).drop (k + 1)).all litB) := by
  rw [List.drop_eq_getElem_cons (by simp; omega), List.all_cons]
  simp
set_option maxRecDepth 20000 in
theorem mid_done (l : List UInt8) (k : Nat) (hk : l.length - 1 ≤ k) : (((l.take (l.length - 1)).drop k).all litB) = true := by
  rw [List.drop_eq_nil_of_le (by simp; omega)]
  rfl
end Pl
end Go.Proofs.YtadoifnfgoonaaaGreatDoor
namespace Go.Proofs.YtadoifnfgoonaaaGreatDoor
open Go.RowKit Go.Lib
variable {R : List Value × TypeId}
/-- What is written says this, up to the byte E. -/
inductive Sd (E : UInt8) : List UInt8 → List UInt8 → Prop
  | nil : Sd E [] []
  | one (c : UInt8) (x y : List UInt8) (h1 : (c == E) = false) (h2 : (c == 92) = false) (h : Sd E x y) : Sd E (c :: x) (c :: y)
  | two (c : UInt8) (x y : List UInt8) (h : Sd E x y) : Sd E (92 :: c :: x) (c :: y)
set_option maxRecDepth 20000 in
theorem Sd.qs : ∀ L : List UInt8, Sd 34 (Pl.qs L) L
  | [] => .nil
  | c :: L => by
    rw [Pl.qs]
    cases h : (c == 34 || c == 92)
    · rw [if_neg (by simp)]
      rw [Bool.or_eq_false_iff] at h
      exact .one c _ _ h.1 h.2 (Sd.qs L)
    · rw [if_pos rfl]
      exact .two c _ _ (Sd.qs L)
set_option maxRecDepth 20000 in
theorem Sd.lit : ∀ L : List UInt8, L.all Pl.litB = true → Sd 93 L L
  | [], _ => .nil
  | c :: L, h => by
    rw [List.all_cons, Bool.and_eq_true] at h
    have h2 := h.1
    unfold Pl.litB at h2
    simp only [Bool.and_eq_true, Bool.not_eq_true'] at h2
    exact .one c _ _ h2.2.2.2.1 h2.2.2.2.2 (Sd.lit L h.2)
set_option maxRecDepth 20000 in
theorem byteNe (c E : UInt8) (h : (c == E) = false) : ((c.toNat : Int) == (E.toNat : Int)) = false := by
  cases h2 : ((c.toNat : Int) == (E.toNat : Int))
  · rfl
  · have h3 : c.toNat = E.toNat := Int.ofNat_inj.1 (eq_of_beq h2)
    rw [UInt8.toNat_inj.1 h3] at h
    simp at h
/-- Where a quoted text's scan stands: what is said so far, what is left. -/
structure SaidAt (R : List Value × TypeId) (E : UInt8) (G : List UInt8) (s : ByteArray) (L : List UInt8) (l : Nat) (cur beg : Nat) (w : World) (g : Nat) (v : Value) (wr : World) : Prop where
  ex : ∃ p r : List UInt8, p ++ r = L ∧ Own w.heap.size v p wr ∧ p.length ≤ cur ∧ (l = 0 ∧ (∃ x, Sd E x r ∧ s.data.toList.drop cur = x ++ E :: G) ∨ l = 1 ∧ ∃ c q x, r = c :: q ∧ Sd E x q ∧ s.data.toList.drop cur = c :: (x ++ E :: G))
  sc : Sc R wr g s cur beg
  grown : w.grownBy wr (some g)
abbrev saidJ (R : List Value × TypeId) (E : UInt8) (G : List UInt8) (s : ByteArray) (L : List UInt8) (b : Nat) (w : World) (g : Nat) (l : Nat) (a : Act) (wr : World) : Prop := ∃ (cur : Nat) (v u6 u7 u8 u9 u10 u11 u12 u13 u14 u15 u16 u17 u18 u19 u20 u21 u22 u23 u24 u25 u26 u27 : Value), Hid (SaidAt R E G s L l cur b w g v wr) ∧ cur ≤ s.size ∧ l ≤ 1 ∧ a = { tmps := #[scp g, .int .u8 (E.toNat : Int), undef, undef, .string ⟨#[]⟩, v, u6, u7, u8, u9, u10, u11, u12, u13, u14, u15, u16, u17, u18, u19, u20, u21, u22, u23, u24, u25, u26, u27], defers := [] }
set_option maxRecDepth 20000 in
set_option maxHeartbeats 4000000 in
theorem scSaid (E : UInt8) (hE : (E == 92) = false) (X G : List UInt8) (g : Nat) (s : ByteArray) (a b : Nat) (L : List UInt8) (w : World) (hs : s.size ≤ 100000) (hcl : Clean s) (h : Sc R w g s a b) (ha : a ≤ s.size) (hX : Sd E X L) (hL : s.data.toList.drop a = X ++ E :: G) :
    Calls Tryz.prog 80 #[scp g, .int .u8 (E.toNat : Int)] w fun e w' => e = .returned (.string ⟨L.toArray⟩) ∧ Sc R w' g s (s.size - G.length) b ∧ w.grownBy w' (some g) := by
  obtain ⟨i0, hi, hy0, hy1, hy2⟩ := info_parts Tryz.info5
  have hgB := h.lt
  have H0 : Hid (SaidAt R E G s L 0 a b w g (.slice none 0 0) w) := ⟨⟨[], L, rfl, Own.nil _ _, Nat.zero_le _,   .inl ⟨rfl, X, hX, hL⟩⟩, h, grown_refl _ _⟩
  clear h hL hX
  go_enter Tryz.func80, Tryz.ntmps80
  go_wp2
  refine wp_scope_from 0 (saidJ R E G s L b w g) (fun _ _ w => s.size - atOf w g) rfl ?_ ?_ ?_
  · clear H0 ha
    rintro a' wr ⟨cur, v, u6, u7, u8, u9, u10, u11, u12, u13, u14, u15, u16, u17, u18, u19, u20, u21, u22, u23, u24, u25, u26, u27, HS, hcur, -, rfl⟩
    obtain ⟨⟨p, r, hpr, hown, hpl, hrest⟩, hsc, hgr⟩ := HS.out
    obtain ⟨x, hx, hd⟩ : ∃ x, Sd E x r ∧ s.data.toList.drop cur = x ++ E :: G := by
      rcases hrest with ⟨-, hd⟩ | ⟨h, -⟩
      · exact hd
      · cases h
    clear HS hrest
    have hlt : cur < s.size := by
      by_cases h : cur < s.size
      · exact h
      · rw [List.drop_eq_nil_of_le (by simp; omega)] at hd
        have := congrArg List.length hd
        simp at this
    have hat : Hid (atOf wr g = cur) := hsc.at
    have hcons := List.drop_eq_getElem_cons (l := s.data.toList) (i := cur) (by simpa using hlt)
    rw [Pl.at_list s cur hlt] at hcons
    have hb8 : s[cur].toNat < 256 := UInt8.toNat_lt _
    have hlb := (hcl cur hlt).2
    have hF := scFoldNo (R := R) g s cur b wr hs hcur hsc (hcl.nofold cur)
    have HBy := (show Hid _ from fun (w : World) h => scByteYes (R := R) g s cur b w hs h hlt hlb)
    have Hsc := (show Hid _ from hsc)
    have Hgr := (show Hid _ from hgr)
    clear hsc hgr hlb
    cases hx with
    | nil =>
      have h34 : s[cur] = E := by
        rw [hcons] at hd
        exact (List.cons.inj hd).1
      have hend : cur + 1 = s.size - G.length := by
        have := congrArg List.length hd
        simp at this
        omega
      have hpL : p = L := by simpa using hpr
      subst hpL
      have hEE : ((E.toNat : Int) == (E.toNat : Int)) = true := by simp
      clear hd hcons hpr
      generalize hsk : s[cur] = c at *
      subst h34
      go_wp2_with fail
      refine hF.mono ?_
      rintro e w1 ⟨rfl, hb1⟩
      go_wp2_with fail
      refine (HBy.out _ (Hsc.out.below hb1)).mono ?_
      rintro e w2 ⟨rfl, s2, g2⟩
      have hown2 : Own w.heap.size v p w2 := Own.gr hown (grown_trans (grown_below hb1) g2) hgB
      have hbk := hown2.back (P := Tryz.prog) 22 9 Tryz.underlying22 Tryz.underlying5 Tryz.underlying9
      have G2 := (show Hid _ from grown_trans Hgr.out (grown_trans (grown_below hb1) g2))
      rw [hend] at s2
      have S2 := (show Hid _ from s2)
      clear hF HBy Hsc Hgr hb1 g2 s2 hown hown2 hat
      go_wp2
      simp only [jumpN]
      go_ret
      exact ⟨rfl, S2.out, G2.out⟩
    | one c x q hq1 hq2 hx' =>
        have hcs : s[cur] = c := by
          rw [hcons] at hd
          exact (List.cons.inj hd).1
        have hdn : s.data.toList.drop (cur + 1) = x ++ E :: G := by
          rw [hcons] at hd
          exact (List.cons.inj hd).2
        have n34 := byteNe c E hq1
        have n92 : ((c.toNat : Int) == 92) = false := byteNe c 92 hq2
        have HN : Hid (∃ x, Sd E x q ∧ s.data.toList.drop (cur + 1) = x ++ E :: G) := ⟨x, hx', hdn⟩
        have HP : Hid ((p ++ [c]) ++ q = L) := by show _ = _; rw [← hpr]; simp
        clear hd hcons hpr hdn hq1 hq2 hx'
        generalize hsk : s[cur] = c0 at *
        subst hcs
        go_wp2_with fail
        refine hF.mono ?_
        rintro e w1 ⟨rfl, hb1⟩
        go_wp2_with fail
        refine (HBy.out _ (Hsc.out.below hb1)).mono ?_
        rintro e w2 ⟨rfl, s2, g2⟩
        have hown2 : Own w.heap.size v p w2 := Own.gr hown (grown_trans (grown_below hb1) g2) hgB
        have G2 := (show Hid _ from grown_trans Hgr.out (grown_trans (grown_below hb1) g2))
        have S2 := (show Hid _ from s2)
        have hw2 : w.heap.size ≤ w2.heap.size := G2.out.size
        clear hF HBy Hsc Hgr hb1 g2 s2 hown
        go_wp2_with (at_builtin; go_must (refine wp_app (W := w2) rfl _ _ 22 rfl i0 Tryz.underlying22 hi hy0 hy1 hy2 w.heap.size v p rfl hown2 _ [c0] rfl 1 1 rfl rfl (by simp; omega) hw2 (Below.refl _ _) ?_; intro v' w' hown' hb'))
        have S3 : Sc R w' g s (cur + 1) b := ⟨by rw [hb'.block g (by omega)]; exact S2.out.blk⟩
        have G3 : w.grownBy w' (some g) := ⟨hb'.os.trans G2.out.os, hb'.tape.trans G2.out.tape, hb'.output.trans G2.out.output, Nat.le_trans G2.out.size hb'.size, fun i hi hr => (hb'.block i hi).trans (G2.out.block i hi hr)⟩
        go_step3
        refine ⟨⟨cur + 1, v', _, _, _, _, _, _, _, _, _, _, _, _, _, _, _, _, _, _, _, _, _, _, ⟨⟨p ++ [c0], q, HP.out, hown', by simp; omega, .inl ⟨rfl, HN.out⟩⟩, S3, G3⟩, by omega, by omega, rfl⟩, ?_⟩
        rw [S3.at, hat.out]
        omega
    | two c x q hx' =>
        have hcs : s[cur] = 92 := by
          rw [hcons] at hd
          exact (List.cons.inj hd).1
        have hdn : s.data.toList.drop (cur + 1) = c :: (x ++ E :: G) := by
          rw [hcons] at hd
          exact (List.cons.inj hd).2
        have n34 : (((92 : UInt8).toNat : Int) == (E.toNat : Int)) = false := byteNe 92 E (by rw [beq_eq_false_iff_ne] at hE ⊢; exact fun e => hE e.symm)
        have HN : Hid (∃ x, Sd E x q ∧ s.data.toList.drop (cur + 1) = c :: (x ++ E :: G)) := ⟨x, hx', hdn⟩
        have HP : Hid (p ++ c :: q = L) := hpr
        clear hd hcons hpr hdn hx'
        generalize hsk : s[cur] = c0 at *
        subst hcs
        go_wp2_with fail
        refine hF.mono ?_
        rintro e w1 ⟨rfl, hb1⟩
        go_wp2_with fail
        refine (HBy.out _ (Hsc.out.below hb1)).mono ?_
        rintro e w2 ⟨rfl, s2, g2⟩
        have hown2 : Own w.heap.size v p w2 := Own.gr hown (grown_trans (grown_below hb1) g2) hgB
        have G2 := (show Hid _ from grown_trans Hgr.out (grown_trans (grown_below hb1) g2))
        have S2 := (show Hid _ from s2)
        rw [show (((92 : UInt8).toNat : Nat) : Int) = 92 from rfl] at n34 ⊢
        clear hF HBy Hsc Hgr hb1 g2 s2 hown
        go_wp2
        go_step3
        refine ⟨⟨cur + 1, v, _, _, _, _, _, _, _, _, _, _, _, _, _, _, _, _, _, _, _, _, _, _, ⟨⟨p, c :: q, HP.out, hown2, by omega, .inr ⟨rfl, c, q, HN.out.choose, rfl, HN.out.choose_spec⟩⟩, S2.out, G2.out⟩, by omega, by omega, rfl⟩, ?_⟩
        rw [S2.out.at, hat.out]
        omega
  · clear H0 ha
    rintro l a' wr hl0 ⟨cur, v, u6, u7, u8, u9, u10, u11, u12, u13, u14, u15, u16, u17, u18, u19, u20, u21, u22, u23, u24, u25, u26, u27, HS, hcur, hl, rfl⟩
    obtain rfl : l = 1 := by omega
    obtain ⟨⟨p, r, hpr, hown, hpl, hrest⟩, hsc, hgr⟩ := HS.out
    obtain ⟨c, q, x, rfl, hx, hd⟩ : ∃ c q x, r = c :: q ∧ Sd E x q ∧ s.data.toList.drop cur = c :: (x ++ E :: G) := by
      rcases hrest with ⟨h, -⟩ | ⟨-, h⟩
      · cases h
      · exact h
    clear HS hrest hl hl0
    have hlt : cur < s.size := by
      by_cases h : cur < s.size
      · exact h
      · rw [List.drop_eq_nil_of_le (by simp; omega)] at hd
        cases hd
    have hat : Hid (atOf wr g = cur) := hsc.at
    have hcons := List.drop_eq_getElem_cons (l := s.data.toList) (i := cur) (by simpa using hlt)
    rw [Pl.at_list s cur hlt] at hcons
    have hb8 : s[cur].toNat < 256 := UInt8.toNat_lt _
    have hBy := scByteYes (R := R) g s cur b wr hs hsc hlt (hcl cur hlt).2
    have Hgr := (show Hid _ from hgr)
    rw [hcons] at hd
    have hcs : s[cur] = c := (List.cons.inj hd).1
    have HN : Hid (∃ x, Sd E x q ∧ s.data.toList.drop (cur + 1) = x ++ E :: G) := ⟨x, hx, (List.cons.inj hd).2⟩
    have HP : Hid ((p ++ [c]) ++ q = L) := by show _ = _; rw [← hpr]; simp
    clear hd hcons hpr hgr hsc hx
    generalize hsk : s[cur] = c0 at *
    subst hcs
    refine ⟨_, rfl, ?_⟩
    go_wp2_with fail
    refine hBy.mono ?_
    rintro e w2 ⟨rfl, s2, g2⟩
    have hown2 : Own w.heap.size v p w2 := Own.gr hown g2 hgB
    have G2 := (show Hid _ from grown_trans Hgr.out g2)
    have S2 := (show Hid _ from s2)
    have hw2 : w.heap.size ≤ w2.heap.size := G2.out.size
    clear hBy Hgr g2 s2 hown
    go_wp2_with (at_builtin; go_must (refine wp_app (W := w2) rfl _ _ 22 rfl i0 Tryz.underlying22 hi hy0 hy1 hy2 w.heap.size v p rfl hown2 _ [c0] rfl 1 1 rfl rfl (by simp; omega) hw2 (Below.refl _ _) ?_; intro v' w' hown' hb'))
    have S3 : Sc R w' g s (cur + 1) b := ⟨by rw [hb'.block g (by omega)]; exact S2.out.blk⟩
    have G3 : w.grownBy w' (some g) := ⟨hb'.os.trans G2.out.os, hb'.tape.trans G2.out.tape, hb'.output.trans G2.out.output, Nat.le_trans G2.out.size hb'.size, fun i hi hr => (hb'.block i hi).trans (G2.out.block i hi hr)⟩
    go_step3
    refine ⟨⟨cur + 1, v', _, _, _, _, _, _, _, _, _, _, _, _, _, _, _, _, _, _, _, _, _, _, ⟨⟨p ++ [c0], q, HP.out, hown', by simp; omega, .inl ⟨rfl, HN.out⟩⟩, S3, G3⟩, by omega, by omega, rfl⟩, ?_⟩
    rw [S3.at, hat.out]
    omega
  · intro hX
    go_wp2
    go_step3
    rename_i hK
    exact hK _ _ (hX _ _ ⟨a, .slice none 0 0, _, _, _, _, _, _, _, _, _, _, _, _, _, _, _, _, _, _, _, _, _, _, H0, ha, by omega, rfl⟩)
end Go.Proofs.YtadoifnfgoonaaaGreatDoor
namespace Go.Proofs.YtadoifnfgoonaaaGreatDoor
open Go.RowKit Go.Lib
variable {R : List Value × TypeId}
set_option maxRecDepth 20000 in
set_option maxHeartbeats 4000000 in
theorem scTokQuoted (X G : List UInt8) (g : Nat) (s : ByteArray) (a b : Nat) (z : Nat) (L : List UInt8) (w : World) (hs : s.size ≤ 100000) (hcl : Clean s) (ha : a ≤ s.size) (h : Sc R w g s a b) (hz : Pl.stop Pl.blank s.data.toList a = z) (hzs : z < s.size) (h34 : s[z] = 34) (hX : Sd 34 X L) (hL : s.data.toList.drop (z + 1) = X ++ 34 :: G) :
    Calls Tryz.prog 50 #[scp g] w fun e w' => e = .returned (.tuple #[.agg #[.int .i64 2, .string ⟨L.toArray⟩, .int .i64 z], .bool true]) ∧ Sc R w' g s (s.size - G.length) z ∧ w.grownBy w' (some g) := by
  have hgl := h.lt
  obtain ⟨W, hW⟩ : ∃ W, W = w.alloc tok0 := ⟨_, rfl⟩
  have hbW : Below w.heap.size w W := by rw [hW]; exact (Below.refl _ _).alloc (Nat.le_refl _) _
  have hr0 : W.heap[w.heap.size]? = some tok0 := by rw [hW]; exact hp_alloc w tok0
  have hP := scPass kindBlank g s a b W hs ha (h.below hbW)
  rw [hz] at hP
  have hzl : z ≤ s.size := by omega
  have HF := (show Hid _ from fun (w : World) h => scFoldNo (R := R) g s z b w hs hzl h (hcl.nofold z))
  have HE := (show Hid _ from fun (w : World) h => scEnded (R := R) g s z b w h)
  have hne : ((z : Int) == (s.size : Int)) = false := by simp; omega
  have HBy := (show Hid _ from fun (w : World) h => scByteYes (R := R) g s z z w hs h hzs (hcl z hzs).2)
  have h8 : s[z].toNat < 256 := UInt8.toNat_lt _
  clear h
  have hA := fun w => implAtomByte s[z] w
  rw [h34, show Pl.atom 34 = false from by decide +kernel] at hA
  have HSd := (show Hid _ from fun (w : World) h => scSaid (R := R) 34 (by decide) X G g s (z + 1) z L w hs hcl h (by omega) hX hL)
  clear hL hX
  rw [show (((34 : UInt8).toNat : Nat) : Int) = 34 from rfl] at HSd
  generalize hsk : s[z] = cz at *
  subst h34
  go_enter Tryz.func50, Tryz.ntmps50
  go_wp2
  refine wp_scope_once ?_
  go_wp2_with fail
  go_step3
  go_wp2_with fail
  rw [← hW]
  refine hP.mono ?_
  rintro e w1 ⟨rfl, s1, g1⟩
  have hr1 := (g1.block _ (hp_lt hr0) (by intro e; have := Option.some.inj e; omega)).trans hr0
  go_wp2_with fail
  refine (HF.out _ s1).mono ?_
  rintro e w2 ⟨rfl, hb2⟩
  have s2 := s1.below hb2
  have hr2 := (hb2.block _ (hp_lt hr1)).trans hr1
  go_wp2_with fail
  refine (HE.out _ s2).mono ?_
  rintro e w3 ⟨rfl, hb3⟩
  have s3 := s2.below hb3
  have hr3 : w3.heap[w.heap.size]? = some (.cells #[.int .i64 0, .string ⟨#[]⟩, .int .i64 0] 107 (0, 0)) := (hb3.block _ (hp_lt hr2)).trans hr2
  have G3 : w.grownBy w3 (some g) := grown_trans (grown_below hbW) (grown_trans g1 (grown_trans (grown_below hb2) (grown_below hb3)))
  rw [hne]
  clear hP HF HE hr0 hr1 hr2 s1 s2 g1 hb2 hb3 hbW hW hne
  have q1 := s3.c1
  have q2 := s3.c2
  have qf := s3.f2
  obtain ⟨c0, c1, c2⟩ := tok_cells hr3
  have cf : ∀ j, w3.frozen? ⟨w.heap.size, j, none⟩ = false := fun j => by simp [World.frozen?, hr3]
  obtain ⟨Xw, hXw⟩ : ∃ X, X = (w3.setCell ⟨g, 2, none⟩ (.int .i64 (z : Int))).setCell ⟨w.heap.size, 2, none⟩ (.int .i64 (z : Int)) := ⟨_, rfl⟩
  have sX : Sc R Xw g s z z := by
    rw [hXw]
    have := s3.set2 (z : Int) z rfl
    exact ⟨by simp [World.setCell, Array.getElem?_modify, s3.blk, show w.heap.size ≠ g by omega]⟩
  have rX : Xw.heap[w.heap.size]? = some (.cells #[.int .i64 0, .string ⟨#[]⟩, .int .i64 (z : Int)] 107 (0, 0)) := by
    rw [hXw]; simp [World.setCell, Array.getElem?_modify, hr3, show g ≠ w.heap.size by omega]
  have GX : w.grownBy Xw (some g) := by
    rw [hXw]
    refine ⟨G3.os, G3.tape, G3.output, by simpa [World.setCell] using G3.size, fun i hi hr => ?_⟩
    rw [← G3.block i hi hr]
    simp [World.setCell, Array.getElem?_modify, show w.heap.size ≠ i by omega, show g ≠ i from fun e => hr (by rw [e])]
  go_wp2_with fail
  rw [← hXw]
  refine (HBy.out _ sX).mono ?_
  rintro e w4 ⟨rfl, s4, g4⟩
  have r4 := (g4.block _ (hp_lt rX) (by intro e; have := Option.some.inj e; omega)).trans rX
  have G4 : w.grownBy w4 (some g) := grown_trans GX g4
  clear hXw q1 q2 qf c0 c1 c2 cf sX rX GX g4 HBy s3 hr3 G3
  go_wp2_with fail
  refine (hA _).mono ?_
  rintro e w5 ⟨rfl, rfl⟩
  clear hA
  go_wp2
  go_step3
  refine ⟨_, rfl, ?_⟩
  have sY := s4
  have rY := r4
  have GY := G4
  go_wp2_with fail
  refine (HSd.out _ s4).mono ?_
  rintro e w6 ⟨rfl, s6, g6⟩
  clear s4 r4 G4 HSd
  have r6 := (g6.block _ (hp_lt rY) (by intro e; have := Option.some.inj e; omega)).trans rY
  have G6 : w.grownBy w6 (some g) := grown_trans GY g6
  clear rY GY g6 sY
  obtain ⟨c0, c1, c2⟩ := tok_cells r6
  have cf : ∀ j, w6.frozen? ⟨w.heap.size, j, none⟩ = false := fun j => by simp [World.frozen?, r6]
  obtain ⟨Z6, hZ6⟩ : ∃ Z6, Z6 = (w6.setCell ⟨w.heap.size, 0, none⟩ (.int .i64 2)).setCell ⟨w.heap.size, 1, none⟩ (.string ⟨L.toArray⟩) := ⟨_, rfl⟩
  have rZ : Z6.heap[w.heap.size]? = some (.cells #[.int .i64 2, .string ⟨L.toArray⟩, .int .i64 (z : Int)] 107 (0, 0)) := by
    rw [hZ6]; simp [World.setCell, Array.getElem?_modify, r6]
  have sZ : Sc R Z6 g s (s.size - G.length) z := ⟨by rw [hZ6]; simp [World.setCell, Array.getElem?_modify, s6.blk, show w.heap.size ≠ g by omega]⟩
  have GZ : w.grownBy Z6 (some g) := by
    rw [hZ6]
    refine ⟨G6.os, G6.tape, G6.output, by simpa [World.setCell] using G6.size, fun i hi hr => ?_⟩
    rw [← G6.block i hi hr]
    simp [World.setCell, Array.getElem?_modify, show w.heap.size ≠ i by omega]
  have SZ := (show Hid _ from sZ)
  have GZ' := (show Hid _ from GZ)
  clear r6 G6 s6 sZ GZ
  subst hZ6
  go_wp2_with (first | (refine wpL_store_row rfl 107 _ _ rfl w.heap.size #[.int .i64 2, .string ⟨L.toArray⟩, .int .i64 (z : Int)] rfl rfl 107 _ rZ (by kernel_rfl) rfl (by simp [Value.oneCell']) ?_) | (refine wpL_load_row rfl 107 _ rfl w.heap.size _ 107 (0, 0) _ rfl rZ Tryz.underlying107 rfl (by kernel_rfl) ?_) | go_in)
  simp only [jumpN]
  have hh : (World.setRow ((w6.setCell ⟨w.heap.size, 0, none⟩ (.int .i64 2)).setCell ⟨w.heap.size, 1, none⟩ (.string ⟨L.toArray⟩)) w.heap.size #[.int .i64 2, .string ⟨L.toArray⟩, .int .i64 (z : Int)]).heap[w.heap.size]? = some (.cells #[.int .i64 2, .string ⟨L.toArray⟩, .int .i64 (z : Int)] 107 (0, 0)) := setRow_heap _ _ _ _ _ _ rZ
  have hS : Sc R (World.setRow ((w6.setCell ⟨w.heap.size, 0, none⟩ (.int .i64 2)).setCell ⟨w.heap.size, 1, none⟩ (.string ⟨L.toArray⟩)) w.heap.size #[.int .i64 2, .string ⟨L.toArray⟩, .int .i64 (z : Int)]) g s (s.size - G.length) z := ⟨(setRow_other _ w.heap.size g _ (by omega)).trans SZ.out.blk⟩
  have hG : w.grownBy (World.setRow ((w6.setCell ⟨w.heap.size, 0, none⟩ (.int .i64 2)).setCell ⟨w.heap.size, 1, none⟩ (.string ⟨L.toArray⟩)) w.heap.size #[.int .i64 2, .string ⟨L.toArray⟩, .int .i64 (z : Int)]) (some g) := ⟨GZ'.out.os, GZ'.out.tape, GZ'.out.output, by simpa using GZ'.out.size, fun i hi hr => (setRow_other _ w.heap.size i _ (by omega)).trans (GZ'.out.block i hi hr)⟩
  generalize World.setRow ((w6.setCell ⟨w.heap.size, 0, none⟩ (.int .i64 2)).setCell ⟨w.heap.size, 1, none⟩ (.string ⟨L.toArray⟩)) w.heap.size #[.int .i64 2, .string ⟨L.toArray⟩, .int .i64 (z : Int)] = V at hh hS hG
  obtain ⟨d0, d1, d2⟩ := tok_cells hh
  refine bodyPost_ret (v := .tuple #[.agg #[.int .i64 2, .string ⟨L.toArray⟩, .int .i64 (z : Int)], .bool true]) (by simp [results, Tryz.results50, go_sem, d0, d1, d2]) rfl ?_
  exact ⟨rfl, hS, hG⟩
set_option maxRecDepth 20000 in
set_option maxHeartbeats 4000000 in
theorem scTokLit (X G : List UInt8) (g : Nat) (s : ByteArray) (a b : Nat) (z : Nat) (L : List UInt8) (w : World) (hs : s.size ≤ 100000) (hcl : Clean s) (ha : a ≤ s.size) (h : Sc R w g s a b) (hz : Pl.stop Pl.blank s.data.toList a = z) (hzs : z < s.size) (h34 : s[z] = 91) (hX : Sd 93 X L) (hL : s.data.toList.drop (z + 1) = X ++ 93 :: G) :
    Calls Tryz.prog 50 #[scp g] w fun e w' => e = .returned (.tuple #[.agg #[.int .i64 3, .string ⟨L.toArray⟩, .int .i64 z], .bool true]) ∧ Sc R w' g s (s.size - G.length) z ∧ w.grownBy w' (some g) := by
  have hgl := h.lt
  obtain ⟨W, hW⟩ : ∃ W, W = w.alloc tok0 := ⟨_, rfl⟩
  have hbW : Below w.heap.size w W := by rw [hW]; exact (Below.refl _ _).alloc (Nat.le_refl _) _
  have hr0 : W.heap[w.heap.size]? = some tok0 := by rw [hW]; exact hp_alloc w tok0
  have hP := scPass kindBlank g s a b W hs ha (h.below hbW)
  rw [hz] at hP
  have hzl : z ≤ s.size := by omega
  have HF := (show Hid _ from fun (w : World) h => scFoldNo (R := R) g s z b w hs hzl h (hcl.nofold z))
  have HE := (show Hid _ from fun (w : World) h => scEnded (R := R) g s z b w h)
  have hne : ((z : Int) == (s.size : Int)) = false := by simp; omega
  have HBy := (show Hid _ from fun (w : World) h => scByteYes (R := R) g s z z w hs h hzs (hcl z hzs).2)
  have h8 : s[z].toNat < 256 := UInt8.toNat_lt _
  clear h
  have hA := fun w => implAtomByte s[z] w
  rw [h34, show Pl.atom 91 = false from by decide +kernel] at hA
  have HSd := (show Hid _ from fun (w : World) h => scSaid (R := R) 93 (by decide) X G g s (z + 1) z L w hs hcl h (by omega) hX hL)
  clear hL hX
  rw [show (((93 : UInt8).toNat : Nat) : Int) = 93 from rfl] at HSd
  generalize hsk : s[z] = cz at *
  subst h34
  go_enter Tryz.func50, Tryz.ntmps50
  go_wp2
  refine wp_scope_once ?_
  go_wp2_with fail
  go_step3
  go_wp2_with fail
  rw [← hW]
  refine hP.mono ?_
  rintro e w1 ⟨rfl, s1, g1⟩
  have hr1 := (g1.block _ (hp_lt hr0) (by intro e; have := Option.some.inj e; omega)).trans hr0
  go_wp2_with fail
  refine (HF.out _ s1).mono ?_
  rintro e w2 ⟨rfl, hb2⟩
  have s2 := s1.below hb2
  have hr2 := (hb2.block _ (hp_lt hr1)).trans hr1
  go_wp2_with fail
  refine (HE.out _ s2).mono ?_
  rintro e w3 ⟨rfl, hb3⟩
  have s3 := s2.below hb3
  have hr3 : w3.heap[w.heap.size]? = some (.cells #[.int .i64 0, .string ⟨#[]⟩, .int .i64 0] 107 (0, 0)) := (hb3.block _ (hp_lt hr2)).trans hr2
  have G3 : w.grownBy w3 (some g) := grown_trans (grown_below hbW) (grown_trans g1 (grown_trans (grown_below hb2) (grown_below hb3)))
  rw [hne]
  clear hP HF HE hr0 hr1 hr2 s1 s2 g1 hb2 hb3 hbW hW hne
  have q1 := s3.c1
  have q2 := s3.c2
  have qf := s3.f2
  obtain ⟨c0, c1, c2⟩ := tok_cells hr3
  have cf : ∀ j, w3.frozen? ⟨w.heap.size, j, none⟩ = false := fun j => by simp [World.frozen?, hr3]
  obtain ⟨Xw, hXw⟩ : ∃ X, X = (w3.setCell ⟨g, 2, none⟩ (.int .i64 (z : Int))).setCell ⟨w.heap.size, 2, none⟩ (.int .i64 (z : Int)) := ⟨_, rfl⟩
  have sX : Sc R Xw g s z z := by
    rw [hXw]
    have := s3.set2 (z : Int) z rfl
    exact ⟨by simp [World.setCell, Array.getElem?_modify, s3.blk, show w.heap.size ≠ g by omega]⟩
  have rX : Xw.heap[w.heap.size]? = some (.cells #[.int .i64 0, .string ⟨#[]⟩, .int .i64 (z : Int)] 107 (0, 0)) := by
    rw [hXw]; simp [World.setCell, Array.getElem?_modify, hr3, show g ≠ w.heap.size by omega]
  have GX : w.grownBy Xw (some g) := by
    rw [hXw]
    refine ⟨G3.os, G3.tape, G3.output, by simpa [World.setCell] using G3.size, fun i hi hr => ?_⟩
    rw [← G3.block i hi hr]
    simp [World.setCell, Array.getElem?_modify, show w.heap.size ≠ i by omega, show g ≠ i from fun e => hr (by rw [e])]
  go_wp2_with fail
  rw [← hXw]
  refine (HBy.out _ sX).mono ?_
  rintro e w4 ⟨rfl, s4, g4⟩
  have r4 := (g4.block _ (hp_lt rX) (by intro e; have := Option.some.inj e; omega)).trans rX
  have G4 : w.grownBy w4 (some g) := grown_trans GX g4
  clear hXw q1 q2 qf c0 c1 c2 cf sX rX GX g4 HBy s3 hr3 G3
  go_wp2_with fail
  refine (hA _).mono ?_
  rintro e w5 ⟨rfl, rfl⟩
  clear hA
  go_wp2
  go_step3
  refine ⟨_, rfl, ?_⟩
  have sY := s4
  have rY := r4
  have GY := G4
  go_wp2_with fail
  refine (HSd.out _ s4).mono ?_
  rintro e w6 ⟨rfl, s6, g6⟩
  clear s4 r4 G4 HSd
  have r6 := (g6.block _ (hp_lt rY) (by intro e; have := Option.some.inj e; omega)).trans rY
  have G6 : w.grownBy w6 (some g) := grown_trans GY g6
  clear rY GY g6 sY
  obtain ⟨c0, c1, c2⟩ := tok_cells r6
  have cf : ∀ j, w6.frozen? ⟨w.heap.size, j, none⟩ = false := fun j => by simp [World.frozen?, r6]
  obtain ⟨Z6, hZ6⟩ : ∃ Z6, Z6 = (w6.setCell ⟨w.heap.size, 0, none⟩ (.int .i64 3)).setCell ⟨w.heap.size, 1, none⟩ (.string ⟨L.toArray⟩) := ⟨_, rfl⟩
  have rZ : Z6.heap[w.heap.size]? = some (.cells #[.int .i64 3, .string ⟨L.toArray⟩, .int .i64 (z : Int)] 107 (0, 0)) := by
    rw [hZ6]; simp [World.setCell, Array.getElem?_modify, r6]
  have sZ : Sc R Z6 g s (s.size - G.length) z := ⟨by rw [hZ6]; simp [World.setCell, Array.getElem?_modify, s6.blk, show w.heap.size ≠ g by omega]⟩
  have GZ : w.grownBy Z6 (some g) := by
    rw [hZ6]
    refine ⟨G6.os, G6.tape, G6.output, by simpa [World.setCell] using G6.size, fun i hi hr => ?_⟩
    rw [← G6.block i hi hr]
    simp [World.setCell, Array.getElem?_modify, show w.heap.size ≠ i by omega]
  have SZ := (show Hid _ from sZ)
  have GZ' := (show Hid _ from GZ)
  clear r6 G6 s6 sZ GZ
  subst hZ6
  go_wp2_with (first | (refine wpL_store_row rfl 107 _ _ rfl w.heap.size #[.int .i64 3, .string ⟨L.toArray⟩, .int .i64 (z : Int)] rfl rfl 107 _ rZ (by kernel_rfl) rfl (by simp [Value.oneCell']) ?_) | (refine wpL_load_row rfl 107 _ rfl w.heap.size _ 107 (0, 0) _ rfl rZ Tryz.underlying107 rfl (by kernel_rfl) ?_) | go_in)
  simp only [jumpN]
  have hh : (World.setRow ((w6.setCell ⟨w.heap.size, 0, none⟩ (.int .i64 3)).setCell ⟨w.heap.size, 1, none⟩ (.string ⟨L.toArray⟩)) w.heap.size #[.int .i64 3, .string ⟨L.toArray⟩, .int .i64 (z : Int)]).heap[w.heap.size]? = some (.cells #[.int .i64 3, .string ⟨L.toArray⟩, .int .i64 (z : Int)] 107 (0, 0)) := setRow_heap _ _ _ _ _ _ rZ
  have hS : Sc R (World.setRow ((w6.setCell ⟨w.heap.size, 0, none⟩ (.int .i64 3)).setCell ⟨w.heap.size, 1, none⟩ (.string ⟨L.toArray⟩)) w.heap.size #[.int .i64 3, .string ⟨L.toArray⟩, .int .i64 (z : Int)]) g s (s.size - G.length) z := ⟨(setRow_other _ w.heap.size g _ (by omega)).trans SZ.out.blk⟩
  have hG : w.grownBy (World.setRow ((w6.setCell ⟨w.heap.size, 0, none⟩ (.int .i64 3)).setCell ⟨w.heap.size, 1, none⟩ (.string ⟨L.toArray⟩)) w.heap.size #[.int .i64 3, .string ⟨L.toArray⟩, .int .i64 (z : Int)]) (some g) := ⟨GZ'.out.os, GZ'.out.tape, GZ'.out.output, by simpa using GZ'.out.size, fun i hi hr => (setRow_other _ w.heap.size i _ (by omega)).trans (GZ'.out.block i hi hr)⟩
  generalize World.setRow ((w6.setCell ⟨w.heap.size, 0, none⟩ (.int .i64 3)).setCell ⟨w.heap.size, 1, none⟩ (.string ⟨L.toArray⟩)) w.heap.size #[.int .i64 3, .string ⟨L.toArray⟩, .int .i64 (z : Int)] = V at hh hS hG
  obtain ⟨d0, d1, d2⟩ := tok_cells hh
  refine bodyPost_ret (v := .tuple #[.agg #[.int .i64 3, .string ⟨L.toArray⟩, .int .i64 (z : Int)], .bool true]) (by simp [results, Tryz.results50, go_sem, d0, d1, d2]) rfl ?_
  exact ⟨rfl, hS, hG⟩
end Go.Proofs.YtadoifnfgoonaaaGreatDoor
