
/- ReadWords: the program's side. -/

/- Plain mathematics of base 64: lists of bytes alone; no program. -/

/- Plain mathematics of WriteWords: points, their bytes, words. -/
import Derived.Test.YtbppdfjigcelkaaGreatDoorWdMain
import Derived.Lib.UnsafeStr
import Derived.Laws.Strings
import Derived.Test.YtbppdfjigcelkaaGreatDoorEncForm
import Derived.Lib.IndexMore
import Derived.Lib.Small
namespace Go.Proofs.YtbppdfjigcelkaaGreatDoor
open Go.RowKit Go.Lib Go.Maps
set_option maxRecDepth 20000 in
theorem ext_headW (s : ByteArray) (k : Nat) : (s.extract 0 k).data.toList = s.data.toList.take k := by
  simp [ByteArray.data_extract, Array.toList_extract]
set_option maxRecDepth 20000 in
theorem neq_empty (t : ByteArray) (h : 0 < t.size) : t.toList ≠ [] := by
  rw [ByteArray.toList_eq]
  intro e
  have h2 : t.data.toList.length = t.size := by simp
  rw [e, List.length_nil] at h2
  omega
set_option maxRecDepth 20000 in
theorem empty_of (t : ByteArray) (h : ¬ 0 < t.size) : t.data.toList = [] := by
  have h2 : t.data.toList.length = t.size := by simp
  exact List.length_eq_zero_iff.1 (by omega)
set_option maxRecDepth 20000 in
theorem OwnN.lower {B B' : Nat} {v : Value} {P : List Int} {w : World} (h : OwnN B v P w) (hB : B' ≤ B) : OwnN B' v P w := own_baseN h hB
set_option maxRecDepth 20000 in
theorem row_stayW {B : Nat} {v : Value} {P : List Int} {w w' : World} (h : OwnN B v P w) (hk : ∀ k, v.ownBlock = some k → w'.heap[k]? = w.heap[k]?) : OwnN B v P w' := by
  refine ⟨h.1, ?_⟩
  rcases h.2 with h2 | ⟨k, cap, cur, e1, e2, e3, e4⟩
  · exact .inl h2
  · refine .inr ⟨k, cap, cur, e1, e2, ?_, e4⟩
    rw [hk k (by rw [e1]; rfl)]
    exact e3
set_option maxRecDepth 40000 in
set_option maxHeartbeats 8000000 in
theorem implReadWords (s : ByteArray) (w : World) (hs : s.size ≤ 100000)
    (hT : Lib.Utf8Tabs 3 4 w) (hE : ErrCell w) (m : Int) (hm : w.cell? ⟨2, 0, none⟩ = some (.int .i64 m)) (ct : TypeId) (fr : Nat × Nat) (hC : w.heap[0]? = some (.cells arr ct fr)) :
    Calls Tryz.prog 12 #[.string s] w fun e w' => ∃ v, e = .returned v ∧ OwnN w.heap.size v (Pw.rd false s.data.toList) w' ∧ Below w.heap.size w w' := by
  have hTL := mkHid (implTooLongD s w hs)
  obtain ⟨R, hR⟩ : ∃ R, Pw.rd false s.data.toList = R := ⟨_, rfl⟩
  rw [hR]
  have HR : Hid ([] ++ Pw.rd false s.data.toList = R) := hR
  clear hR
  have hRW := mkHid (fun (t : ByteArray) (W : World) (ht : t.size ≤ 1100000) (hW : Below w.heap.size w W) => implReadWord t W ht (tabsD_below hT hW) (hE.below hW) m ((hW.cell (p := ⟨2, 0, none⟩) (World.block_lt_of_cell? _ _ hm)).trans hm) ct fr ((hW.block _ (heap_lt hC)).trans hC))
  clear hT hE hm hC
  go_enter Tryz.func12, Tryz.ntmps12
  go_wp2_with fail
  refine hTL.out.mono ?_
  rintro e w0 ⟨rfl, rfl⟩
  clear hTL
  go_wp2
  go_loopw [0, 3, 4] (fun tv v bv wr => ∃ (t : ByteArray) (b : Bool) (C : List Int), tv = .string t ∧ bv = .bool b ∧ C.length + t.size ≤ 100000 ∧ Hid (C ++ Pw.rd b t.data.toList = R) ∧ Hid (OwnN w.heap.size v C wr) ∧ Hid (Below w.heap.size w wr)) (fun tv _ _ _ => match tv with | .string t => t.size | _ => 0)
  case atStart => exact ⟨s, false, [], rfl, rfl, by simpa using hs, HR, mkHid (OwnN.nil _ _), mkHid (Below.refl _ _)⟩
  case round =>
    clear HR
    obtain ⟨t, b, C, rfl, rfl, hCl, HR, HO, Hb⟩ := hrel
    have hll : t.data.toList.length = t.size := by simp
    by_cases h0 : 0 < t.size
    · have hne := neq_empty t h0
      have hne2 : t.data.toList ≠ [] := by rw [← ByteArray.toList_eq]; exact neq_empty t h0
      have hne5 : (!t.toList.isEmpty) = true := by
        cases hq : t.toList with
        | nil => exact absurd hq (neq_empty t h0)
        | cons a r => rfl
      have hg := mkHid (fun W => implCutGap t W (by omega))
      have hgl := Pw.gap_le t.data.toList
      have htl := Pw.tx_le (t.data.toList.drop (Pw.gap t.data.toList))
      rw [List.length_drop] at htl
      have hx := mkHid (fun W => implCutText (t.extract (Pw.gap t.data.toList) t.size) W (by rw [ByteArray.size_extract]; omega))
      have e1 : (t.extract (Pw.gap t.data.toList) t.size).data.toList = t.data.toList.drop (Pw.gap t.data.toList) := ext_drop _ _
      rw [e1] at hx
      have z1 : (t.extract (Pw.gap t.data.toList) t.size).size = t.size - Pw.gap t.data.toList := by rw [ByteArray.size_extract]; omega
      rw [z1] at hx
      have hlen := Pw.rs_len t.data.toList
      have hlt := Pw.rs_lt t.data.toList hne2
      -- the three pieces
      obtain ⟨gt, hgt⟩ : ∃ gt, t.extract 0 (Pw.gap t.data.toList) = gt := ⟨_, rfl⟩
      obtain ⟨xt, hxt⟩ : ∃ xt, (t.extract (Pw.gap t.data.toList) t.size).extract 0 (Pw.tx (t.data.toList.drop (Pw.gap t.data.toList))) = xt := ⟨_, rfl⟩
      obtain ⟨rt, hrt⟩ : ∃ rt, (t.extract (Pw.gap t.data.toList) t.size).extract (Pw.tx (t.data.toList.drop (Pw.gap t.data.toList))) (t.size - Pw.gap t.data.toList) = rt := ⟨_, rfl⟩
      have dg : gt.data.toList = t.data.toList.take (Pw.gap t.data.toList) := by rw [← hgt, ext_headW]
      have dx : xt.data.toList = Pw.wd t.data.toList := by rw [← hxt, ext_headW, e1]; rfl
      have dr : rt.data.toList = Pw.rs t.data.toList := by
        rw [← hrt]
        conv => lhs; rw [← z1]
        rw [ext_drop, e1]
        rfl
      rw [hgt] at hg
      rw [hxt, hrt] at hx
      have hW := fun ps h => Pw.rd_word b t.data.toList ps hne2 h
      have hWl := Pw.word_len xt.data.toList
      rw [← dg, ← dx, ← dr] at hlen hW
      rw [← dr] at hlt
      have hN : Pw.word xt.data.toList = none → Pw.rd b t.data.toList = Pw.pts gt.data.toList ++ (Pw.pts xt.data.toList ++ Pw.rd false rt.data.toList) := by
        intro h
        rw [dx] at h
        rw [Pw.rd_text b t.data.toList hne2 h, ← dg, ← dx, ← dr]
      have lg : gt.data.toList.length = gt.size := by simp
      have lx : xt.data.toList.length = xt.size := by simp
      have lr : rt.data.toList.length = rt.size := by simp
      rw [lg, lx, lr, hll] at hlen
      rw [lr, hll] at hlt
      have hrw := mkHid (fun W hW => hRW.out xt W (by omega) hW)
      have HWd := mkHid hW
      have HNo := mkHid hN
      have HWl := mkHid hWl
      clear hgl htl e1 z1 hgt hxt hrt dg dx dr hW hN hWl hne2
      go_wp2_with fail
      refine (hg.out _).mono ?_
      rintro e w1 ⟨rfl, hb1⟩
      have Hb1 := mkHid (Hb.out.trans (hb1.mono Hb.out.size))
      have HO1 := mkHid (HO.out.below hb1)
      clear hg hb1 HO Hb
      go_wp2_with fail
      refine (hx.out _).mono ?_
      rintro e w2 ⟨rfl, hb2⟩
      have Hb2 := mkHid (Hb1.out.trans (hb2.mono Hb1.out.size))
      have HO2 := mkHid (HO1.out.below hb2)
      clear hx hb2 HO1 Hb1
      go_wp2_with fail
      refine (hrw.out _ Hb2.out).mono ?_
      rintro e w3 ⟨hRo, hb3⟩
      have Hb3 := mkHid (Hb2.out.trans (hb3.mono Hb2.out.size))
      have HO3 := mkHid (HO2.out.below hb3)
      have z3 : w.heap.size ≤ w3.heap.size := Hb3.out.size
      have z2 : w.heap.size ≤ w2.heap.size := Hb2.out.size
      cases hp : Pw.word xt.data.toList with
      | none =>
        rw [hp] at hRo
        unfold RwOut at hRo
        subst hRo
        have hrd := HNo.out hp
        have Hn : Hid ((C ++ Pw.pts gt.data.toList) ++ Pw.pts xt.data.toList ++ Pw.rd false rt.data.toList = R) := mkHid (by
          rw [← HR.out, hrd]
          simp)
        have hA1 := mkHid (implAppendBytes w.heap.size u3 C gt w3 HO3.out z3 (by omega))
        clear HWd HNo HWl hp hrd HR hrw hb3 HO2 Hb2
        have zc : (C ++ Pw.pts gt.data.toList).length = C.length + gt.size := by rw [List.length_append]; unfold Pw.pts; rw [List.length_map, lg]
        have zx : (Pw.pts xt.data.toList).length = xt.size := by unfold Pw.pts; rw [List.length_map, lx]
        generalize hG : C ++ Pw.pts gt.data.toList = CG at *
        clear hG
        cases b
        all_goals
          go_simp
          go_wp2_with fail
          refine hA1.out.mono ?_
          rintro e w4 ⟨v4, rfl, hO4, hb4, -⟩
          have z4 : w.heap.size ≤ w4.heap.size := Nat.le_trans z3 hb4.size
          have hA2 := mkHid (implAppendBytes w.heap.size v4 CG xt w4 hO4 z4 (by omega))
          have Hb4 := mkHid (Hb3.out.trans hb4)
          clear hA1 hO4 hb4 Hb3 HO3
          go_wp2_with fail
          refine hA2.out.mono ?_
          rintro e w5 ⟨v5, rfl, hO5, hb5, -⟩
          have HO5 := mkHid hO5
          have Hb5 := mkHid (Hb4.out.trans hb5)
          have zz : (CG ++ Pw.pts xt.data.toList).length + rt.size ≤ 100000 := by rw [List.length_append]; omega
          have Hn2 : Hid ((CG ++ Pw.pts xt.data.toList) ++ Pw.rd false rt.data.toList = R) := Hn
          clear hA2 hO5 hb5 Hb4
          generalize CG ++ Pw.pts xt.data.toList = CX at *
          go_wp2
          go_roundw
          case rel => exact ⟨rt, false, CX, rfl, rfl, zz, Hn2, HO5, Hb5⟩
          case measure => exact hlt
      | some ps =>
        have hpl := HWl.out ps hp
        rw [hp] at hRo
        obtain ⟨v, rfl, hOv⟩ := hRo
        have hrd := HWd.out ps hp
        rw [lx] at hpl
        cases b with
        | true =>
          have Hn : Hid ((C ++ ps) ++ Pw.rd true rt.data.toList = R) := mkHid (by
            rw [← HR.out, hrd]
            simp)
          have zz : (C ++ ps).length + rt.size ≤ 100000 := by rw [List.length_append]; omega
          obtain ⟨o', c', rfl⟩ := hOv.shape
          have hIn := hOv.inL
          clear HWd HNo HWl hp hrd HR hrw hb3 HO2 Hb2 hOv
          go_simp
          go_wp2_with (at_builtin; go_must (refine wp_appNs (w := w3) rfl _ _ rfl w.heap.size u3 C rfl HO3.out o' ps c' w2.heap.size rfl hIn (by omega) z3 ?_; intro v' w' hO' hG' hv'; refine Hid.out ?_))
          have bA := mkHid (Hb3.out.grown hG' z3 (fun k hk => (World.ownsRow.lt HO3.out k hk).1))
          have HO5 := mkHid hO'
          clear hO' hG' hv' hIn HO3 Hb3
          generalize C ++ ps = CX at *
          refine mkHid ?_
          go_wp2
          go_roundw
          case rel => exact ⟨rt, true, CX, rfl, rfl, zz, Hn, HO5, bA⟩
          case measure => exact hlt
        | false =>
          have Hn : Hid ((C ++ Pw.pts gt.data.toList) ++ ps ++ Pw.rd true rt.data.toList = R) := mkHid (by
            rw [← HR.out, hrd]
            simp)
          have hA1 := mkHid (implAppendBytes w.heap.size u3 C gt w3 HO3.out z3 (by omega))
          have zc : (C ++ Pw.pts gt.data.toList).length = C.length + gt.size := by rw [List.length_append]; unfold Pw.pts; rw [List.length_map, lg]
          have HOv := mkHid hOv
          clear HWd HNo HWl hp hrd HR hrw hb3 Hb2 hOv
          generalize hG : C ++ Pw.pts gt.data.toList = CG at *
          clear hG
          have zz : (CG ++ ps).length + rt.size ≤ 100000 := by rw [List.length_append]; omega
          go_simp
          go_wp2_with fail
          refine hA1.out.mono ?_
          rintro e w4 ⟨v4, rfl, hO4, hb4, hg4⟩
          have z4 : w.heap.size ≤ w4.heap.size := Nat.le_trans z3 hb4.size
          have hv4 : ∀ q, v.ownBlock = some q → some q ≠ u3.ownBlock := fun q hq e => by
            have h1 := (World.ownsRow.lt HOv.out q hq).1
            have h2 := (World.ownsRow.lt HO2.out q e.symm).2
            omega
          have hOv4 : OwnN w2.heap.size v ps w4 := row_stayW HOv.out (fun q hq => hg4.block q (World.ownsRow.lt HOv.out q hq).2 (hv4 q hq))
          have HO4 := mkHid hO4
          have Hb4 := mkHid (Hb3.out.trans hb4)
          obtain ⟨o', c', rfl⟩ := hOv4.shape
          have hIn := hOv4.inL
          clear hA1 hO4 hb4 hg4 hv4 hOv4 HOv HO2 HO3 Hb3
          go_simp
          go_wp2_with (at_builtin; go_must (refine wp_appNs (w := w4) rfl _ _ rfl w.heap.size v4 CG rfl HO4.out o' ps c' w2.heap.size rfl hIn (by omega) z4 ?_; intro v' w' hO' hG' hv'; refine Hid.out ?_))
          have bA := mkHid (Hb4.out.grown hG' z4 (fun k hk => (World.ownsRow.lt HO4.out k hk).1))
          have HO5 := mkHid hO'
          have Hn2 : Hid ((CG ++ ps) ++ Pw.rd true rt.data.toList = R) := Hn
          clear hO' hG' hv' hIn HO4 Hb4
          generalize CG ++ ps = CX at *
          refine mkHid ?_
          go_wp2
          go_roundw
          case rel => exact ⟨rt, true, CX, rfl, rfl, zz, Hn2, HO5, bA⟩
          case measure => exact hlt
    · have hn := empty_of t h0
      have hne4 : t.toList = [] := by rw [ByteArray.toList_eq, hn]
      have hne : t.toList.isEmpty = true := by rw [ByteArray.toList_eq, hn]; rfl
      have Hn : Hid (C = R) := mkHid (by rw [← HR.out, hn, Pw.rd_nil, List.append_nil])
      clear HR hRW
      go_wp2
      go_ret
      rw [← Hn.out]
      exact ⟨_, rfl, HO.out, Hb.out⟩
end Go.Proofs.YtbppdfjigcelkaaGreatDoor
namespace Go.Proofs.YtbppdfjigcelkaaGreatDoor
namespace Pb

/-- The digit of a number of six bits. -/
def d64 (n : Nat) : UInt8 := if n < 26 then UInt8.ofNat (65 + n) else if n < 52 then UInt8.ofNat (71 + n) else if n < 62 then UInt8.ofNat (n - 4) else if n = 62 then 43 else 47

def group (a b c : UInt8) : List UInt8 := [d64 (a.toNat / 4), d64 (a.toNat % 4 * 16 + b.toNat / 16), d64 (b.toNat % 16 * 4 + c.toNat / 64), d64 (c.toNat % 64)]

def bare : List UInt8 → List UInt8
  | a :: b :: c :: r => group a b c ++ bare r
  | [a, b] => [d64 (a.toNat / 4), d64 (a.toNat % 4 * 16 + b.toNat / 16), d64 (b.toNat % 16 * 4), 61]
  | [a] => [d64 (a.toNat / 4), d64 (a.toNat % 4 * 16), 61, 61]
  | [] => []

set_option maxRecDepth 20000 in
theorem bare_three (x r : List UInt8) (a b c : UInt8) (h : x = a :: b :: c :: r) : bare x = group a b c ++ bare r := by rw [h, bare]

set_option maxRecDepth 20000 in
theorem bare_append : ∀ (n : Nat) (x y : List UInt8), x.length = 3 * n → bare (x ++ y) = bare x ++ bare y := by
  intro n
  induction n with
  | zero => intro x y h; have : x = [] := List.length_eq_zero_iff.1 (by omega); subst this; simp [bare]
  | succ n ih =>
    intro x y h
    match x, h with
    | a :: b :: c :: r, h =>
      simp only [List.cons_append, bare]
      rw [ih r y (by simp at h; omega), List.append_assoc]
    | [], h => simp at h
    | [_], h => simp at h; omega
    | [_, _], h => simp at h; omega

set_option maxRecDepth 20000 in
theorem bare_len : ∀ (n : Nat) (x : List UInt8), x.length ≤ 3 * n → (bare x).length ≤ 4 * n := by
  intro n
  induction n with
  | zero => intro x h; have : x = [] := List.length_eq_zero_iff.1 (by omega); subst this; simp [bare]
  | succ n ih =>
    intro x h
    match x, h with
    | a :: b :: c :: r, h =>
      have := ih r (by simp at h; omega)
      simp only [bare, group, List.length_append, List.length_cons, List.length_nil]; omega
    | [], _ => simp [bare]
    | [_], _ => simp [bare]; omega
    | [_, _], _ => simp [bare]; omega
set_option maxRecDepth 20000 in
theorem bare_full : ∀ (n : Nat) (x : List UInt8), x.length = 3 * n → (bare x).length = 4 * n := by
  intro n
  induction n with
  | zero => intro x h; have : x = [] := List.length_eq_zero_iff.1 (by omega); subst this; simp [bare]
  | succ n ih =>
    intro x h
    match x, h with
    | a :: b :: c :: r, h =>
      have := ih r (by simp at h; omega)
      simp only [bare, group, List.length_append, List.length_cons, List.length_nil]; omega
    | [], h => simp at h
    | [_], h => simp at h; omega
    | [_, _], h => simp at h; omega
set_option maxRecDepth 20000 in
theorem bare_nil (x : List UInt8) : bare x = [] ↔ x = [] := by
  match x with
  | [] => simp [bare]
  | [_] => simp [bare]
  | [_, _] => simp [bare]
  | _ :: _ :: _ :: _ => simp [bare, group]

/-- Digits with their line ends. -/
def rowsF : Nat → List UInt8 → List UInt8
  | 0, _ => []
  | f + 1, d => if d = [] then [] else d.take 76 ++ [13, 10] ++ rowsF f (d.drop 76)
/-- Data as rows of digits. -/
def encF : Nat → List UInt8 → List UInt8
  | 0, _ => []
  | f + 1, l => if l = [] then [] else bare (l.take 57) ++ [13, 10] ++ encF f (l.drop 57)

set_option maxRecDepth 20000 in
theorem rows_bare : ∀ (f : Nat) (l : List UInt8), rowsF f (bare l) = encF f l := by
  intro f
  induction f with
  | zero => intro l; rfl
  | succ f ih =>
    intro l
    by_cases hl : l = []
    · subst hl; simp [rowsF, encF, bare]
    · have hb : bare l ≠ [] := fun e => hl ((bare_nil l).1 e)
      rw [rowsF, encF, if_neg hl, if_neg hb]
      by_cases h57 : 57 ≤ l.length
      · have e : bare l = bare (l.take 57) ++ bare (l.drop 57) := by
          rw [← bare_append 19 (l.take 57) (l.drop 57) (by rw [List.length_take]; omega), List.take_append_drop]
        have e76 : (bare (l.take 57)).length = 76 := bare_full 19 _ (by rw [List.length_take]; omega)
        rw [e, List.take_append_of_le_length (by omega), List.take_of_length_le (by omega), List.drop_append, List.drop_eq_nil_of_le (by omega), e76, Nat.sub_self, List.drop_zero, List.nil_append, ih]
      · have h76 : (bare l).length ≤ 76 := bare_len 19 l (by omega)
        rw [List.take_of_length_le h76, List.drop_eq_nil_of_le h76, List.take_of_length_le (by omega), List.drop_eq_nil_of_le (by omega)]
        have : rowsF f [] = encF f [] := by cases f <;> simp [rowsF, encF]
        rw [this]

set_option maxRecDepth 20000 in
theorem encF_more : ∀ (f : Nat) (l : List UInt8), l.length ≤ f → encF (f + 1) l = encF f l := by
  intro f
  induction f with
  | zero => intro l h; have : l = [] := List.length_eq_zero_iff.1 (by omega); subst this; simp [encF]
  | succ f ih =>
    intro l h
    by_cases hl : l = []
    · subst hl; simp [encF]
    · have h0 : 0 < l.length := List.length_pos_iff.2 hl
      have e := ih (l.drop 57) (by rw [List.length_drop]; omega)
      show (if l = [] then [] else bare (l.take 57) ++ [13, 10] ++ encF (f + 1) (l.drop 57)) = (if l = [] then [] else bare (l.take 57) ++ [13, 10] ++ encF f (l.drop 57))
      rw [e]
set_option maxRecDepth 20000 in
theorem encF_all (f : Nat) (l : List UInt8) (h : l.length ≤ f) : encF f l = encF l.length l := by
  induction f with
  | zero => rw [show l.length = 0 by omega]
  | succ f ih =>
    by_cases hl : l.length = f + 1
    · rw [hl]
    · rw [encF_more f l (by omega), ih (by omega)]
def enc (l : List UInt8) : List UInt8 := encF l.length l
set_option maxRecDepth 20000 in
theorem enc_nil : enc [] = [] := rfl
set_option maxRecDepth 20000 in
theorem enc_step (l : List UInt8) (h : l ≠ []) : enc l = bare (l.take 57) ++ [13, 10] ++ enc (l.drop 57) := by
  have h0 : 0 < l.length := List.length_pos_iff.2 h
  obtain ⟨n, hn⟩ : ∃ n, l.length = n + 1 := ⟨l.length - 1, by omega⟩
  rw [enc, hn, encF, if_neg h, encF_all n _ (by rw [List.length_drop]; omega)]
  rfl
set_option maxRecDepth 20000 in
/-- Rows of digits, with fuel to spare. -/
theorem rows_enc (f : Nat) (l : List UInt8) (h : l.length ≤ f) : rowsF f (bare l) = enc l := by rw [rows_bare, encF_all f l h]; rfl
set_option maxRecDepth 20000 in
theorem d64_a (n : Nat) (h : n < 26) : ((d64 n).toNat : Int) = 65 + n := by
  unfold d64
  rw [if_pos h, UInt8.toNat_ofNat_of_lt' (by simp [UInt8.size]; omega)]
  omega
set_option maxRecDepth 20000 in
theorem d64_b (n : Nat) (h0 : 26 ≤ n) (h : n < 52) : ((d64 n).toNat : Int) = 97 + n - 26 := by
  unfold d64
  rw [if_neg (by omega), if_pos h, UInt8.toNat_ofNat_of_lt' (by simp [UInt8.size]; omega)]
  omega
set_option maxRecDepth 20000 in
theorem d64_c (n : Nat) (h0 : 52 ≤ n) (h : n < 62) : ((d64 n).toNat : Int) = 48 + n - 52 := by
  unfold d64
  rw [if_neg (by omega), if_neg (by omega), if_pos h, UInt8.toNat_ofNat_of_lt' (by simp [UInt8.size]; omega)]
  omega
set_option maxRecDepth 20000 in
theorem drop_cons (l : List UInt8) (k : Nat) (h : k < l.length) : l.drop k = l[k] :: l.drop (k + 1) := List.drop_eq_getElem_cons h
set_option maxRecDepth 20000 in
theorem step3 (l p : List UInt8) (k : Nat) (h : k + 2 < l.length) (hp : p ++ bare (l.drop k) = bare l) : (p ++ group l[k] l[k + 1] l[k + 2]) ++ bare (l.drop (k + 3)) = bare l := by
  rw [drop_cons l k (by omega), drop_cons l (k + 1) (by omega), drop_cons l (k + 1 + 1) h, bare] at hp
  rw [List.append_assoc]
  exact hp
set_option maxRecDepth 20000 in
theorem step2 (l p : List UInt8) (k : Nat) (h : k + 2 = l.length) (hp : p ++ bare (l.drop k) = bare l) : (p ++ [d64 (l[k].toNat / 4), d64 (l[k].toNat % 4 * 16 + l[k + 1].toNat / 16), d64 (l[k + 1].toNat % 16 * 4), 61]) ++ bare (l.drop (k + 3)) = bare l := by
  rw [drop_cons l k (by omega), drop_cons l (k + 1) (by omega), List.drop_eq_nil_of_le (by omega), bare] at hp
  rw [List.drop_eq_nil_of_le (by omega), show bare [] = [] from rfl, List.append_nil]
  exact hp
set_option maxRecDepth 20000 in
theorem step1 (l p : List UInt8) (k : Nat) (h : k + 1 = l.length) (hp : p ++ bare (l.drop k) = bare l) : (p ++ [d64 (l[k].toNat / 4), d64 (l[k].toNat % 4 * 16), 61, 61]) ++ bare (l.drop (k + 3)) = bare l := by
  rw [drop_cons l k (by omega), List.drop_eq_nil_of_le (by omega), bare] at hp
  rw [List.drop_eq_nil_of_le (by omega), show bare [] = [] from rfl, List.append_nil]
  exact hp
set_option maxRecDepth 20000 in
theorem step0 (l p : List UInt8) (k : Nat) (h : l.length ≤ k) (hp : p ++ bare (l.drop k) = bare l) : p = bare l := by
  rw [List.drop_eq_nil_of_le h, show bare [] = [] from rfl, List.append_nil] at hp
  exact hp
set_option maxRecDepth 20000 in
theorem rows_step (f : Nat) (d : List UInt8) (k : Nat) (p r : List UInt8) (hk : k < d.length) (hf : d.length ≤ k + f) (hp : p ++ rowsF f (d.drop k) = r) : (p ++ ((d.drop k).take 76 ++ [13, 10])) ++ rowsF (f - 1) (d.drop (k + 76)) = r := by
  obtain ⟨g, rfl⟩ : ∃ g, f = g + 1 := ⟨f - 1, by omega⟩
  have hne : d.drop k ≠ [] := by
    intro e
    have := congrArg List.length e
    simp at this
    omega
  rw [rowsF, if_neg hne, List.drop_drop] at hp
  rw [← hp]
  simp
set_option maxRecDepth 20000 in
theorem rows_end (f : Nat) (d : List UInt8) (k : Nat) (p r : List UInt8) (hk : d.length ≤ k) (hp : p ++ rowsF f (d.drop k) = r) : p = r := by
  rw [List.drop_eq_nil_of_le hk] at hp
  have : rowsF f [] = [] := by cases f <;> simp [rowsF]
  rw [this, List.append_nil] at hp
  exact hp
set_option maxRecDepth 20000 in
theorem ext_mk (s : ByteArray) (a b : Nat) : s.extract a b = ⟨((s.data.toList.drop a).take (b - a)).toArray⟩ := by
  apply ByteArray.ext
  apply Array.toList_inj.1
  simp
set_option maxRecDepth 20000 in
theorem ext_of (d : List UInt8) (a b : Nat) : (⟨d.toArray⟩ : ByteArray).extract a b = ⟨((d.drop a).take (b - a)).toArray⟩ := ext_mk _ _ _
set_option maxRecDepth 20000 in
theorem bare_big (l : List UInt8) (h : l.length ≤ 100000) : (bare l).length ≤ 133336 := bare_len 33334 l (by omega)
end Pb
end Go.Proofs.YtbppdfjigcelkaaGreatDoor
namespace Go.Proofs.YtbppdfjigcelkaaGreatDoor
open Go.RowKit Go.Lib Go.Maps
namespace Pl
set_option maxRecDepth 20000 in
theorem isPt_iff (p : Int) : isPt p = true ↔ 0 ≤ p ∧ p ≤ 1114111 ∧ ¬ (55296 ≤ p ∧ p ≤ 57343) := by
  unfold isPt
  by_cases h1 : 0 ≤ p <;> by_cases h2 : p ≤ 1114111 <;> by_cases h3 : 55296 ≤ p <;> by_cases h4 : p ≤ 57343 <;> simp [h1, h2, h3, h4]
set_option maxRecDepth 20000 in
theorem form4 (p : Int) (h : isPt p = true) : form 4 p = (if p < 128 then [by8 p] else if p < 2048 then [by8 (192 + p / 64), by8 (128 + p % 64)] else if p < 65536 then [by8 (224 + p / 4096), by8 (128 + p / 64 % 64), by8 (128 + p % 64)] else
    [by8 (240 + p / 262144), by8 (128 + p / 4096 % 64), by8 (128 + p / 64 % 64), by8 (128 + p % 64)]) := by
  unfold form
  rw [if_neg (by rw [h]; decide), if_neg (by decide), if_neg (by decide), if_neg (by decide), if_pos rfl]
set_option maxRecDepth 20000 in
theorem form4_no (p : Int) (h : isPt p = false) : form 4 p = [] := by
  unfold form
  rw [if_pos h]
set_option maxRecDepth 20000 in
theorem form4_ne (p : Int) (h : isPt p = true) : form 4 p ≠ [] := by
  rw [form4 p h]
  repeat' split
  all_goals simp
set_option maxRecDepth 20000 in
theorem form4_len (p : Int) (h : isPt p = true) : ((form 4 p).length : Int) = runeLen p := by
  have hr := (isPt_iff p).1 h
  rw [form4 p h]
  unfold runeLen
  repeat' split
  all_goals first | rfl | omega
def cat (ps : List Int) : List UInt8 := ps.flatMap (form 4)
set_option maxRecDepth 20000 in
theorem cat_cons (p : Int) (ps : List Int) : cat (p :: ps) = form 4 p ++ cat ps := by simp [cat]
set_option maxRecDepth 20000 in
theorem cat_nil : cat [] = [] := rfl
set_option maxRecDepth 20000 in
theorem cat_append (a b : List Int) : cat (a ++ b) = cat a ++ cat b := by simp [cat]
set_option maxRecDepth 20000 in
theorem cat_len : ∀ ps : List Int, (cat ps).length ≤ 4 * ps.length
  | [] => by simp [cat]
  | p :: ps => by
    have := cat_len ps
    have h1 := form_len 4 p
    rw [cat_cons, List.length_append, List.length_cons]
    omega
set_option maxRecDepth 20000 in
theorem enc_cat : ∀ (ps : List Int) (out : List UInt8), enc (form 4) out ps = if ps.all isPt = true then some (out ++ cat ps) else none
  | [], out => by simp [enc, cat]
  | p :: ps, out => by
    rw [enc]
    cases h : isPt p
    · rw [form4_no p h]
      simp [h]
    · have hne := form4_ne p h
      rw [if_neg (by simp [hne]), enc_cat ps, cat_cons]
      simp [h]
/-- A byte that may stand as it is. -/
def prt (c : UInt8) : Bool := decide (32 ≤ c.toNat) && decide (c.toNat ≤ 126)
def sim (p : Int) : Bool := decide (32 ≤ p) && decide (p ≤ 126)
set_option maxRecDepth 20000 in
theorem by8_nat (n : Int) (h0 : 0 ≤ n) (h1 : n < 256) : (by8 n).toNat = n.toNat := by
  have := by8_val n h0 h1
  omega
set_option maxRecDepth 20000 in
theorem prt_form (p : Int) (h : isPt p = true) : (form 4 p).all prt = sim p := by
  have hr := (isPt_iff p).1 h
  rw [form4 p h]
  by_cases h1 : p < 128
  · rw [if_pos h1]
    simp only [List.all_cons, List.all_nil, Bool.and_true]
    unfold prt sim
    rw [by8_nat p (by omega) (by omega)]
    have e1 : (32 ≤ p.toNat) = (32 ≤ p) := propext (by omega)
    have e2 : (p.toNat ≤ 126) = (p ≤ 126) := propext (by omega)
    simp only [e1, e2]
  · have hs : sim p = false := by
      unfold sim
      rw [decide_eq_false (p := p ≤ 126) (by omega), Bool.and_false]
    have hb : ∀ n : Int, 192 ≤ n → n < 256 → prt (by8 n) = false := by
      intro n h0 h2
      unfold prt
      rw [by8_nat n (by omega) h2, decide_eq_false (p := n.toNat ≤ 126) (by omega), Bool.and_false]
    rw [hs, if_neg h1]
    by_cases h2 : p < 2048
    · rw [if_pos h2, List.all_cons, hb _ (by omega) (by omega), Bool.false_and]
    by_cases h3 : p < 65536
    · rw [if_neg h2, if_pos h3, List.all_cons, hb _ (by omega) (by omega), Bool.false_and]
    · rw [if_neg h2, if_neg h3, List.all_cons, hb _ (by omega) (by omega), Bool.false_and]
set_option maxRecDepth 20000 in
theorem prt_cat : ∀ ps : List Int, ps.all isPt = true → (cat ps).all prt = ps.all sim
  | [], _ => rfl
  | p :: ps, h => by
    rw [List.all_cons, Bool.and_eq_true] at h
    rw [cat_cons, List.all_append, prt_form p h.1, prt_cat ps h.2, List.all_cons]
set_option maxRecDepth 20000 in
theorem cat_plain : ∀ ps : List Int, ps.all sim = true → cat ps = ps.map fun p => by8 (p % 128)
  | [], _ => rfl
  | p :: ps, h => by
    rw [List.all_cons, Bool.and_eq_true] at h
    have hp : 32 ≤ p ∧ p ≤ 126 := by
      have := h.1
      unfold sim at this
      simpa using this
    rw [cat_cons, cat_plain ps h.2, List.map_cons, form4 p ((isPt_iff p).2 (by omega)), if_pos (by omega), show p % 128 = p from by omega]
    rfl
def stands (ps : List Int) : Bool := ps.all sim && !(contains (cat ps) [61, 63])
def word (p : List UInt8) : List UInt8 := [61, 63, 117, 116, 102, 45, 56, 63, 66, 63] ++ Pb.bare p ++ [63, 61]
set_option maxRecDepth 20000 in
theorem word_ne (p : List UInt8) : word p ≠ [] := by simp [word]
/-- The words of points, the bytes p being those of the word under way. -/
def ww (p : List UInt8) : List Int → List UInt8
  | [] => word p
  | x :: xs => if 45 < p.length + (form 4 x).length then word p ++ 32 :: ww (form 4 x) xs else ww (p ++ form 4 x) xs
def wq (out : List UInt8) (ps : List Int) : List UInt8 := if ps = [] then out else (if out = [] then [] else out ++ [32]) ++ ww [] ps
def words (ps : List Int) : List UInt8 := if ps.all isPt = true then (if stands ps = true then cat ps else wq [] ps) else []
set_option maxRecDepth 20000 in
theorem ww_begin (x : Int) (xs : List Int) : ww [] (x :: xs) = ww (form 4 x) xs := by
  rw [ww, if_neg (by have := form_len 4 x; simp; omega), List.nil_append]
set_option maxRecDepth 20000 in
theorem ww_full (q : List UInt8) (ps : List Int) (k : Nat) (hk : k < ps.length) (h : 45 < q.length + (form 4 ps[k]).length) : ww q (ps.drop k) = word q ++ 32 :: ww [] (ps.drop k) := by
  rw [List.drop_eq_getElem_cons hk, ww_begin, ww, if_pos h]
set_option maxRecDepth 20000 in
theorem ww_full2 (q : List UInt8) (ps : List Int) (k : Nat) (hk : k < ps.length) (h : 45 < q.length + (form 4 ps[k]).length) : ww q (ps.drop k) = word q ++ 32 :: ww (form 4 ps[k]) (ps.drop (k + 1)) := by
  rw [List.drop_eq_getElem_cons hk, ww, if_pos h]
set_option maxRecDepth 20000 in
theorem ww_more (q : List UInt8) (ps : List Int) (k : Nat) (hk : k < ps.length) (h : ¬ 45 < q.length + (form 4 ps[k]).length) : ww q (ps.drop k) = ww (q ++ form 4 ps[k]) (ps.drop (k + 1)) := by
  rw [List.drop_eq_getElem_cons hk, ww, if_neg h]
set_option maxRecDepth 20000 in
theorem ww_done (q : List UInt8) (ps : List Int) (k : Nat) (hk : ps.length ≤ k) : ww q (ps.drop k) = word q := by
  rw [List.drop_eq_nil_of_le hk, ww]
set_option maxRecDepth 20000 in
theorem wq_next (pre q out : List UInt8) (ps : List Int) (j : Nat) (hj : j < ps.length) (h : 45 < q.length + (form 4 ps[j]).length) (hp : pre ++ ww q (ps.drop j) = out) : wq (pre ++ word q) (ps.drop j) = out := by
  have hne : pre ++ word q ≠ [] := by simp [word_ne]
  unfold wq
  rw [if_neg (by intro e; have := congrArg List.length e; simp at this; omega), if_neg hne, ← hp, ww_full q ps j hj h]
  simp
set_option maxRecDepth 20000 in
theorem wq_done (pre q out : List UInt8) (ps : List Int) (j : Nat) (hj : ps.length ≤ j) (hp : pre ++ ww q (ps.drop j) = out) : wq (pre ++ word q) (ps.drop j) = out := by
  unfold wq
  rw [if_pos (List.drop_eq_nil_of_le hj), ← hp, ww_done q ps j hj]
set_option maxRecDepth 20000 in
theorem wq_start (out : List UInt8) (ps : List Int) (k : Nat) (hk : k < ps.length) : wq out (ps.drop k) = (if out = [] then [] else out ++ [32]) ++ ww [] (ps.drop k) := by
  unfold wq
  rw [if_neg (by intro e; have := congrArg List.length e; simp at this; omega)]
set_option maxRecDepth 20000 in
theorem wq_end (out : List UInt8) (ps : List Int) (k : Nat) (hk : ps.length ≤ k) : wq out (ps.drop k) = out := by
  unfold wq
  rw [if_pos (List.drop_eq_nil_of_le hk)]
set_option maxRecDepth 20000 in
theorem get_at (D : ByteArray) (z f t : List UInt8) (k : Nat) (h : D.data.toList = z ++ (f ++ t)) (hk : k < f.length) : z.length + k < D.size ∧ D.get! (z.length + k) = f[k] := by
  have hl : D.size = z.length + (f.length + t.length) := by
    have := congrArg List.length h
    simpa using this
  have hlt : z.length + k < D.size := by omega
  refine ⟨hlt, ?_⟩
  have e : D.get! (z.length + k) = D.data.toList[z.length + k]'(by simpa using hlt) := by
    show D.data[z.length + k]! = _
    rw [getElem!_pos D.data (z.length + k) hlt]
    simp
  rw [e]
  simp only [h]
  rw [List.getElem_append_right (by omega)]
  simp only [Nat.add_sub_cancel_left]
  rw [List.getElem_append_left hk]
set_option maxRecDepth 20000 in
theorem dec1 (D : ByteArray) (i a : Nat) (ha : (D.get! i).toNat = a) (h : a < 128) : Utf8.decode D i = (a, 1) := by
  unfold Utf8.decode
  simp only [Nat.add_zero, ha]
  rw [if_pos h]
set_option maxRecDepth 20000 in
theorem dec2 (D : ByteArray) (i a b : Nat) (ha : (D.get! i).toNat = a) (hb : (D.get! (i + 1)).toNat = b) (h1 : i + 1 < D.size) (ra : 194 ≤ a ∧ a < 224) (rb : 128 ≤ b ∧ b < 192) : Utf8.decode D i = (a % 32 * 64 + b % 64, 2) := by
  unfold Utf8.decode
  have e1 : (a / 32 == 6) = true := by simp; omega
  have e2 : (b / 64 == 2) = true := by simp; omega
  simp only [Nat.add_zero, ha, hb, e1, e2, h1, decide_true, Bool.and_true]
  rw [if_neg (by omega), if_pos trivial, if_pos (by omega)]
set_option maxRecDepth 20000 in
theorem dec3 (D : ByteArray) (i a b c : Nat) (ha : (D.get! i).toNat = a) (hb : (D.get! (i + 1)).toNat = b) (hc : (D.get! (i + 2)).toNat = c) (h1 : i + 1 < D.size) (h2 : i + 2 < D.size) (ra : 224 ≤ a ∧ a < 240) (rb : 128 ≤ b ∧ b < 192) (rc : 128 ≤ c ∧ c < 192)
    (hv : 2048 ≤ a % 16 * 4096 + b % 64 * 64 + c % 64) (hs : a % 16 * 4096 + b % 64 * 64 + c % 64 < 55296 ∨ 57344 ≤ a % 16 * 4096 + b % 64 * 64 + c % 64) : Utf8.decode D i = (a % 16 * 4096 + b % 64 * 64 + c % 64, 3) := by
  unfold Utf8.decode
  have e0 : (a / 32 == 6) = false := by simp; omega
  have e1 : (a / 16 == 14) = true := by simp; omega
  have e2 : (b / 64 == 2) = true := by simp; omega
  have e3 : (c / 64 == 2) = true := by simp; omega
  simp only [Nat.add_zero, ha, hb, hc, e0, e1, e2, e3, h1, h2, decide_true, Bool.and_true]
  have hval : Utf8.valid ((a % 16 * 4096 + b % 64 * 64 + c % 64 : Nat) : Int) = true := by
    unfold Utf8.valid
    simp only [Bool.or_eq_true, Bool.and_eq_true, decide_eq_true_eq]
    omega
  rw [if_neg (by omega), if_neg (by simp), if_pos trivial, hval, if_pos (by simp; omega)]
set_option maxRecDepth 20000 in
theorem dec4 (D : ByteArray) (i a b c d : Nat) (ha : (D.get! i).toNat = a) (hb : (D.get! (i + 1)).toNat = b) (hc : (D.get! (i + 2)).toNat = c) (hd : (D.get! (i + 3)).toNat = d) (h1 : i + 1 < D.size) (h2 : i + 2 < D.size) (h3 : i + 3 < D.size) (ra : 240 ≤ a ∧ a < 245) (rb : 128 ≤ b ∧ b < 192) (rc : 128 ≤ c ∧ c < 192) (rd : 128 ≤ d ∧ d < 192)
    (hv : 65536 ≤ a % 8 * 262144 + b % 64 * 4096 + c % 64 * 64 + d % 64) (hs : a % 8 * 262144 + b % 64 * 4096 + c % 64 * 64 + d % 64 ≤ 1114111) : Utf8.decode D i = (a % 8 * 262144 + b % 64 * 4096 + c % 64 * 64 + d % 64, 4) := by
  unfold Utf8.decode
  have e0 : (a / 32 == 6) = false := by simp; omega
  have e1 : (a / 16 == 14) = false := by simp; omega
  have e9 : (a / 8 == 30) = true := by simp; omega
  have e2 : (b / 64 == 2) = true := by simp; omega
  have e3 : (c / 64 == 2) = true := by simp; omega
  have e4 : (d / 64 == 2) = true := by simp; omega
  simp only [Nat.add_zero, ha, hb, hc, hd, e0, e1, e2, e3, e4, e9, h1, h2, h3, decide_true, Bool.and_true]
  have hval : Utf8.valid ((a % 8 * 262144 + b % 64 * 4096 + c % 64 * 64 + d % 64 : Nat) : Int) = true := by
    unfold Utf8.valid
    simp only [Bool.or_eq_true, Bool.and_eq_true, decide_eq_true_eq]
    omega
  rw [if_neg (by omega), if_neg (by simp), if_neg (by simp), if_pos trivial, hval, if_pos (by simp; omega)]
set_option maxRecDepth 20000 in
theorem decode_form (D : ByteArray) (z t : List UInt8) (p : Int) (hp : isPt p = true) (h : D.data.toList = z ++ (form 4 p ++ t)) : Utf8.decode D z.length = (p.toNat, (form 4 p).length) := by
  have hr := (isPt_iff p).1 hp
  have g := get_at D z (form 4 p) t
  rw [form4 p hp] at g h ⊢
  by_cases h1 : p < 128
  · rw [if_pos h1] at g h ⊢
    obtain ⟨_, a0⟩ := g 0 h (by simp)
    exact dec1 D _ _ (by rw [Nat.add_zero] at a0; rw [a0]; exact by8_nat p (by omega) (by omega)) (by omega)
  rw [if_neg h1] at g h ⊢
  by_cases h2 : p < 2048
  · rw [if_pos h2] at g h ⊢
    obtain ⟨_, a0⟩ := g 0 h (by simp)
    obtain ⟨s1, a1⟩ := g 1 h (by simp)
    rw [Nat.add_zero] at a0
    rw [dec2 D _ (192 + p / 64).toNat (128 + p % 64).toNat (by rw [a0]; exact by8_nat _ (by omega) (by omega)) (by rw [a1]; exact by8_nat _ (by omega) (by omega)) s1 (by omega) (by omega)]
    exact Prod.ext (by show _ = p.toNat; omega) rfl
  rw [if_neg h2] at g h ⊢
  by_cases h3 : p < 65536
  · rw [if_pos h3] at g h ⊢
    obtain ⟨_, a0⟩ := g 0 h (by simp)
    obtain ⟨s1, a1⟩ := g 1 h (by simp)
    obtain ⟨s2, a2⟩ := g 2 h (by simp)
    rw [Nat.add_zero] at a0
    have e : (224 + p / 4096).toNat % 16 * 4096 + (128 + p / 64 % 64).toNat % 64 * 64 + (128 + p % 64).toNat % 64 = p.toNat := by omega
    rw [dec3 D _ (224 + p / 4096).toNat (128 + p / 64 % 64).toNat (128 + p % 64).toNat (by rw [a0]; exact by8_nat _ (by omega) (by omega)) (by rw [a1]; exact by8_nat _ (by omega) (by omega)) (by rw [a2]; exact by8_nat _ (by omega) (by omega)) s1 s2 (by omega) (by omega) (by omega) (by omega) (by omega), e]
    rfl
  · rw [if_neg h3] at g h ⊢
    obtain ⟨_, a0⟩ := g 0 h (by simp)
    obtain ⟨s1, a1⟩ := g 1 h (by simp)
    obtain ⟨s2, a2⟩ := g 2 h (by simp)
    obtain ⟨s3, a3⟩ := g 3 h (by simp)
    rw [Nat.add_zero] at a0
    have e : (240 + p / 262144).toNat % 8 * 262144 + (128 + p / 4096 % 64).toNat % 64 * 4096 + (128 + p / 64 % 64).toNat % 64 * 64 + (128 + p % 64).toNat % 64 = p.toNat := by omega
    rw [dec4 D _ (240 + p / 262144).toNat (128 + p / 4096 % 64).toNat (128 + p / 64 % 64).toNat (128 + p % 64).toNat (by rw [a0]; exact by8_nat _ (by omega) (by omega)) (by rw [a1]; exact by8_nat _ (by omega) (by omega)) (by rw [a2]; exact by8_nat _ (by omega) (by omega)) (by rw [a3]; exact by8_nat _ (by omega) (by omega)) s1 s2 s3 (by omega) (by omega) (by omega) (by omega) (by omega) (by omega), e]
    rfl
end Pl
end Go.Proofs.YtbppdfjigcelkaaGreatDoor
