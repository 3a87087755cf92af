
/- Plain mathematics of Lines: a text cut at its line ends. -/

/- A slice of texts that the call itself makes and appends to: laws of no program. -/

/- The walks of the two Lines. -/
import Derived.Lib.IndexMore
import Derived.Test.YtgabjiamabbheaaGreatDoorFoldPlain
import Derived.WalkKit
import Derived.Laws.OwnMore
import Derived.Test.YtgabjiamabbheaaGreatDoorBytes
import Derived.Test.YtgabjiamabbheaaGreatDoorChecked
import Derived.Test.YtgabjiamabbheaaGreatDoorShelf
import Derived.WalkSmall
import Derived.WalkLawsBesides
import Derived.WalkSpells
namespace Go.Proofs.YtgabjiamabbheaaGreatDoor
namespace Pl
open Go.Lib

def crs : List UInt8 := [13, 10]

def linesF : Nat → List UInt8 → List (List UInt8)
  | 0, _ => []
  | f + 1, l => if l = [] then [] else (cut l crs).1 :: linesF f (cut l crs).2.1

def lines (l : List UInt8) : List (List UInt8) := linesF l.length l

set_option maxRecDepth 20000 in
theorem cut_rest (l : List UInt8) (h : l ≠ []) : (cut l crs).2.1.length < l.length := by
  have h0 : 0 < l.length := List.length_pos_iff.2 h
  unfold cut
  split
  · simp [crs]; omega
  · simpa using h0

set_option maxRecDepth 20000 in
theorem cut_fst (l : List UInt8) : (cut l crs).1.length ≤ l.length := by
  unfold cut
  split
  · rw [List.length_take]; omega
  · exact Nat.le_refl _

set_option maxRecDepth 20000 in
theorem linesF_more : ∀ (f : Nat) (l : List UInt8), l.length ≤ f → linesF (f + 1) l = linesF f l := by
  intro f
  induction f with
  | zero => intro l h; have : l = [] := List.length_eq_zero_iff.1 (by omega); subst this; rfl
  | succ f ih =>
    intro l h
    by_cases hl : l = []
    · subst hl; rfl
    · have e := ih (cut l crs).2.1 (by have := cut_rest l hl; omega)
      show (if l = [] then [] else (cut l crs).1 :: linesF (f + 1) (cut l crs).2.1) = (if l = [] then [] else (cut l crs).1 :: linesF f (cut l crs).2.1)
      rw [e]

set_option maxRecDepth 20000 in
theorem linesF_all (f : Nat) (l : List UInt8) (h : l.length ≤ f) : linesF f l = lines l := by
  induction f with
  | zero => rw [lines, show l.length = 0 by omega]
  | succ f ih =>
    by_cases hl : l.length = f + 1
    · rw [lines, hl]
    · rw [linesF_more f l (by omega), ih (by omega)]

set_option maxRecDepth 20000 in
theorem lines_nil : lines [] = [] := rfl
set_option maxRecDepth 20000 in
theorem lines_step (l : List UInt8) (h : l ≠ []) : lines l = (cut l crs).1 :: lines (cut l crs).2.1 := by
  have h1 := cut_rest l h
  obtain ⟨n, hn⟩ : ∃ n, l.length = n + 1 := ⟨l.length - 1, by omega⟩
  rw [lines, hn, linesF, if_neg h, linesF_all n _ (by omega)]

set_option maxRecDepth 20000 in
theorem occ_crlf (l : List UInt8) (k : Nat) : occAt l crs k = crlf l k := by
  unfold occAt crlf crs
  match l.drop k with
  | [] => rfl
  | [a] => simp [List.isPrefixOf]
  | a :: b :: r =>
    rw [Bool.eq_iff_iff]
    simp only [List.isPrefixOf, Bool.and_true, Bool.and_eq_true, beq_iff_eq, List.take_succ_cons, List.take_zero, List.cons.injEq, and_true]
    exact ⟨fun h => ⟨h.1.symm, h.2.symm⟩, fun h => ⟨h.1.symm, h.2.symm⟩⟩

/-- No line end begins ahead of place n. -/
def NoCr (l : List UInt8) (n : Nat) : Prop := ∀ j, j < n → crlf l j = false
set_option maxRecDepth 20000 in
theorem NoCr.zero (l : List UInt8) : NoCr l 0 := fun _ h => absurd h (Nat.not_lt_zero _)
set_option maxRecDepth 20000 in
theorem NoCr.succ {l : List UInt8} {n : Nat} (h : NoCr l n) (h1 : crlf l n = false) : NoCr l (n + 1) := fun j hj => by
  by_cases e : j = n
  · subst e; exact h1
  · exact h j (by omega)
set_option maxRecDepth 20000 in
theorem NoCr.noOcc {l : List UInt8} {n : Nat} (h : NoCr l n) : NoOcc l crs n := fun j hj => by rw [occ_crlf]; exact h j hj

set_option maxRecDepth 20000 in
theorem cut_hit (l : List UInt8) (i : Nat) (h : NoCr l i) (h1 : crlf l i = true) : cut l crs = (l.take i, l.drop (i + 2), true) := by
  have hi : i ≤ l.length := by obtain ⟨h, -⟩ := (crlf_iff l i).1 h1; omega
  have e : index l crs = i := index_hit h.noOcc hi (by rw [occ_crlf]; exact h1)
  unfold cut
  rw [e, if_pos (by omega)]
  rfl
set_option maxRecDepth 20000 in
theorem cut_miss (l : List UInt8) (h : NoCr l l.length) : cut l crs = (l, [], false) := by
  have e : index l crs = -1 := index_none fun j hj => by
    rw [occ_crlf]
    by_cases hj' : j < l.length
    · exact h j hj'
    · exact crlf_short l j (by omega)
  unfold cut
  rw [e, if_neg (by decide)]

set_option maxRecDepth 20000 in
theorem crlf_dropJ (l : List UInt8) (a j : Nat) : crlf (l.drop a) j = crlf l (a + j) := by
  unfold crlf
  rw [List.drop_drop]

end Pl
end Go.Proofs.YtgabjiamabbheaaGreatDoor
namespace Go.Proofs.YtgabjiamabbheaaGreatDoor
namespace Pl
open Go.Lib
set_option maxRecDepth 20000 in
theorem ext_mk (s : ByteArray) (a b : Nat) : s.extract a b = ⟨((s.data.toList.drop a).take (b - a)).toArray⟩ := by
  apply ByteArray.ext
  apply Array.toList_inj.1
  rw [ext_data]

set_option maxRecDepth 20000 in
theorem line_hit (l : List UInt8) (a k : Nat) (ps : List (List UInt8)) (hak : a ≤ k) (h : NoCr (l.drop a) (k - a)) (h1 : crlf l k = true) (hp : ps ++ lines (l.drop a) = lines l) :
    (ps ++ [(l.drop a).take (k - a)]) ++ lines (l.drop (k + 2)) = lines l := by
  obtain ⟨hk, -⟩ := (crlf_iff l k).1 h1
  have hne : l.drop a ≠ [] := by
    intro e
    have := congrArg List.length e
    simp at this
    omega
  rw [lines_step _ hne, cut_hit (l.drop a) (k - a) h (by rw [crlf_dropJ, show a + (k - a) = k by omega]; exact h1)] at hp
  simp only [List.drop_drop] at hp
  rw [show a + (k - a + 2) = k + 2 by omega] at hp
  rw [← hp]
  simp
set_option maxRecDepth 20000 in
theorem line_last (l : List UInt8) (a k : Nat) (ps : List (List UInt8)) (hak : a < l.length) (hk : l.length ≤ k) (h : NoCr (l.drop a) (k - a)) (hp : ps ++ lines (l.drop a) = lines l) :
    ps ++ [l.drop a] = lines l := by
  have hne : l.drop a ≠ [] := by
    intro e
    have := congrArg List.length e
    simp at this
    omega
  rw [lines_step _ hne, cut_miss (l.drop a) (fun j hj => h j (by simp at hj; omega)), lines_nil] at hp
  exact hp
set_option maxRecDepth 20000 in
theorem line_none (l : List UInt8) (a : Nat) (ps : List (List UInt8)) (ha : l.length ≤ a) (hp : ps ++ lines (l.drop a) = lines l) : ps = lines l := by
  rw [List.drop_eq_nil_of_le ha, lines_nil] at hp
  simpa using hp
set_option maxRecDepth 20000 in
theorem noCr_next (l : List UInt8) (a k : Nat) (hak : a ≤ k) (h : NoCr (l.drop a) (k - a)) (h1 : crlf l k = false) : NoCr (l.drop a) (k + 1 - a) := by
  rw [show k + 1 - a = k - a + 1 by omega]
  exact h.succ (by rw [crlf_dropJ, show a + (k - a) = k by omega]; exact h1)
set_option maxRecDepth 20000 in
theorem crlf_no13 (l : List UInt8) (k : Nat) (h : k < l.length) (h1 : l[k] ≠ 13) : crlf l k = false := by
  rw [Bool.eq_false_iff]; intro e
  obtain ⟨h, h0, -⟩ := (crlf_iff _ _).1 e
  exact h1 h0
set_option maxRecDepth 20000 in
theorem crlf_no10 (l : List UInt8) (k : Nat) (h : k + 1 < l.length) (h1 : l[k + 1] ≠ 10) : crlf l k = false := by
  rw [Bool.eq_false_iff]; intro e
  obtain ⟨h, -, h0⟩ := (crlf_iff _ _).1 e
  exact h1 h0
end Pl
end Go.Proofs.YtgabjiamabbheaaGreatDoor
namespace Go.Proofs.YtgabjiamabbheaaGreatDoor
open Go.RowKit Go.Lib

set_option maxRecDepth 20000 in
theorem mkHidL {p : Prop} (h : p) : Hid p := h

set_option maxRecDepth 20000 in
theorem szL (l : List UInt8) : (⟨l.toArray⟩ : ByteArray).size = l.length := by
  show l.toArray.size = l.length
  simp

def txtL (l : List UInt8) : Value := .string ⟨l.toArray⟩

/-- The slice v, whose array is among the blocks from B on, holds just the texts ps. -/
def OwnS (B : Nat) (v : Value) (ps : List (List UInt8)) (w : World) : Prop := w.ownsRow B 9 1 v ps.length (ps.map txtL)

set_option maxRecDepth 20000 in
theorem OwnS.nil (B : Nat) (w : World) : OwnS B (.slice none 0 0) [] w := World.ownsRow_nil _ _ _ _
set_option maxRecDepth 20000 in
theorem OwnS.made (B : Nat) (w : World) (h : B ≤ w.heap.size) : OwnS B (.slice (some ⟨w.heap.size, 0, none⟩) 0 0) [] (w.alloc (.cells #[] 9)) :=
  World.ownsRow_made w #[] 0 h (by unfold maxLen; omega) rfl
set_option maxRecDepth 20000 in
theorem OwnS.form {B : Nat} {v : Value} {ps : List (List UInt8)} {w : World} (h : OwnS B v ps w) : (v = .slice none 0 0 ∧ ps = []) ∨ ∃ g cap, v = .slice (some ⟨g, 0, none⟩) ps.length cap ∧ B ≤ g ∧ g < w.heap.size ∧ ps.length ≤ cap := by
  have hl := World.ownsRow.lt h
  rcases h.2 with ⟨rfl, h0⟩ | ⟨g, cap, cur, rfl, hB, -, hc, -⟩
  · exact .inl ⟨rfl, List.length_eq_zero_iff.1 h0⟩
  · exact .inr ⟨g, cap, rfl, hB, (hl g rfl).2, hc⟩
set_option maxRecDepth 20000 in
theorem OwnS.cell {B g cap n : Nat} {ps : List (List UInt8)} {w : World} (h : OwnS B (.slice (some ⟨g, 0, none⟩) n cap) ps w) (j : Nat) (hj : j < ps.length) :
    w.cell? ⟨g, j, none⟩ = some (txtL ps[j]) := by
  have := World.ownsRow.cells h (g := g) rfl j (txtL ps[j]) (by simp [hj])
  rwa [add_off] at this
set_option maxRecDepth 20000 in
theorem OwnS.low {B B' : Nat} {v : Value} {ps : List (List UInt8)} {w : World} (h : OwnS B v ps w) (hB : B' ≤ B) : OwnS B' v ps w := by
  refine ⟨h.1, ?_⟩
  rcases h.2 with h | ⟨g, cap, cur, h1, h2, h3⟩
  · exact .inl h
  · exact .inr ⟨g, cap, cur, h1, by omega, h3⟩
set_option maxRecDepth 20000 in
/-- What lies below a place stays there while only what is from there on turns. -/
theorem OwnS.keep {B C : Nat} {v : Value} {ps : List (List UInt8)} {w w' : World} (h : OwnS B v ps w) (hC : w.heap.size ≤ C) (hb : Below C w w') : OwnS B v ps w' := by
  refine ⟨h.1, ?_⟩
  rcases h.2 with h | ⟨g, cap, cur, h1, h2, h3, h4⟩
  · exact .inl h
  · refine .inr ⟨g, cap, cur, h1, h2, ?_, h4⟩
    have hg : g < w.heap.size := by
      by_cases hg : g < w.heap.size
      · exact hg
      · rw [Array.getElem?_eq_none (by omega)] at h3; cases h3
    rw [hb.block g (by omega), h3]

set_option maxRecDepth 20000 in
/-- An append of one text: it is laid in a block of its own first. -/
theorem wp_appS {P : Program} {W w : World} {ops : Array Oper} {rest : List Oper} {o : Oper} {a : Act} {Q : Exit → Act → World → Prop} (hgd : o.guard = none) (s x : Operand) (t : TypeId)
    (ho : o.op = .call { callee := .builtin .append, args := #[s, x], argTypes := #[t, t] })
    (i : TypeInfo) (ht : P.underlying t = some (.slice 9)) (hi : P.info? 9 = some i) (hz : i.zero = some (.string ByteArray.empty)) (hsize : i.size = 1) (hby : i.bytes = 16)
    (B : Nat) (v : Value) (p : List (List UInt8)) (hs : a.eval s = v) (hown : OwnS B v p w) (u : ByteArray) (new : List UInt8) (hu : u = ⟨new.toArray⟩)
    (hx : a.eval x = .slice (some ⟨w.heap.size, 0, none⟩) 1 1) (hlen : p.length ≤ 8000000000) (hB : B ≤ W.heap.size) (hb : Below B W w)
    (h : ∀ v' w', OwnS B v' (p ++ [new]) w' → Below B W w' → wpList P ops Q rest (a.put o.dst v') w') : wpList P ops Q (o :: rest) a (w.alloc (.cells #[.string u] 9)) := by
  subst hu
  have hsz := hb.size
  refine wpList_append_own _ hgd s x t ho B 9 i (.string ByteArray.empty) 1 16 ht hi hz hsize hby rfl (by decide) v p.length (p.map txtL) hs (hown.alloc _) ⟨w.heap.size, 0, none⟩ 1 1 [txtL new] hx
    rfl ?_ ?_ (by unfold maxLen; omega) (by omega) (by simp; omega) ?_
  · intro j u hj
    match j, hj with
    | 0, hj => simp at hj; subst hj; simp [Addr.add, txtL]
  · intro u hu
    simp at hu
    subst hu
    rfl
  · intro v' w' h1 h2 _
    refine h v' w' ?_ ?_
    · unfold OwnS
      rw [List.map_append, List.length_append]
      exact h1
    · exact (hb.alloc (by omega) _).grown h2 (by simp; omega) (fun k hk => (World.ownsRow.lt hown k hk).1)

end Go.Proofs.YtgabjiamabbheaaGreatDoor
namespace Go.Proofs.YtgabjiamabbheaaGreatDoor
open Go.RowKit Go.Lib
set_option maxRecDepth 20000 in
theorem Tryz.info9 : (Tryz.prog.info? 9).map (fun i => (i.zero, i.size, i.bytes)) = some (some (.string ByteArray.empty), 1, 16) := by kernel_rfl
set_option maxRecDepth 20000 in
set_option maxHeartbeats 1000000 in
theorem specLines (s : ByteArray) (w : World) (hs : s.size ≤ 100000) :
    Calls Tryz.prog 41 #[.string s] w fun e w' => ∃ v, e = .returned v ∧ OwnS w.heap.size v (Pl.lines s.data.toList) w' ∧ Below w.heap.size w w' := by
  obtain ⟨i0, hi, hz0, hz1, hz2⟩ := info_parts Tryz.info9
  have hc0 : decide ((100000 : Int) < (s.size : Int)) = false := by simp; omega
  go_enter Tryz.func41, Tryz.ntmps41
  go_wp2
  go_loopw [3, 4, 5] (fun v f i wr => ∃ (a k : Nat) (ps : List (List UInt8)), a ≤ k ∧ k ≤ s.size ∧ f = .int .i64 a ∧ i = .int .i64 k ∧ ps.length ≤ k ∧ Hid (ps ++ Pl.lines (s.data.toList.drop a) = Pl.lines s.data.toList) ∧ Pl.NoCr (s.data.toList.drop a) (k - a) ∧ OwnS w.heap.size v ps wr ∧ Below w.heap.size w wr) (fun _ _ i _ => s.size - (RowKit.intOf i).toNat)
  case atStart => exact ⟨0, 0, [], Nat.le_refl _, Nat.zero_le _, rfl, rfl, by simp, rfl, Pl.NoCr.zero _, OwnS.made _ _ (Nat.le_refl _), (Below.refl _ _).alloc (Nat.le_refl _) _⟩
  case round =>
    obtain ⟨a, k, ps, hak, hk, rfl, rfl, hpl, hp, hno, hown, hb⟩ := hrel
    have hno := hno
    by_cases hlt : k < s.size
    · have h8 : s[k].toNat < 256 := UInt8.toNat_lt _
      by_cases h13 : ((s[k].toNat : Int) == 13) = true
      · by_cases hk1 : k + 1 < s.size
        · have hk1' : decide ((k : Int) + 1 < (s.size : Int)) = true := by simp; omega
          by_cases h10 : ((s[k + 1].toNat : Int) == 10) = true
          · have hcr : Hid (Pl.crlf s.data.toList k = true) := (Pl.crlf_iff _ _).2 ⟨by simpa using hk1, Pl.byte_eq _ 13 _ rfl h13, Pl.byte_eq _ 10 _ rfl h10⟩
            go_wp2_with (at_builtin; go_must (refine wp_appS (W := w) rfl _ _ 24 rfl i0 Tryz.underlying24 hi hz0 hz1 hz2 w.heap.size u3 ps rfl hown _ _ (Pl.ext_mk s a k) rfl (by omega) (Nat.le_refl _) hb ?_; intro v' w' hown' hb'))
            go_roundw
            case rel => exact ⟨k + 2, k + 2, _, Nat.le_refl _, by omega, by go_num, by go_num, by simp; omega, Pl.line_hit _ a k ps hak hno hcr.out hp, by rw [Nat.sub_self]; exact Pl.NoCr.zero _, hown', hb'⟩
            case measure => simp [RowKit.intOf]; omega
          · rw [Bool.not_eq_true] at h10
            have hcr : Hid (Pl.crlf s.data.toList k = false) := Pl.crlf_no10 _ _ (by simpa using hk1) (Pl.byte_ne _ 10 _ rfl h10)
            go_wp2
            go_roundw
            case rel => exact ⟨a, k + 1, ps, by omega, by omega, rfl, by go_num, by omega, hp, Pl.noCr_next _ a k hak hno hcr.out, hown, hb⟩
            case measure => simp [RowKit.intOf]; omega
        · have hk1' : decide ((k : Int) + 1 < (s.size : Int)) = false := by simp; omega
          have hcr : Hid (Pl.crlf s.data.toList k = false) := Pl.crlf_short _ _ (by simp; omega)
          go_wp2
          go_roundw
          case rel => exact ⟨a, k + 1, ps, by omega, by omega, rfl, by go_num, by omega, hp, Pl.noCr_next _ a k hak hno hcr.out, hown, hb⟩
          case measure => simp [RowKit.intOf]; omega
      · rw [Bool.not_eq_true] at h13
        have hcr : Hid (Pl.crlf s.data.toList k = false) := Pl.crlf_no13 _ _ (by simpa using hlt) (Pl.byte_ne _ 13 _ rfl h13)
        go_wp2
        go_roundw
        case rel => exact ⟨a, k + 1, ps, by omega, by omega, rfl, by go_num, by omega, hp, Pl.noCr_next _ a k hak hno hcr.out, hown, hb⟩
        case measure => simp [RowKit.intOf]; omega
    · by_cases ha : a < s.size
      · have hla : Hid (ps ++ [s.data.toList.drop a] = Pl.lines s.data.toList) := Pl.line_last _ a k ps (by simpa using ha) (by simp; omega) hno hp
        have hx : s.extract a s.size = ⟨(s.data.toList.drop a).toArray⟩ := by rw [Pl.ext_mk, List.take_of_length_le (by simp)]
        have hX : Hid (s.extract a s.size = ⟨(s.data.toList.drop a).toArray⟩) := hx
        clear hx hp
        go_wp2_with (at_builtin; go_must (refine wp_appS (W := w) rfl _ _ 24 rfl i0 Tryz.underlying24 hi hz0 hz1 hz2 w.heap.size u3 ps rfl hown _ _ hX.out rfl (by omega) (Nat.le_refl _) hb ?_; intro v' w' hown' hb'))
        go_ret
        rw [hla.out] at hown'
        exact ⟨_, rfl, hown', hb'⟩
      · have hla : Hid (ps = Pl.lines s.data.toList) := Pl.line_none _ a ps (by simp; omega) hp
        clear hp
        go_wp2
        go_ret
        rw [hla.out] at hown
        exact ⟨_, rfl, hown, hb⟩
set_option maxRecDepth 20000 in
theorem libCut (r a b : List UInt8) (c : Bool) (hcut : cut r Pl.crs = (a, b, c)) (m : Int) (w : World) (hr : r.length ≤ 100000) (hm : w.cell? ⟨0, 0, none⟩ = some (.int .i64 m)) :
    Calls Tryz.prog 83 #[.string ⟨r.toArray⟩, .string ⟨#[13, 10]⟩] w fun e w' => e = .returned (.tuple #[.string ⟨a.toArray⟩, .string ⟨b.toArray⟩, .bool c]) ∧ Below w.heap.size w w' := by
  refine (Tryz.strings_Cut ⟨r.toArray⟩ ⟨#[13, 10]⟩ m w (by simp [ByteArray.size]; omega) hm).mono ?_
  rintro e w' ⟨rfl, n, rfl⟩
  have e1 : cut (⟨r.toArray⟩ : ByteArray).data.toList (⟨#[13, 10]⟩ : ByteArray).data.toList = (a, b, c) := hcut
  rw [e1]
  exact ⟨rfl, below_drewN (Below.refl _ _) n⟩
set_option maxRecDepth 20000 in
theorem libCloneL (s : ByteArray) (w : World) (hs : s.size ≤ 100000) :
    Calls Tryz.prog 84 #[.string s] w fun e w' => e = .returned (.string s) ∧ Below w.heap.size w w' := by
  go_enter Tryz.func84, Tryz.ntmps84
  go_wp2_with fail
  refine (Tryz.stringslite_Clone s _ (by omega)).mono ?_
  rintro e w1 ⟨rfl, hb1⟩
  go_wp2
  go_ret
  exact ⟨rfl, hb1⟩
def strLenL : Value → Nat
  | .string b => b.size
  | _ => 0
set_option maxRecDepth 20000 in
theorem strLen_mkL (l : List UInt8) : strLenL (.string ⟨l.toArray⟩) = l.length := by
  show l.toArray.size = l.length
  simp
set_option maxRecDepth 20000 in
theorem zero_ltL {w : World} {x : Value} (h : w.cell? ⟨0, 0, none⟩ = some x) : 0 < w.heap.size := by
  by_cases hz : 0 < w.heap.size
  · exact hz
  · have : w.heap[0]? = none := Array.getElem?_eq_none (by omega)
    simp [World.cell?, this] at h
set_option maxRecDepth 20000 in
set_option maxHeartbeats 1000000 in
theorem implLines (s : ByteArray) (m : Int) (w : World) (hs : s.size ≤ 100000) (hm : w.cell? ⟨0, 0, none⟩ = some (.int .i64 m)) :
    Calls Tryz.prog 57 #[.string s] w fun e w' => ∃ v, e = .returned v ∧ OwnS w.heap.size v (Pl.lines s.data.toList) w' ∧ Below w.heap.size w w' := by
  obtain ⟨i0, hi, hz0, hz1, hz2⟩ := info_parts Tryz.info9
  have hc0 : decide ((100000 : Int) < (s.size : Int)) = false := by simp; omega
  have h0 := zero_ltL hm
  go_enter Tryz.func57, Tryz.ntmps57
  go_wp2
  go_loopw [0, 3] (fun t v wr => ∃ (r : List UInt8) (ps : List (List UInt8)), t = .string ⟨r.toArray⟩ ∧ ps.length + r.length ≤ s.size ∧ Hid (ps ++ Pl.lines r = Pl.lines s.data.toList) ∧ OwnS w.heap.size v ps wr ∧ Below w.heap.size w wr) (fun t _ _ => strLenL t)
  case atStart => exact ⟨s.data.toList, [], rfl, by simp, rfl, OwnS.nil _ _, Below.refl _ _⟩
  case round =>
    obtain ⟨r, ps, rfl, hpl, hp, hown, hb⟩ := hrel
    have hmr : wr.cell? ⟨0, 0, none⟩ = some (.int .i64 m) := (hb.cell (p := ⟨0, 0, none⟩) h0).trans hm
    have hszr := hb.size
    by_cases hr : r = []
    · subst hr
      have hla : Hid (ps = Pl.lines s.data.toList) := by rw [Pl.lines_nil] at hp; simpa [Hid] using hp
      clear hp
      go_wp2
      go_ret
      rw [hla.out] at hown
      exact ⟨_, rfl, hown, hb⟩
    · have hre : r.isEmpty = false := by simpa using hr
      obtain ⟨x, y, c, hcut⟩ : ∃ x y c, cut r Pl.crs = (x, y, c) := ⟨_, _, _, rfl⟩
      have hst := Pl.lines_step r hr
      have hrest := Pl.cut_rest r hr
      have hfst : x.length ≤ r.length := by
        have := Pl.cut_fst r
        rw [hcut] at this; exact this
      rw [hcut] at hst hrest
      simp only at hst hrest
      have hp2 : Hid ((ps ++ [x]) ++ Pl.lines y = Pl.lines s.data.toList) := by have := hp.out; rw [hst] at this; simpa [Hid] using this
      clear hst hp
      go_wp2_with fail
      refine (libCut r x y c hcut m _ (by omega) hmr).mono ?_
      rintro e w1 ⟨rfl, hb1⟩
      clear hcut
      go_wp2_with fail
      refine (libCloneL ⟨x.toArray⟩ _ (by simp [ByteArray.size]; omega)).mono ?_
      rintro e w2 ⟨rfl, hb2⟩
      have hb12 : Below wr.heap.size wr w2 := hb1.trans (hb2.mono hb1.size)
      have hown2 := hown.keep (Nat.le_refl _) hb12
      have hbw : Below w.heap.size w w2 := hb.trans (hb12.mono hszr)
      clear hown hb1 hb2 hb12 hb
      go_wp2_with (at_builtin; go_must (refine wp_appS (W := w) rfl _ _ 24 rfl i0 Tryz.underlying24 hi hz0 hz1 hz2 w.heap.size u3 ps rfl hown2 _ x rfl rfl (by omega) (Nat.le_refl _) hbw ?_; intro v' w' hown' hb'))
      go_roundw
      case rel => (repeat apply Exists.intro); exact ⟨⟨y, _, rfl, by simp; omega, hp2, hown', hb'⟩, rfl⟩
      case measure => simp [strLen_mkL]; omega
end Go.Proofs.YtgabjiamabbheaaGreatDoor
