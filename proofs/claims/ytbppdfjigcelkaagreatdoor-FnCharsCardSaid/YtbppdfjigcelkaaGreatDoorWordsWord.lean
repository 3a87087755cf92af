
/- The walk of the digits without line ends, in the model. -/

/- WriteWords, the specification's side. -/

/- The walk of one group of digits. -/

/- The walk of the digits behind what is there. -/

/- A text that stands for itself; a word of a header. -/
import Derived.Test.YtbppdfjigcelkaaGreatDoorChecked
import Derived.Test.YtbppdfjigcelkaaGreatDoorWordsPlain
import Derived.Test.YtbppdfjigcelkaaGreatDoorBytes
import Derived.Test.YtbppdfjigcelkaaGreatDoorEncLoop
import Derived.WalkKit
import Derived.WalkSmall
import Derived.WalkLawsBesides
import Derived.WalkSpells
import Derived.Test.YtbppdfjigcelkaaGreatDoorWildPlain
import Derived.Deep.RegionHeld3
import Derived.Deep.AppendLies
import Derived.Laws.BitsLemmas
import Derived.Lib.LazyBuf
import Derived.Laws.OwnMore
import Derived.Deep.RegionWith
import Derived.Lib.OthersKept
namespace Go.Proofs.YtbppdfjigcelkaaGreatDoor
open Go.RowKit Go.Lib
set_option maxRecDepth 20000 in
set_option maxHeartbeats 400000 in
theorem specDigit (v : Int) (n : Nat) (hv : v = n) (w : World) (hn : n < 64) :
    Calls Tryz.prog 42 #[.int .i64 v] w fun e w' => e = .returned (.int .u8 ((Pb.d64 n).toNat : Int)) ∧ w = w' := by
  subst hv
  by_cases h1 : n < 26
  · rw [Pb.d64_a n h1]
    go_enter Tryz.func42, Tryz.ntmps42
    go_wp2
    go_ret
    exact ⟨rfl, rfl⟩
  by_cases h2 : n < 52
  · rw [Pb.d64_b n (by omega) h2]
    go_enter Tryz.func42, Tryz.ntmps42
    go_wp2
    go_ret
    exact ⟨rfl, rfl⟩
  by_cases h3 : n < 62
  · rw [Pb.d64_c n (by omega) h3]
    go_enter Tryz.func42, Tryz.ntmps42
    go_wp2
    go_ret
    exact ⟨rfl, rfl⟩
  by_cases h4 : n = 62
  · subst h4
    go_enter Tryz.func42, Tryz.ntmps42
    go_wp2
    go_ret
    exact ⟨rfl, rfl⟩
  · have h5 : n = 63 := by omega
    subst h5
    go_enter Tryz.func42, Tryz.ntmps42
    go_wp2
    go_ret
    exact ⟨rfl, rfl⟩
set_option maxRecDepth 20000 in
theorem specDig (d : UInt8) (v : Int) (n : Nat) (w : World) (hd : Hid (Pb.d64 n = d)) (hv : v = n) (hn : n < 64) :
    Calls Tryz.prog 42 #[.int .i64 v] w fun e w' => e = .returned (.int .u8 (d.toNat : Int)) ∧ w = w' := by
  rw [← hd.out]
  exact specDigit v n hv w hn
set_option maxRecDepth 100000 in
set_option maxHeartbeats 2000000 in
theorem specBare (s : ByteArray) (w : World) (hs : s.size ≤ 100000) :
    Calls Tryz.prog 29 #[.string s] w fun e w' => e = .returned (.string ⟨(Pb.bare s.data.toList).toArray⟩) ∧ Below w.heap.size w w' := by
  obtain ⟨i0, hi, hz0, hz1, hz2⟩ := info_parts Tryz.info5
  go_enter Tryz.func29, Tryz.ntmps29
  go_wp2
  go_loopw [3, 4] (fun v i wr => ∃ (k : Nat) (p : List UInt8), k ≤ s.size + 2 ∧ i = .int .i64 k ∧ p.length ≤ 2 * k ∧ Hid (p ++ Pb.bare (s.data.toList.drop k) = Pb.bare s.data.toList) ∧ Own w.heap.size v p wr ∧ Below w.heap.size w wr) (fun _ i _ => s.size + 3 - (RowKit.intOf i).toNat)
  case atStart => exact ⟨0, [], Nat.zero_le _, rfl, by simp, rfl, Own.made _ _ (Nat.le_refl _), (Below.refl _ _).alloc (Nat.le_refl _) _⟩
  case round =>
    obtain ⟨k, p, hk, rfl, hpl, hp, hown, hb⟩ := hrel
    by_cases hlt : k < s.size
    · have ha : s[k].toNat < 256 := UInt8.toNat_lt _
      by_cases h2 : k + 2 < s.size
      · have hb8 : s[k + 1].toNat < 256 := UInt8.toNat_lt _
        have hc8 : s[k + 2].toNat < 256 := UInt8.toNat_lt _
        have hst : Hid ((p ++ Pb.group s[k] s[k + 1] s[k + 2]) ++ Pb.bare (s.data.toList.drop (k + 3)) = Pb.bare s.data.toList) := Pb.step3 _ p k (by simp; omega) hp
        unfold Pb.group at hst
        generalize g1 : Pb.d64 (s[k].toNat / 4) = d1 at hst
        generalize g2 : Pb.d64 (s[k].toNat % 4 * 16 + s[k + 1].toNat / 16) = d2 at hst
        generalize g3 : Pb.d64 (s[k + 1].toNat % 16 * 4 + s[k + 2].toNat / 64) = d3 at hst
        generalize g4 : Pb.d64 (s[k + 2].toNat % 64) = d4 at hst
        have G1 := mkHid g1
        have G2 := mkHid g2
        have G3 := mkHid g3
        have G4 := mkHid g4
        clear g1 g2 g3 g4 hp
        go_wp2_with fail
        refine (specDig d1 _ _ _ G1 (by omega) (by omega)).mono ?_
        rintro e w2 ⟨rfl, rfl⟩
        go_wp2_with fail
        refine (specDig d2 _ _ _ G2 (by omega) (by omega)).mono ?_
        rintro e w2 ⟨rfl, rfl⟩
        go_wp2_with (first | (at_builtin; go_must (refine wp_app (W := w) rfl _ _ 22 rfl i0 Tryz.underlying22 hi hz0 hz1 hz2 w.heap.size u3 p rfl hown _ [d1, d2] rfl 2 2 rfl rfl (by simp; omega) (Nat.le_refl _) hb ?_; intro v1 w1 hown1 hb1; refine Hid.out ?_)) | fail)
        refine mkHid ?_
        go_wp2_with fail
        refine (specDig d3 _ _ _ G3 (by omega) (by omega)).mono ?_
        rintro e w2 ⟨rfl, rfl⟩
        go_wp2_with (first | (at_builtin; go_must (refine wp_app (W := w) rfl _ _ 22 rfl i0 Tryz.underlying22 hi hz0 hz1 hz2 w.heap.size v1 _ rfl hown1 _ [d3] rfl 1 1 rfl rfl (by simp; omega) (Nat.le_refl _) hb1 ?_; intro v2 w2 hown2 hb2; refine Hid.out ?_)) | fail)
        refine mkHid ?_
        go_wp2_with fail
        refine (specDig d4 _ _ _ G4 (by omega) (by omega)).mono ?_
        rintro e w2' ⟨rfl, rfl⟩
        go_wp2_with (first | (at_builtin; go_must (refine wp_app (W := w) rfl _ _ 22 rfl i0 Tryz.underlying22 hi hz0 hz1 hz2 w.heap.size v2 _ rfl hown2 _ [d4] rfl 1 1 rfl rfl (by simp; omega) (Nat.le_refl _) hb2 ?_; intro v3 w3 hown3 hb3)) | fail)
        go_roundw
        case rel => exact ⟨k + 3, _, by omega, by go_num, by simp; omega, hst, by simpa using hown3, hb3⟩
        case measure => simp [RowKit.intOf]; omega
      · by_cases h1 : k + 1 < s.size
        · have hb8 : s[k + 1].toNat < 256 := UInt8.toNat_lt _
          have hst : Hid ((p ++ [Pb.d64 (s[k].toNat / 4), Pb.d64 (s[k].toNat % 4 * 16 + s[k + 1].toNat / 16), Pb.d64 (s[k + 1].toNat % 16 * 4), 61]) ++ Pb.bare (s.data.toList.drop (k + 3)) = Pb.bare s.data.toList) := Pb.step2 _ p k (by simp; omega) hp
          generalize g1 : Pb.d64 (s[k].toNat / 4) = d1 at hst
          generalize g2 : Pb.d64 (s[k].toNat % 4 * 16 + s[k + 1].toNat / 16) = d2 at hst
          generalize g3 : Pb.d64 (s[k + 1].toNat % 16 * 4) = d3 at hst
          have G1 := mkHid g1
          have G2 := mkHid g2
          have G3 := mkHid g3
          clear g1 g2 g3 hp
          go_wp2_with fail
          refine (specDig d1 _ _ _ G1 (by omega) (by omega)).mono ?_
          rintro e w2 ⟨rfl, rfl⟩
          go_wp2_with fail
          refine (specDig d2 _ _ _ G2 (by omega) (by omega)).mono ?_
          rintro e w2 ⟨rfl, rfl⟩
          go_wp2_with (first | (at_builtin; go_must (refine wp_app (W := w) rfl _ _ 22 rfl i0 Tryz.underlying22 hi hz0 hz1 hz2 w.heap.size u3 p rfl hown _ [d1, d2] rfl 2 2 rfl rfl (by simp; omega) (Nat.le_refl _) hb ?_; intro v1 w1 hown1 hb1; refine Hid.out ?_)) | fail)
          refine mkHid ?_
          go_wp2_with fail
          refine (specDig d3 _ _ _ G3 (by omega) (by omega)).mono ?_
          rintro e w2 ⟨rfl, rfl⟩
          go_wp2_with (first | (at_builtin; go_must (refine wp_app (W := w) rfl _ _ 22 rfl i0 Tryz.underlying22 hi hz0 hz1 hz2 w.heap.size v1 _ rfl hown1 _ [d3] rfl 1 1 rfl rfl (by simp; omega) (Nat.le_refl _) hb1 ?_; intro v2 w2 hown2 hb2; refine Hid.out ?_)) | fail)
          refine mkHid ?_
          go_wp2_with (first | (at_builtin; go_must (refine wp_app (W := w) rfl _ _ 22 rfl i0 Tryz.underlying22 hi hz0 hz1 hz2 w.heap.size v2 _ rfl hown2 _ [61] rfl 1 1 rfl rfl (by simp; omega) (Nat.le_refl _) hb2 ?_; intro v3 w3 hown3 hb3)) | fail)
          go_roundw
          case rel => exact ⟨k + 3, _, by omega, by go_num, by simp; omega, hst, by simpa using hown3, hb3⟩
          case measure => simp [RowKit.intOf]; omega
        · have hst : Hid ((p ++ [Pb.d64 (s[k].toNat / 4), Pb.d64 (s[k].toNat % 4 * 16), 61, 61]) ++ Pb.bare (s.data.toList.drop (k + 3)) = Pb.bare s.data.toList) := Pb.step1 _ p k (by simp; omega) hp
          generalize g1 : Pb.d64 (s[k].toNat / 4) = d1 at hst
          generalize g2 : Pb.d64 (s[k].toNat % 4 * 16) = d2 at hst
          have G1 := mkHid g1
          have G2 := mkHid g2
          clear g1 g2 hp
          go_wp2_with fail
          refine (specDig d1 _ _ _ G1 (by omega) (by omega)).mono ?_
          rintro e w2 ⟨rfl, rfl⟩
          go_wp2_with fail
          refine (specDig d2 _ _ _ G2 (by omega) (by omega)).mono ?_
          rintro e w2 ⟨rfl, rfl⟩
          go_wp2_with (first | (at_builtin; go_must (refine wp_app (W := w) rfl _ _ 22 rfl i0 Tryz.underlying22 hi hz0 hz1 hz2 w.heap.size u3 p rfl hown _ [d1, d2] rfl 2 2 rfl rfl (by simp; omega) (Nat.le_refl _) hb ?_; intro v1 w1 hown1 hb1; refine Hid.out ?_)) | fail)
          refine mkHid ?_
          go_wp2_with (first | (at_builtin; go_must (refine wp_app (W := w) rfl _ _ 22 rfl i0 Tryz.underlying22 hi hz0 hz1 hz2 w.heap.size v1 _ rfl hown1 _ [61] rfl 1 1 rfl rfl (by simp; omega) (Nat.le_refl _) hb1 ?_; intro v2 w2 hown2 hb2; refine Hid.out ?_)) | fail)
          refine mkHid ?_
          go_wp2_with (first | (at_builtin; go_must (refine wp_app (W := w) rfl _ _ 22 rfl i0 Tryz.underlying22 hi hz0 hz1 hz2 w.heap.size v2 _ rfl hown2 _ [61] rfl 1 1 rfl rfl (by simp; omega) (Nat.le_refl _) hb2 ?_; intro v3 w3 hown3 hb3)) | fail)
          go_roundw
          case rel => exact ⟨k + 3, _, by omega, by go_num, by simp; omega, hst, by simpa using hown3, hb3⟩
          case measure => simp [RowKit.intOf]; omega
    · have hpn : Hid (p = Pb.bare s.data.toList) := Pb.step0 _ p k (by simp; omega) hp
      have hbk := hown.back (P := Tryz.prog) 22 9 Tryz.underlying22 Tryz.underlying5 Tryz.underlying9
      clear hp
      go_wp2
      go_ret
      rw [← hpn.out]
      exact ⟨rfl, hb⟩
end Go.Proofs.YtbppdfjigcelkaaGreatDoor
namespace Go.Proofs.YtbppdfjigcelkaaGreatDoor
open Go.RowKit Go.Lib
set_option maxRecDepth 20000 in
theorem contains_cons (a : UInt8) (l : List UInt8) (sub : List UInt8) : contains (a :: l) sub = (sub.isPrefixOf (a :: l) || contains l sub) := by
  unfold contains
  rw [index]
  cases h : sub.isPrefixOf (a :: l)
  · simp only [Bool.false_eq_true, if_false, Bool.false_or]
    cases h2 : (index l sub == -1)
    · simp only [Bool.false_eq_true, if_false]
      have : -1 ≤ index l sub := index_ge l sub
      have h3 : index l sub ≠ -1 := by simpa using h2
      congr 1
      exact propext (by omega)
    · simp only [if_true]
      have h3 : index l sub = -1 := by simpa using h2
      rw [h3]
  · simp
set_option maxRecDepth 20000 in
theorem two_prefix (l : List UInt8) : ([61, 63] : List UInt8).isPrefixOf l = (l.take 2 == [61, 63]) := by
  match l with
  | [] => rfl
  | [a] => simp [List.isPrefixOf]
  | a :: b :: l => simp [List.isPrefixOf, eq_comm, Bool.beq_eq_decide_eq]
set_option maxRecDepth 20000 in
theorem two_hit (s : ByteArray) (k : Nat) (hk : k + 2 ≤ s.size) (h : ((s.extract k (k + 2)).toList == [61, 63]) = true) (hp : Hid (contains (s.data.toList.drop k) [61, 63] = contains s.data.toList [61, 63])) : contains s.data.toList [61, 63] = true := by
  rw [← hp.out, List.drop_eq_getElem_cons (by simp; omega), contains_cons, ← List.drop_eq_getElem_cons, two_prefix]
  rw [Pl.ext_list, show k + 2 - k = 2 from by omega] at h
  rw [h, Bool.true_or]
set_option maxRecDepth 20000 in
theorem two_miss (s : ByteArray) (k : Nat) (hk : k + 2 ≤ s.size) (h : ((s.extract k (k + 2)).toList == [61, 63]) = false) (hp : Hid (contains (s.data.toList.drop k) [61, 63] = contains s.data.toList [61, 63])) : Hid (contains (s.data.toList.drop (k + 1)) [61, 63] = contains s.data.toList [61, 63]) := by
  show _ = _
  rw [← hp.out, List.drop_eq_getElem_cons (show k < s.data.toList.length by simp; omega), contains_cons, ← List.drop_eq_getElem_cons, two_prefix]
  rw [Pl.ext_list, show k + 2 - k = 2 from by omega] at h
  rw [h, Bool.false_or]
set_option maxRecDepth 20000 in
theorem two_end (s : ByteArray) (k : Nat) (hk : ¬ k + 2 ≤ s.size) (hp : Hid (contains (s.data.toList.drop k) [61, 63] = contains s.data.toList [61, 63])) : contains s.data.toList [61, 63] = false := by
  rw [← hp.out]
  have hl : (s.data.toList.drop k).length < 2 := by simp; omega
  match s.data.toList.drop k, hl with
  | [], _ => rfl
  | [a], _ => rw [contains_cons]; simp [List.isPrefixOf]; rfl
set_option maxRecDepth 20000 in
set_option maxHeartbeats 1000000 in
theorem specIndex2 (s : ByteArray) (w : World) (hs : s.size ≤ 100000) :
    Calls Tryz.prog 28 #[.string s, .string ⟨#[61, 63]⟩, .int .i64 0] w fun e w' => ∃ i : Int, e = .returned (.int .i64 i) ∧ decide (i < 0) = !contains s.data.toList [61, 63] ∧ w' = w := by
  have h2 : (⟨#[61, 63]⟩ : ByteArray).size = 2 := rfl
  go_enter Tryz.func28, Tryz.ntmps28
  go_wp2
  go_loopw [7] (fun i wr => ∃ k : Nat, k ≤ s.size ∧ i = .int .i64 k ∧ Hid (contains (s.data.toList.drop k) [61, 63] = contains s.data.toList [61, 63]) ∧ wr = w) (fun i _ => s.size + 1 - (Lib.intOf i).toNat)
  case atStart => exact ⟨0, Nat.zero_le _, rfl, rfl, rfl⟩
  case round =>
    obtain ⟨k, hk, rfl, hp, rfl⟩ := hrel
    by_cases hlt : k + 2 ≤ s.size
    · cases hc : ((s.extract k (k + 2)).toList == [61, 63])
      · have hn := two_miss s k hlt hc hp
        clear hp
        go_wp2
        go_roundw
        case rel => exact ⟨k + 1, by omega, by go_num, hn, trivial⟩
        case measure => simp [Lib.intOf]; omega
      · have hn := two_hit s k hlt hc hp
        have Hn := (show Hid _ from hn)
        clear hp hn
        go_wp2
        go_ret
        exact ⟨_, rfl, by rw [Hn.out, decide_eq_false (by omega)]; rfl, rfl⟩
    · have hn := two_end s k hlt hp
      have Hn := (show Hid _ from hn)
      clear hp hn
      go_wp2
      go_ret
      exact ⟨_, rfl, by rw [Hn.out]; rfl, rfl⟩
end Go.Proofs.YtbppdfjigcelkaaGreatDoor
namespace Go.Proofs.YtbppdfjigcelkaaGreatDoor
open Go.RowKit Go.Lib
/-- The table of digits lies in block 0. -/
def Tab (w : World) : Prop := ∀ (j : Nat), j < 64 → w.cell? ⟨1, j, none⟩ = some (.int .u8 ((Pb.d64 j).toNat : Int))
set_option maxRecDepth 20000 in
theorem one_cells (l : List UInt8) : ∀ u ∈ byteCells l, u.oneCell' = true := by
  intro u hu
  simp only [byteCells, List.mem_map] at hu
  obtain ⟨b, -, rfl⟩ := hu
  rfl
set_option maxRecDepth 20000 in
theorem or16 (a b : Nat) (_ha : a < 256) (hb : b < 256) : bits .or .u8 ((a : Int) * 16 % 64) ((b : Int) / 16) = ((a % 4 * 16 + b / 16 : Nat) : Int) := by
  rw [bits_join .u8 8 (by decide) wraps_u8 4 _ _ (by omega) (by omega) (by omega) (by omega) (by omega) (by omega)]
  omega
set_option maxRecDepth 20000 in
theorem or4 (a b : Nat) (_ha : a < 256) (hb : b < 256) : bits .or .u8 ((a : Int) * 4 % 64) ((b : Int) / 64) = ((a % 16 * 4 + b / 64 : Nat) : Int) := by
  rw [bits_join .u8 8 (by decide) wraps_u8 2 _ _ (by omega) (by omega) (by omega) (by omega) (by omega) (by omega)]
  omega
set_option maxRecDepth 20000 in
theorem or16r (a b : Nat) (ha : a < 256) (hb : b < 256) : bits .or .u8 (bits .and .u8 (IntKind.u8.wrap ((a : Int) * 16)) 63) ((b : Int) / 16) = ((a % 4 * 16 + b / 16 : Nat) : Int) := by
  rw [u8_and63 _ (by rw [IntKind.wrap_u8]; omega) (by rw [IntKind.wrap_u8]; omega), IntKind.wrap_u8, show ((a : Int) * 16 % 256 % 64) = (a : Int) * 16 % 64 by omega]
  exact or16 a b ha hb
set_option maxRecDepth 20000 in
theorem or4r (a b : Nat) (ha : a < 256) (hb : b < 256) : bits .or .u8 (bits .and .u8 (IntKind.u8.wrap ((a : Int) * 4)) 63) ((b : Int) / 64) = ((a % 16 * 4 + b / 64 : Nat) : Int) := by
  rw [u8_and63 _ (by rw [IntKind.wrap_u8]; omega) (by rw [IntKind.wrap_u8]; omega), IntKind.wrap_u8, show ((a : Int) * 4 % 256 % 64) = (a : Int) * 4 % 64 by omega]
  exact or4 a b ha hb
set_option maxRecDepth 20000 in
theorem and63r (c : Nat) (hc : c < 256) : bits .and .u8 (c : Int) 63 = ((c % 64 : Nat) : Int) := by
  rw [u8_and63 _ (by omega) (by omega)]; omega
set_option maxRecDepth 20000 in
set_option maxHeartbeats 1000000 in
theorem implGroup (B : Nat) (v : Value) (p : List UInt8) (a b c : UInt8) (W w : World) (hown : Own B v p w) (hT : Tab w) (hB0 : 1 < B) (hBW : B ≤ W.heap.size) (hb : Below B W w) (hl : p.length ≤ 1000000) :
    Calls Tryz.prog 52 #[v, .int .u8 (a.toNat : Int), .int .u8 (b.toNat : Int), .int .u8 (c.toNat : Int)] w fun e w' => ∃ v', e = .returned v' ∧ Own B v' (p ++ Pb.group a b c) w' ∧ Below B W w' := by
  obtain ⟨i0, hi, hz0, hz1, hz2⟩ := info_parts Tryz.info5
  have ha8 : a.toNat < 256 := UInt8.toNat_lt _
  have hb8 : b.toNat < 256 := UInt8.toNat_lt _
  have hc8 : c.toNat < 256 := UInt8.toNat_lt _
  have e1 := hT (a.toNat / 4) (by omega)
  have e2 := hT (a.toNat % 4 * 16 + b.toNat / 16) (by omega)
  have e3 := hT (b.toNat % 16 * 4 + c.toNat / 64) (by omega)
  have e4 := hT (c.toNat % 64) (by omega)
  have hg : Hid (Pb.group a b c = [Pb.d64 (a.toNat / 4), Pb.d64 (a.toNat % 4 * 16 + b.toNat / 16), Pb.d64 (b.toNat % 16 * 4 + c.toNat / 64), Pb.d64 (c.toNat % 64)]) := rfl
  have x1 : (a.toNat : Int) / 4 = ((a.toNat / 4 : Nat) : Int) := by omega
  have x2 := or16 a.toNat b.toNat ha8 hb8
  have x3 := or4 b.toNat c.toNat hb8 hc8
  have x4 : (c.toNat : Int) % 64 = ((c.toNat % 64 : Nat) : Int) := by omega
  have y2 := or16r a.toNat b.toNat ha8 hb8
  have y3 := or4r b.toNat c.toNat hb8 hc8
  have y4 := and63r c.toNat hc8
  have l1 : a.toNat / 4 < 64 := by omega
  have l2 : a.toNat % 4 * 16 + b.toNat / 16 < 64 := by omega
  have l3 : b.toNat % 16 * 4 + c.toNat / 64 < 64 := by omega
  have l4 : c.toNat % 64 < 64 := by omega
  generalize a.toNat / 4 = i1 at *
  generalize a.toNat % 4 * 16 + b.toNat / 16 = i2 at *
  generalize b.toNat % 16 * 4 + c.toNat / 64 = i3 at *
  generalize c.toNat % 64 = i4 at *
  generalize Pb.d64 i1 = d1 at *
  generalize Pb.d64 i2 = d2 at *
  generalize Pb.d64 i3 = d3 at *
  generalize Pb.d64 i4 = d4 at *
  have m1 : (i1 : Int) < 64 := by omega
  have m2 : (i2 : Int) < 64 := by omega
  have m3 : (i3 : Int) < 64 := by omega
  have m4 : (i4 : Int) < 64 := by omega
  have hbs := hb.size
  have hBw : B ≤ w.heap.size := by omega
  go_enter Tryz.func52, Tryz.ntmps52
  go_wp2
  go_region_held3 (fun w' => w'.cell? ⟨1, i1, none⟩ = some (.int .u8 (d1.toNat : Int)) ∧ w'.cell? ⟨1, i2, none⟩ = some (.int .u8 (d2.toNat : Int)) ∧ w'.cell? ⟨1, i3, none⟩ = some (.int .u8 (d3.toNat : Int)) ∧ w'.cell? ⟨1, i4, none⟩ = some (.int .u8 (d4.toNat : Int))) (first | exact ⟨k1, k2, k3, k4⟩ | go_keep) ((refine step_append_lies _ (by rfl) _ _ 22 (by rfl) B 5 i0 (.int .u8 0) 1 1 Tryz.underlying22 hi hz0 hz1 hz2 rfl (by decide) v p.length (byteCells p) (by rfl) (by exact World.ownsRow.alloc hown _) ⟨w.heap.size, 0, none⟩ 4 4 (byteCells [d1, d2, d3, d4]) (by rfl) (by rfl) (World.news_of_block (cs := #[.int .u8 (d1.toNat : Int), .int .u8 (d2.toNat : Int), .int .u8 (d3.toNat : Int), .int .u8 (d4.toNat : Int)]) (heap_alloc_new w _)) (one_cells _) (by decide) (by unfold maxLen; omega) (by omega) (by simp; omega) (w.heap.size + 1) (by simp) ?_; intro g cap w1 hown1 hgrow hat hlt1; have hbw := (((Below.refl B w).alloc hBw _).drew.grown hgrow (by simp; omega) (fun k hk => (World.ownsRow.lt hown k hk).1)); have k1 := (hbw.cell (p := ⟨1, i1, none⟩) hB0).trans e1; have k2 := (hbw.cell (p := ⟨1, i2, none⟩) hB0).trans e2; have k3 := (hbw.cell (p := ⟨1, i3, none⟩) hB0).trans e3; have k4 := (hbw.cell (p := ⟨1, i4, none⟩) hB0).trans e4))
  go_wp2
  go_ret
  refine ⟨_, rfl, ?_, hb.trans hbw⟩
  rw [hg.out]
  unfold Own
  rw [byteCells_append, List.length_append]
  exact hown1
end Go.Proofs.YtbppdfjigcelkaaGreatDoor
namespace Go.Proofs.YtbppdfjigcelkaaGreatDoor
open Go.RowKit Go.Lib
set_option maxRecDepth 20000 in
theorem Own.stored {B g cap : Nat} {p : List UInt8} {w : World} (h : Own B (.slice (some ⟨g, 0, none⟩) p.length cap) p w) (j : Nat) (c : UInt8) :
    Own B (.slice (some ⟨g, 0, none⟩) p.length cap) (p.set j c) (w.setCell ⟨g, j, none⟩ (.int .u8 (c.toNat : Int))) := by
  have := (World.ownsRow.stored h j (.int .u8 (c.toNat : Int))).1
  unfold Own
  rw [List.length_set, byteCells, List.map_set]
  exact this
set_option maxRecDepth 20000 in
theorem Own.overlaid {B g cap : Nat} : ∀ (new old q : List UInt8) (w : World), old.length = new.length → Own B (.slice (some ⟨g, 0, none⟩) (q ++ old).length cap) (q ++ old) w →
    Own B (.slice (some ⟨g, 0, none⟩) (q ++ old).length cap) (q ++ new) (w.setCells g q.length (byteCells new)) := by
  intro new
  induction new with
  | nil => intro old q w hl h; have : old = [] := List.length_eq_zero_iff.1 (by simpa using hl); subst this; exact h
  | cons c r ih =>
    intro old q w hl h
    match old, hl with
    | o :: old', hl =>
      have h1 := h.stored q.length c
      have e : (q ++ o :: old').set q.length c = (q ++ [c]) ++ old' := by simp
      have el : (q ++ o :: old').length = ((q ++ [c]) ++ old').length := by simp
      rw [e, el] at h1
      have h2 := ih old' (q ++ [c]) _ (by simpa using hl) h1
      rw [el]
      have e2 : (q ++ [c]) ++ r = q ++ c :: r := by simp
      rw [e2] at h2
      have e3 : (q ++ [c]).length = q.length + 1 := by simp
      rw [e3] at h2
      exact h2
set_option maxRecDepth 20000 in
/-- A text laid over the last bytes, as the run of the operation. -/
theorem copy_over (W w : World) (B g cap n off dCap : Nat) (q old : List UInt8) (t : ByteArray) (hn : n = t.size) (hoff : off = q.length) (hl : old.length = t.size)
    (hown : Own B (.slice (some ⟨g, 0, none⟩) (q ++ old).length cap) (q ++ old) w) (hBg : B ≤ g) (hb : Below B W w) :
    ∃ W', (Builtin.copy_ #[22, 9] 3 #[.slice (some ⟨g, off, none⟩) n dCap, .string t]).run Tryz.prog w = .ok (goInt t.size) W' ∧ Own B (.slice (some ⟨g, 0, none⟩) (q ++ old).length cap) (q ++ t.data.toList) W' ∧ Below B W W' := by
  subst hn hoff
  have hts : t.data.toList.length = t.size := by simp
  exact ⟨_, run_copy_string (P := Tryz.prog) w 22 9 3 5 g q.length t.size dCap t Tryz.underlying22 (fun _ => by kernel_rfl) (Nat.le_refl _) (fun j hj => by
      have := hown.cell (q.length + j) (by simp; omega)
      rw [this]; rfl) (fun j hj => World.ownsRow.frozenAt hown _), hown.overlaid t.data.toList old q w (by omega), below_setCells hBg _ _ _ hb⟩
set_option maxRecDepth 20000 in
theorem Own.lies {B : Nat} {v : Value} {p : List UInt8} {w : World} (h : Own B v p w) (hp : 0 < p.length) : ∃ g cap, v = .slice (some ⟨g, 0, none⟩) p.length cap ∧ B ≤ g ∧ p.length ≤ cap := by
  rcases h.2 with ⟨rfl, h0⟩ | ⟨g, cap, cur, rfl, hB, -, hc, -⟩
  · omega
  · exact ⟨g, cap, rfl, hB, hc⟩
set_option maxRecDepth 20000 in
theorem Tab.on {B : Nat} {w w' : World} (h : Tab w) (hB0 : 1 < B) (hb : Below B w w') : Tab w' := fun j hj => (hb.cell (p := ⟨1, j, none⟩) hB0).trans (h j hj)
def strLen : Value → Nat
  | .string b => b.size
  | _ => 0
set_option maxRecDepth 20000 in
theorem strLen_mk (l : List UInt8) : strLen (.string ⟨l.toArray⟩) = l.length := by
  show l.toArray.size = l.length
  simp
set_option maxRecDepth 100000 in
set_option maxHeartbeats 2000000 in
theorem implAppend (B : Nat) (v : Value) (p l : List UInt8) (W w : World) (hown : Own B v p w) (hT : Tab W) (hB0 : 1 < B) (hBW : B ≤ W.heap.size) (hb : Below B W w) (hl : p.length + 2 * l.length ≤ 900000) :
    Calls Tryz.prog 41 #[v, .string ⟨l.toArray⟩] w fun e w' => ∃ v', e = .returned v' ∧ Own B v' (p ++ Pb.bare l) w' ∧ Below B W w' := by
  go_enter Tryz.func41, Tryz.ntmps41
  go_wp2
  go_loopw [0, 1] (fun u t wr => ∃ (r q : List UInt8), t = .string ⟨r.toArray⟩ ∧ q.length + 2 * r.length ≤ 900000 ∧ Hid (q ++ Pb.bare r = p ++ Pb.bare l) ∧ Own B u q wr ∧ Below B W wr) (fun _ t _ => strLen t)
  case atStart => exact ⟨l, p, rfl, hl, rfl, hown, hb⟩
  case round =>
    clear hown hb
    obtain ⟨r, q, rfl, hql, hq, hown, hb⟩ := hrel
    have hTr := hT.on hB0 hb
    match r, hql, hq with
    | a :: b :: c :: r', hql, hq =>
      have hst : Hid ((q ++ Pb.group a b c) ++ Pb.bare r' = p ++ Pb.bare l) := by
        have := hq.out
        rw [Pb.bare] at this
        rw [List.append_assoc]; exact this
      have hgr := fun W' (h1 : Own B u0 q W') (h2 : Tab W') (h3 : Below B W W') => implGroup B u0 q a b c W W' h1 h2 hB0 hBW h3 (by omega)
      have Hgr := mkHid hgr
      clear hq hgr
      go_wp2
      go_region_with (go_at_call 52; (refine (Hgr.out _ (by exact hown) (by exact hTr) (by exact hb.drew)).mono ?_; rintro e w2 ⟨v2, rfl, hown2, hb2⟩))
      all_goals
        have hx : (⟨(a :: b :: c :: r').toArray⟩ : ByteArray).extract 3 (r'.length + 1 + 1 + 1) = ⟨r'.toArray⟩ := by
          rw [Pb.ext_of, show List.drop 3 (a :: b :: c :: r') = r' from rfl, List.take_of_length_le (by omega)]
        have Hx := mkHid hx
        clear hx
        go_wp2
        rw [Hx.out]
        go_roundw
        case rel => exact ⟨r', _, rfl, by simp only [List.length_append, Pb.group, List.length_cons, List.length_nil] at hql ⊢; omega, hst, hown2, hb2⟩
        case measure => rw [strLen_mk, strLen_mk]; simp; omega
    | [a, b], hql, hq =>
      have hst : Hid (q ++ [Pb.d64 (a.toNat / 4), Pb.d64 (a.toNat % 4 * 16 + b.toNat / 16), Pb.d64 (b.toNat % 16 * 4), 61] = p ++ Pb.bare l) := hq
      have hgg : Hid (Pb.group a b 0 = [Pb.d64 (a.toNat / 4), Pb.d64 (a.toNat % 4 * 16 + b.toNat / 16), Pb.d64 (b.toNat % 16 * 4)] ++ [Pb.d64 0]) := rfl
      have hgr := fun W' (h1 : Own B u0 q W') (h2 : Tab W') (h3 : Below B W W') => implGroup B u0 q a b 0 W W' h1 h2 hB0 hBW h3 (by omega)
      have Hgr := mkHid hgr
      clear hq hgr
      go_wp2
      go_region_with (go_at_call 52; (refine (Hgr.out _ (by exact hown) (by exact hTr) (by exact hb.drew)).mono ?_; rintro e w2 ⟨v2, rfl, hown2, hb2⟩))
      all_goals
        rw [hgg.out, ← List.append_assoc] at hown2
        obtain ⟨g, cap, hv, hBg, hcap⟩ := hown2.lies (by simp)
        simp only [List.length_append, List.length_cons, List.length_nil, Nat.zero_add, Nat.add_assoc, Nat.reduceAdd] at hv hcap
        rw [hv] at hown2 ⊢
        clear hv
        obtain ⟨w3, hcopy, hown3, hb3⟩ := copy_over W w2 B g cap 1 (q.length + 3) (cap - (q.length + 3)) (q ++ [Pb.d64 (a.toNat / 4), Pb.d64 (a.toNat % 4 * 16 + b.toNat / 16), Pb.d64 (b.toNat % 16 * 4)]) [Pb.d64 0] ⟨#[61]⟩ rfl (by simp) rfl (by simpa using hown2) hBg hb2
        have Hown3 := mkHid hown3
        clear hown3
        go_wp2
        go_ret
        rw [← hst.out]
        exact ⟨_, rfl, by simpa using Hown3.out, hb3⟩
    | [a], hql, hq =>
      have hst : Hid (q ++ [Pb.d64 (a.toNat / 4), Pb.d64 (a.toNat % 4 * 16), 61, 61] = p ++ Pb.bare l) := hq
      have hgg : Hid (Pb.group a 0 0 = [Pb.d64 (a.toNat / 4), Pb.d64 (a.toNat % 4 * 16)] ++ [Pb.d64 0, Pb.d64 0]) := rfl
      have hgr := fun W' (h1 : Own B u0 q W') (h2 : Tab W') (h3 : Below B W W') => implGroup B u0 q a 0 0 W W' h1 h2 hB0 hBW h3 (by omega)
      have Hgr := mkHid hgr
      clear hq hgr
      go_wp2_with fail
      refine (Hgr.out _ hown hTr hb).mono ?_
      rintro e w2 ⟨v2, rfl, hown2, hb2⟩
      rw [hgg.out, ← List.append_assoc] at hown2
      obtain ⟨g, cap, hv, hBg, hcap⟩ := hown2.lies (by simp)
      simp only [List.length_append, List.length_cons, List.length_nil, Nat.zero_add, Nat.add_assoc, Nat.reduceAdd] at hv hcap
      rw [hv] at hown2 ⊢
      clear hv
      obtain ⟨w3, hcopy, hown3, hb3⟩ := copy_over W w2 B g cap 2 (q.length + 2) (cap - (q.length + 2)) (q ++ [Pb.d64 (a.toNat / 4), Pb.d64 (a.toNat % 4 * 16)]) [Pb.d64 0, Pb.d64 0] ⟨#[61, 61]⟩ rfl (by simp) rfl (by simpa using hown2) hBg hb2
      have Hown3 := mkHid hown3
      clear hown3
      go_wp2
      go_ret
      rw [← hst.out]
      exact ⟨_, rfl, by simpa using Hown3.out, hb3⟩
    | [], hql, hq =>
      have hst : Hid (q = p ++ Pb.bare l) := by rw [show Pb.bare [] = [] from rfl, List.append_nil] at hq; exact hq
      go_wp2
      go_ret
      rw [← hst.out]
      exact ⟨_, rfl, hown, hb⟩
end Go.Proofs.YtbppdfjigcelkaaGreatDoor
namespace Go.Proofs.YtbppdfjigcelkaaGreatDoor
open Go.RowKit Go.Lib
def MaxL (w : World) : Prop := ∃ m : Int, w.cell? ⟨2, 0, none⟩ = some (.int .i64 m)
set_option maxRecDepth 20000 in
theorem prt_cases (c : UInt8) : (c.toNat < 32 ∧ Pl.prt c = false) ∨ (126 < c.toNat ∧ Pl.prt c = false) ∨ (32 ≤ c.toNat ∧ c.toNat ≤ 126 ∧ Pl.prt c = true) := by
  unfold Pl.prt
  by_cases h1 : 32 ≤ c.toNat
  · by_cases h2 : c.toNat ≤ 126
    · exact .inr (.inr ⟨h1, h2, by rw [decide_eq_true h1, decide_eq_true h2]; rfl⟩)
    · exact .inr (.inl ⟨by omega, by rw [decide_eq_false h2, Bool.and_false]⟩)
  · exact .inl ⟨by omega, by rw [decide_eq_false h1, Bool.false_and]⟩
set_option maxRecDepth 20000 in
set_option maxHeartbeats 1000000 in
theorem implStands (s : ByteArray) (w : World) (hs : s.size ≤ 100000) (hM : MaxL w) :
    Calls Tryz.prog 24 #[.string s] w fun e w' => e = .returned (.bool (s.data.toList.all Pl.prt && !contains s.data.toList [61, 63])) ∧ w' = w := by
  obtain ⟨m, hm⟩ := hM
  have hC := Tryz.strings_Contains s ⟨#[61, 63]⟩ m w (by omega) hm
  have HC : Hid (Calls Tryz.prog 40 #[.string s, .string ⟨#[61, 63]⟩] w fun e w' => e = .returned (.bool (contains s.data.toList [61, 63])) ∧ w' = w) := hC
  clear hC hm
  obtain ⟨T, hT⟩ : ∃ T, (s.data.toList.all Pl.prt && !contains s.data.toList [61, 63]) = T := ⟨_, rfl⟩
  have HT : Hid ((s.data.toList.all Pl.prt && !contains s.data.toList [61, 63]) = T) := hT
  rw [hT]
  clear hT
  obtain ⟨C, hCC⟩ : ∃ C, contains s.data.toList [61, 63] = C := ⟨_, rfl⟩
  rw [hCC] at HC HT
  clear hCC
  go_enter Tryz.func24, Tryz.ntmps24
  go_wp2
  go_loopw [3, 6] (fun _ i wr => ∃ k : Nat, k ≤ s.size ∧ i = .int .i64 k ∧ Hid ((s.data.toList.drop k).all Pl.prt = s.data.toList.all Pl.prt) ∧ wr = w) (fun _ i _ => s.size - (Lib.intOf i).toNat)
  case atStart => exact ⟨0, Nat.zero_le _, rfl, rfl, rfl⟩
  case round =>
    obtain ⟨k, hk, rfl, hp, rfl⟩ := hrel
    by_cases hlt : k < s.size
    · have hst := Pl.all_step Pl.prt s.data.toList k (by simpa using hlt)
      rw [Pl.at_list s k hlt] at hst
      have Hst : Hid ((s.data.toList.drop k).all Pl.prt = (Pl.prt s[k] && (s.data.toList.drop (k + 1)).all Pl.prt)) := hst
      have h8 : s[k].toNat < 256 := UInt8.toNat_lt _
      clear hst
      generalize hsk : s[k] = c at *
      rcases prt_cases c with ⟨hc, hq⟩ | ⟨hc, hq⟩ | ⟨hc, hc2, hq⟩
      · have Hno : Hid (s.data.toList.all Pl.prt = false) := by
          show _ = _
          rw [← hp.out, Hst.out, hq, Bool.false_and]
        clear hp Hst hq HC
        go_wp2
        go_ret
        exact ⟨by rw [← HT.out, Hno.out]; rfl, rfl⟩
      · have Hno : Hid (s.data.toList.all Pl.prt = false) := by
          show _ = _
          rw [← hp.out, Hst.out, hq, Bool.false_and]
        clear hp Hst hq HC
        go_wp2
        go_ret
        exact ⟨by rw [← HT.out, Hno.out]; rfl, rfl⟩
      · have Hn : Hid ((s.data.toList.drop (k + 1)).all Pl.prt = s.data.toList.all Pl.prt) := by
          show _ = _
          rw [← hp.out, Hst.out, hq, Bool.true_and]
        clear hp Hst hq
        go_wp2
        go_roundw
        case rel => exact ⟨k + 1, by omega, by go_num, Hn, trivial⟩
        case measure => simp [Lib.intOf]; omega
    · have Hall : Hid (s.data.toList.all Pl.prt = true) := by
        show _ = _
        rw [← hp.out]; exact Pl.all_done _ _ k (by simp; omega)
      clear hp
      go_wp2_with fail
      refine HC.out.mono ?_
      rintro e w2 ⟨rfl, rfl⟩
      go_wp2
      go_ret
      exact ⟨by rw [← HT.out, Hall.out, Bool.true_and]; rfl, rfl⟩
set_option maxRecDepth 20000 in
set_option maxHeartbeats 1000000 in
theorem implWord (B : Nat) (v : Value) (p l : List UInt8) (W w : World) (hown : Own B v p w) (hT : Tab W) (hB0 : 1 < B) (hBW : B ≤ W.heap.size) (hb : Below B W w) (hl : p.length + 2 * l.length ≤ 800000) :
    Calls Tryz.prog 26 #[v, .string ⟨l.toArray⟩] w fun e w' => ∃ v', e = .returned v' ∧ Own B v' (p ++ Pl.word l) w' ∧ Below B W w' := by
  obtain ⟨i0, hi, hy0, hy1, hy2⟩ := info_parts Tryz.info5
  have hbl : (Pb.bare l).length ≤ 4 * l.length + 4 := by
    have := Pb.bare_len (l.length / 3 + 1) l (by omega)
    omega
  have hA := fun v w hown hb hl => implAppend B v (p ++ [61, 63, 117, 116, 102, 45, 56, 63, 66, 63]) l W w hown hT hB0 hBW hb hl
  go_enter Tryz.func26, Tryz.ntmps26
  go_wp2_with (at_builtin; go_must (refine wp_apps (W := W) rfl _ _ 22 9 rfl i0 Tryz.underlying22 Tryz.underlying9 hi hy0 hy1 hy2 B v p rfl hown ⟨#[61, 63, 117, 116, 102, 45, 56, 63, 66, 63]⟩ rfl (by show p.length + 10 ≤ _; omega) hBW hb ?_; intro v' w' hown' hb'))
  refine (hA _ _ hown' hb' (by simp; omega)).mono ?_
  rintro e w2 ⟨v2, rfl, hown2, hb2⟩
  go_wp2_with (at_builtin; go_must (refine wp_apps (W := W) rfl _ _ 22 9 rfl i0 Tryz.underlying22 Tryz.underlying9 hi hy0 hy1 hy2 B v2 _ rfl hown2 ⟨#[63, 61]⟩ rfl (by have : (⟨#[63, 61]⟩ : ByteArray).size = 2 := rfl; rw [this]; simp; omega) hBW hb2 ?_; intro v3 w3 hown3 hb3))
  go_ret
  refine ⟨_, rfl, ?_, hb3⟩
  have e : p ++ Pl.word l = ((p ++ [61, 63, 117, 116, 102, 45, 56, 63, 66, 63]) ++ Pb.bare l) ++ (⟨#[63, 61]⟩ : ByteArray).data.toList := by simp [Pl.word]
  rw [e]
  exact hown3
end Go.Proofs.YtbppdfjigcelkaaGreatDoor
