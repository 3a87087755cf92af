
/- A word's parts, plain: both sides cut the same. -/

/- Lowered letters: plain, and the walks of the two. -/

/- Two digits of base 16, as the library's reader of numbers takes them. -/

/- A line of quoted bytes, the program's side. -/
import Derived.Test.YtgfgondjpfnmiaaGreatDoorPhrasePlain
import Derived.Laws.IdiomStrings
import Derived.Lib.UnsafeStr
import Derived.WalkSmall
namespace Go.Proofs.YtgfgondjpfnmiaaGreatDoor
open Go.Lib
namespace Pw
set_option maxRecDepth 20000 in
theorem cut_sp (d : UInt8) : ∀ (l acc : List UInt8), ∃ h t, Pl.sp d l = h :: t ∧ Cu.cut d acc l = (acc ++ h) :: t
  | [], acc => ⟨[], [], rfl, by simp [Cu.cut]⟩
  | c :: r, acc => by
    by_cases hc : c = d
    · obtain ⟨h, t, h1, h2⟩ := cut_sp d r []
      refine ⟨[], Pl.sp d r, ?_, ?_⟩
      · rw [Pl.sp, if_pos hc]
      · rw [Cu.cut, if_pos hc, h2, h1]
        simp
    · obtain ⟨h, t, h1, h2⟩ := cut_sp d r (acc ++ [c])
      refine ⟨c :: h, t, ?_, ?_⟩
      · rw [Pl.sp, if_neg hc, h1]
      · rw [Cu.cut, if_neg hc, h2]
        simp
set_option maxRecDepth 20000 in
theorem sp_cut (d : UInt8) (l : List UInt8) : Pl.sp d l = Cu.cut d [] l := by
  obtain ⟨h, t, h1, h2⟩ := cut_sp d l []
  rw [h1, h2]
  simp
set_option maxRecDepth 20000 in
theorem cut_join (d : UInt8) : ∀ (a acc b : List UInt8), Cu.cut d acc (a ++ d :: b) = Cu.cut d acc a ++ Cu.cut d [] b
  | [], acc, b => by simp [Cu.cut]
  | c :: r, acc, b => by
    rw [List.cons_append, Cu.cut, Cu.cut]
    by_cases hc : c = d
    · rw [if_pos hc, if_pos hc, cut_join d r [] b]
      rfl
    · rw [if_neg hc, if_neg hc, cut_join d r (acc ++ [c]) b]
set_option maxRecDepth 20000 in
/-- A word's parts are its inner text's parts between two signs. -/
theorem word_parts (m : List UInt8) : Cu.cut 63 [] (61 :: 63 :: (m ++ [63, 61])) = [61] :: (Cu.cut 63 [] m ++ [[61]]) := by
  have e : (61 : UInt8) :: 63 :: (m ++ [63, 61]) = [61] ++ 63 :: (m ++ 63 :: [61]) := by simp
  rw [e, cut_join, cut_join]
  rfl
set_option maxRecDepth 20000 in
theorem trim_pre (l : List UInt8) (h : hasPrefix l [61, 63] = true) : l = 61 :: 63 :: trimPrefix l [61, 63] := by
  have h2 := h
  unfold hasPrefix at h
  obtain ⟨t, rfl⟩ := List.isPrefixOf_iff_prefix.1 h
  rw [trimPrefix, if_pos h2]
  rfl
set_option maxRecDepth 20000 in
theorem trim_suf (l : List UInt8) (h : hasSuffix l [63, 61] = true) : l = trimSuffix l [63, 61] ++ [63, 61] := by
  have h2 := h
  unfold hasSuffix at h
  obtain ⟨t, rfl⟩ := List.isSuffixOf_iff_suffix.1 h
  rw [trimSuffix, if_pos h2]
  simp
set_option maxRecDepth 20000 in
theorem word_shape (l : List UInt8) (h1 : hasPrefix l [61, 63] = true) (h2 : hasSuffix (trimPrefix l [61, 63]) [63, 61] = true) : l = 61 :: 63 :: (trimSuffix (trimPrefix l [61, 63]) [63, 61] ++ [63, 61]) := by
  rw [← trim_suf _ h2]
  exact trim_pre l h1
set_option maxRecDepth 20000 in
/-- A text that begins and ends as a word, but in less than four bytes, has no five parts. -/
theorem word_short (l : List UInt8) (h1 : hasPrefix l [61, 63] = true) (h2 : hasSuffix l [63, 61] = true) (h3 : hasSuffix (trimPrefix l [61, 63]) [63, 61] = false) : (Cu.cut 63 [] l).length ≠ 5 := by
  have hp := trim_pre l h1
  have hs := trim_suf l h2
  have hl : l.length < 4 := by
    apply Decidable.byContradiction
    intro hn
    have : hasSuffix (trimPrefix l [61, 63]) [63, 61] = true := by
      unfold hasSuffix
      rw [List.isSuffixOf_iff_suffix]
      have hlen := congrArg List.length hs
      rw [List.length_append] at hlen
      have hlen2 : [(63 : UInt8), 61].length = 2 := rfl
      refine ⟨(trimSuffix l [63, 61]).drop 2, ?_⟩
      have e : trimPrefix l [61, 63] = l.drop 2 := by
        conv => rhs; rw [hp]
        rfl
      rw [e]
      conv => rhs; rw [hs]
      rw [List.drop_append_of_le_length (by omega)]
    rw [this] at h3
    cases h3
  have := Cu.cut_len 63 l []
  omega
end Pw
end Go.Proofs.YtgfgondjpfnmiaaGreatDoor
namespace Go.Proofs.YtgfgondjpfnmiaaGreatDoor
open Go.RowKit Go.Lib
set_option maxRecDepth 20000 in
theorem mkH {p : Prop} (h : p) : Hid p := h
def small (c : UInt8) : UInt8 := if 65 ≤ c.toNat ∧ c.toNat ≤ 90 then UInt8.ofNat (c.toNat + 32) else c
def lower (l : List UInt8) : List UInt8 := l.map small

set_option maxRecDepth 20000 in
theorem small_yes (c : UInt8) (h : 65 ≤ c.toNat ∧ c.toNat ≤ 90) : ((small c).toNat : Int) = (c.toNat : Int) + 32 := by
  unfold small
  rw [if_pos h, UInt8.toNat_ofNat_of_lt' (by simp [UInt8.size]; omega)]
  omega
set_option maxRecDepth 20000 in
theorem small_no (c : UInt8) (h : ¬ (65 ≤ c.toNat ∧ c.toNat ≤ 90)) : small c = c := by
  unfold small
  rw [if_neg h]

/-- The bytes that are lowered so far. -/
def lowTo (l : List UInt8) (k : Nat) : List UInt8 := lower (l.take k) ++ l.drop k
set_option maxRecDepth 20000 in
theorem lowTo_len (l : List UInt8) (k : Nat) : (lowTo l k).length = l.length := by
  simp only [lowTo, lower, List.length_append, List.length_map, List.length_take, List.length_drop]; omega
set_option maxRecDepth 20000 in
theorem lowTo_zero (l : List UInt8) : lowTo l 0 = l := by simp [lowTo, lower]
set_option maxRecDepth 20000 in
theorem lowTo_all (l : List UInt8) (k : Nat) (h : l.length ≤ k) : lowTo l k = lower l := by
  rw [lowTo, List.take_of_length_le h, List.drop_eq_nil_of_le h, List.append_nil]
set_option maxRecDepth 20000 in
theorem lowTo_get (l : List UInt8) (k : Nat) (h : k < l.length) : (lowTo l k)[k]'(by rw [lowTo_len]; exact h) = l[k] := by
  simp only [lowTo, lower]
  rw [List.getElem_append_right (by simp; omega)]
  simp [List.length_take, Nat.min_eq_left (Nat.le_of_lt h)]
set_option maxRecDepth 20000 in
theorem lowTo_set (l : List UInt8) (k : Nat) (h : k < l.length) : (lowTo l k).set k (small l[k]) = lowTo l (k + 1) := by
  have e1 : l.take (k + 1) = l.take k ++ [l[k]] := by rw [List.take_succ_eq_append_getElem h]
  have hl : (lower (l.take k)).length = k := by simp [lower]; omega
  rw [lowTo, List.set_append, if_neg (by omega), hl, Nat.sub_self, List.drop_eq_getElem_cons h, List.set_cons_zero, lowTo, e1, lower, lower, List.map_append, List.append_assoc]
  rfl
set_option maxRecDepth 20000 in
theorem lowTo_same (l : List UInt8) (k : Nat) (h : k < l.length) (hs : small l[k] = l[k]) : lowTo l k = lowTo l (k + 1) := by
  rw [← lowTo_set l k h, hs, ← lowTo_get l k h, List.set_getElem_self]

/-- Block g holds the bytes p, each free to be written. -/
def HoldsB (g : Nat) (p : List UInt8) (w : World) : Prop := ∀ (j : Nat) (hj : j < p.length), w.cell? ⟨g, j, none⟩ = some (.int .u8 (p[j].toNat : Int)) ∧ w.frozen? ⟨g, j, none⟩ = false

set_option maxRecDepth 20000 in
theorem HoldsB.back {P : Program} {g cap : Nat} {p : List UInt8} {w : World} (h : HoldsB g p w) (src dst : TypeId) (hs : P.underlying src = some (.slice 5)) (he : P.underlying 5 = some (.int .u8)) (hd : P.underlying dst = some .string) :
    (convert src dst (.slice (some ⟨g, 0, none⟩) p.length cap)).run P w = .ok (.string ⟨p.toArray⟩) w :=
  run_convert_bytes_back w src dst 5 ⟨g, 0, none⟩ cap p hs he hd (fun j hj => by rw [add_off]; exact (h j hj).1)

set_option maxRecDepth 20000 in
theorem bytesOf {P : Program} (src dst : TypeId) (hs : P.underlying src = some .string) (hd : P.underlying dst = some (.slice 5)) (he : P.underlying 5 = some (.int .u8)) (s : ByteArray) (w : World) :
    ∃ cap W, (convert src dst (.string s)).run P w = .ok (.slice (some ⟨w.heap.size, 0, none⟩) s.size cap) W ∧ HoldsB w.heap.size s.data.toList W ∧ Below w.heap.size w W := by
  refine ⟨_, _, run_bytes_of_string w src dst 5 s hs hd he, ?_, (Below.refl _ _).drew.alloc (Nat.le_refl _) _⟩
  intro j hj
  have hj' : j < s.data.size := by simpa using hj
  have hsz : j < (bytesRow s (grownCap w s.size 0 5)).size := by
    simp only [bytesRow, Array.size_append, Array.size_map]; omega
  constructor
  · have e := World.cell?_alloc_mark w.drew (bytesRow s (grownCap w s.size 0 5)) 5 ((bytesRow s (grownCap w s.size 0 5)).size, (bytesRow s (grownCap w s.size 0 5)).size + 1) j
    refine e.trans ?_
    unfold bytesRow
    rw [Array.getElem?_append_left (by simpa using hj')]
    rw [Array.getElem?_map, Array.getElem?_eq_getElem hj']
    rfl
  · have e := World.frozen?_alloc_mark w.drew (bytesRow s (grownCap w s.size 0 5)) 5 (bytesRow s (grownCap w s.size 0 5)).size ((bytesRow s (grownCap w s.size 0 5)).size + 1) j
    refine e.trans ?_
    simp only [Bool.and_eq_false_imp, decide_eq_true_eq, decide_eq_false_iff_not]
    omega
set_option maxRecDepth 20000 in
theorem HoldsB.set {g : Nat} {p : List UInt8} {w : World} (h : HoldsB g p w) (k : Nat) (hk : k < p.length) (c : UInt8) : HoldsB g (p.set k c) (w.setCell ⟨g, k, none⟩ (.int .u8 (c.toNat : Int))) := by
  intro j hj
  have hj' : j < p.length := by simpa using hj
  refine ⟨?_, by rw [World.frozen?_setCell]; exact (h j hj').2⟩
  by_cases e : k = j
  · subst e
    rw [World.cell?_setCell_same w _ _ (h k hk).1, List.getElem_set_self]
  · rw [World.cell?_setCell_other w ⟨g, k, none⟩ ⟨g, j, none⟩ _ (by simp), List.getElem_set_ne e]
    exact (h j hj').1
set_option maxRecDepth 20000 in
set_option maxHeartbeats 1000000 in
theorem implLowered (s : ByteArray) (w : World) (hs : s.size ≤ 100000) :
    Calls Tryz.prog 49 #[.string s] w fun e w' => e = .returned (.string ⟨(lower s.data.toList).toArray⟩) ∧ Below w.heap.size w w' := by
  obtain ⟨cap, W, hcv, hh, hbW⟩ := bytesOf (P := Tryz.prog) 9 44 Tryz.underlying9 Tryz.underlying44 Tryz.underlying5 s w
  go_enter Tryz.func49, Tryz.ntmps49
  go_wp2
  clear hcv
  go_loopw [10] (fun i wr => ∃ k : Nat, k ≤ s.size ∧ i = .int .i64 k ∧ HoldsB w.heap.size (lowTo s.data.toList k) wr ∧ Below w.heap.size w wr) (fun i _ => s.size - (Lib.intOf i).toNat)
  case atStart => exact ⟨0, by omega, rfl, by rw [lowTo_zero]; exact hh, hbW⟩
  case round =>
    obtain ⟨k, hk, rfl, hold, hb⟩ := hrel
    have hll : s.data.toList.length = s.size := by simp
    by_cases hlt : k < s.size
    · obtain ⟨hc, hf⟩ := hold k (by rw [lowTo_len]; omega)
      rw [lowTo_get _ _ (by omega)] at hc
      have hset := lowTo_set s.data.toList k (by omega)
      have hsame := lowTo_same s.data.toList k (by omega)
      have hst := fun c => hold.set k (by rw [lowTo_len]; omega) c
      generalize s.data.toList[k] = c at hc hset hsame
      have h8 : c.toNat < 256 := UInt8.toNat_lt _
      by_cases hc1 : 65 ≤ c.toNat ∧ c.toNat ≤ 90
      · have hv := small_yes c hc1
        have hst' := mkH (hst (small c))
        rw [hset, hv] at hst'
        obtain ⟨h65, h90⟩ := hc1
        clear hset hsame hst hold hv hll
        have hb' := hb.setCell (p := ⟨w.heap.size, k, none⟩) (Nat.le_refl _) (.int .u8 ((c.toNat : Int) + 32))
        have hb'' := mkH hb'
        clear hb'
        go_wp2
        rw [show (c.toNat : Int) - 65 + 97 = (c.toNat : Int) + 32 by omega]
        go_roundw
        case rel => exact ⟨k + 1, by omega, by go_num, hst'.out, hb''.out⟩
        case measure => simp [Lib.intOf]; omega
      · have hv := mkH (hsame (small_no c hc1))
        clear hset hsame hst hll
        by_cases h65 : 65 ≤ c.toNat
        · have h90 : 90 < c.toNat := by omega
          clear hc1
          go_wp2
          go_roundw
          case rel => exact ⟨k + 1, by omega, by go_num, by rw [← hv.out]; exact hold, hb⟩
          case measure => simp [Lib.intOf]; omega
        · clear hc1
          go_wp2
          go_roundw
          case rel => exact ⟨k + 1, by omega, by go_num, by rw [← hv.out]; exact hold, hb⟩
          case measure => simp [Lib.intOf]; omega
    · rw [lowTo_all _ _ (by omega)] at hold
      have hlen : (lower s.data.toList).length = s.size := by simp [lower]
      have hbk := hold.back (P := Tryz.prog) (cap := cap) 44 9 Tryz.underlying44 Tryz.underlying5 Tryz.underlying9
      rw [hlen] at hbk
      clear hlen hll hold
      go_wp2
      go_ret
      exact ⟨rfl, hb⟩
set_option maxRecDepth 20000 in
set_option maxHeartbeats 400000 in
theorem specSmall (c : UInt8) (w : World) :
    Calls Tryz.prog 50 #[.int .u8 (c.toNat : Int)] w fun e w' => e = .returned (.int .u8 ((small c).toNat : Int)) ∧ w = w' := by
  have h8 : c.toNat < 256 := UInt8.toNat_lt _
  by_cases hc : 65 ≤ c.toNat ∧ c.toNat ≤ 90
  · rw [small_yes c hc]
    obtain ⟨h65, h90⟩ := hc
    go_enter Tryz.func50, Tryz.ntmps50
    go_wp2
    go_ret
    exact ⟨rfl, rfl⟩
  · rw [small_no c hc]
    by_cases h65 : 65 ≤ c.toNat
    · have h90 : 90 < c.toNat := by omega
      clear hc
      go_enter Tryz.func50, Tryz.ntmps50
      go_wp2
      go_ret
      exact ⟨rfl, rfl⟩
    · clear hc
      go_enter Tryz.func50, Tryz.ntmps50
      go_wp2
      go_ret
      exact ⟨rfl, rfl⟩
set_option maxRecDepth 20000 in
set_option maxHeartbeats 400000 in
theorem specLower (s : ByteArray) (w : World) (hs : s.size ≤ 100000) :
    Calls Tryz.prog 31 #[.string s] w fun e w' => e = .returned (.string ⟨(lower s.data.toList).toArray⟩) ∧ Below w.heap.size w w' := by
  obtain ⟨i0, hi, hz0, hz1, hz2⟩ := info_parts Tryz.info5
  go_enter Tryz.func31, Tryz.ntmps31
  go_wp2
  go_loopw [3, 4] (fun v i wr => ∃ k : Nat, k ≤ s.size ∧ i = .int .i64 k ∧ Own w.heap.size v (lower (s.data.toList.take k)) wr ∧ Below w.heap.size w wr) (fun _ i _ => s.size - (Lib.intOf i).toNat)
  case atStart => exact ⟨0, Nat.zero_le _, rfl, Own.made _ _ (Nat.le_refl _), (Below.refl _ _).alloc (Nat.le_refl _) _⟩
  case round =>
    obtain ⟨k, hk, rfl, hown, hb⟩ := hrel
    by_cases hlt : k < s.size
    · have hll : s.data.toList.length = s.size := by simp
      have hlen : (lower (s.data.toList.take k)).length = k := by simp only [lower, List.length_map, List.length_take]; omega
      have hstep : Hid (lower (s.data.toList.take k) ++ [small s[k]] = lower (s.data.toList.take (k + 1))) := by
        rw [List.take_succ_eq_append_getElem (by omega), lower, lower, List.map_append]; exact rfl
      have h8 : (small s[k]).toNat < 256 := UInt8.toNat_lt _
      generalize lower (s.data.toList.take k) = p at *
      clear hll
      go_wp2_with fail
      refine (specSmall s[k] _).mono ?_
      rintro e w2 ⟨rfl, rfl⟩
      generalize small s[k] = c at *
      go_wp2_with (at_builtin; go_must (refine wp_app (W := w) rfl _ _ 44 rfl i0 Tryz.underlying44 hi hz0 hz1 hz2 w.heap.size u3 p rfl hown _ [c] rfl 1 1 rfl rfl (by simp; omega) (Nat.le_refl _) hb ?_; intro v' w' hown' hb'))
      go_roundw
      case rel => exact ⟨k + 1, by omega, by go_num, by rw [← hstep.out]; exact hown', hb'⟩
      case measure => simp [Lib.intOf]; omega
    · rw [List.take_of_length_le (by simp; omega)] at hown
      have hbk := hown.back (P := Tryz.prog) 44 9 Tryz.underlying44 Tryz.underlying5 Tryz.underlying9
      go_wp2
      go_ret
      exact ⟨rfl, hb⟩
end Go.Proofs.YtgfgondjpfnmiaaGreatDoor
namespace Go.Proofs.YtgfgondjpfnmiaaGreatDoor
open Go.RowKit Go.Lib
set_option maxRecDepth 20000 in
theorem isEmpty_neH (q : ByteArray) (h0 : ¬ q.size = 0) : q.toList.isEmpty = false := by
  rw [ByteArray.toList_eq, List.isEmpty_eq_false_iff]
  intro e
  exact h0 (by rw [← Pl.len_list, e]; rfl)
set_option maxRecDepth 20000 in
theorem isEmpty_ofH (q : ByteArray) (h0 : q.size = 0) : q.toList.isEmpty = true := by
  rw [ByteArray.toList_eq, List.isEmpty_iff]
  exact List.length_eq_zero_iff.1 (by rw [Pl.len_list]; exact h0)
namespace Pl
/-- A digit of base 16. -/
def hexV (c : UInt8) : Option Nat := if 48 ≤ c.toNat ∧ c.toNat ≤ 57 then some (c.toNat - 48) else if 65 ≤ c.toNat ∧ c.toNat ≤ 70 then some (c.toNat - 55) else if 97 ≤ c.toNat ∧ c.toNat ≤ 102 then some (c.toNat - 87) else none
set_option maxRecDepth 20000 in
theorem hexV_lt {c : UInt8} {d : Nat} (h : hexV c = some d) : d < 16 := by
  unfold hexV at h
  repeat' split at h
  all_goals first | (cases h; omega) | cases h
/-- What the library's reader of numbers sees of a byte: 0 a digit, 1 a letter up to f, 2 another letter, 3 neither. -/
def lowI (x : Nat) : Int := bits .or .u8 (x : Int) 32
set_option maxRecDepth 20000 in
theorem low_cases : ∀ X : Fin 256, (48 ≤ X.val ∧ X.val ≤ 57 ∧ hexV (UInt8.ofNat X.val) = some (X.val - 48)) ∨
    (¬ (48 ≤ X.val ∧ X.val ≤ 57) ∧ 97 ≤ lowI X.val ∧ lowI X.val ≤ 102 ∧ hexV (UInt8.ofNat X.val) = some (lowI X.val - 87).toNat) ∨
    (¬ (48 ≤ X.val ∧ X.val ≤ 57) ∧ 103 ≤ lowI X.val ∧ lowI X.val ≤ 122 ∧ hexV (UInt8.ofNat X.val) = none) ∨
    (¬ (48 ≤ X.val ∧ X.val ≤ 57) ∧ (lowI X.val < 97 ∨ 122 < lowI X.val) ∧ hexV (UInt8.ofNat X.val) = none) := by decide +kernel
set_option maxRecDepth 20000 in
theorem low_cases' (c : UInt8) : (48 ≤ c.toNat ∧ c.toNat ≤ 57 ∧ hexV c = some (c.toNat - 48)) ∨
    (¬ (48 ≤ c.toNat ∧ c.toNat ≤ 57) ∧ 97 ≤ lowI c.toNat ∧ lowI c.toNat ≤ 102 ∧ hexV c = some (lowI c.toNat - 87).toNat) ∨
    (¬ (48 ≤ c.toNat ∧ c.toNat ≤ 57) ∧ 103 ≤ lowI c.toNat ∧ lowI c.toNat ≤ 122 ∧ hexV c = none) ∨
    (¬ (48 ≤ c.toNat ∧ c.toNat ≤ 57) ∧ (lowI c.toNat < 97 ∨ 122 < lowI c.toNat) ∧ hexV c = none) := by
  have := low_cases ⟨c.toNat, UInt8.toNat_lt c⟩
  simpa using this
/-- The number that digits of base 16 make, as far as they are digits. -/
def hexNum : List UInt8 → Nat → Option Nat
  | [], n => some n
  | c :: r, n => match hexV c with | some d => hexNum r (n * 16 + d) | none => none
end Pl
/-- What the library's inner reader of numbers answers. -/
def puV : Option Nat → Value
  | some n => .tuple #[.int .u64 n, .nilIface]
  | none => .tuple #[.int .u64 0, .iface 138 (.int .i64 2)]
set_option maxRecDepth 20000 in
theorem low95 : Pl.lowI 95 = 127 := by decide +kernel
set_option maxRecDepth 100000 in
set_option maxHeartbeats 2000000 in
theorem libParse (s : ByteArray) (hs : s.size = 2) (w : World) : Calls Tryz.prog 93 #[.string s, .int .i64 16, .int .i64 8] w fun e w' => e = .returned (puV (Pl.hexNum s.data.toList 0)) ∧ Below w.heap.size w w' := by
  have hne : s.toList.isEmpty = false := isEmpty_neH s (by omega)
  obtain ⟨cap, W, hcv, hh, hbW⟩ := bytesOf (P := Tryz.prog) 9 44 Tryz.underlying9 Tryz.underlying44 Tryz.underlying5 s w
  go_enter Tryz.func93, Tryz.ntmps93
  go_wp2
  clear hcv
  go_loopw [12, 13, 101] (fun u n i wr => ∃ (k acc : Nat) (a : Int), u = .bool false ∧ n = .int .u64 a ∧ i = .int .i64 k ∧ k ≤ 2 ∧ Hid (a = (acc : Int) ∧ ((k = 0 → acc = 0) ∧ (k ≤ 1 → acc ≤ 15)) ∧ acc ≤ 255 ∧ Pl.hexNum (s.data.toList.drop k) acc = Pl.hexNum s.data.toList 0) ∧ wr = W) (fun _ _ i _ => 2 - (Lib.intOf i).toNat)
  case atStart => exact ⟨0, 0, 0, rfl, rfl, rfl, by omega, ⟨rfl, ⟨fun _ => rfl, fun _ => by omega⟩, by omega, rfl⟩, rfl⟩
  case round =>
    obtain ⟨k, acc, a, rfl, rfl, rfl, hk, hH, rfl⟩ := hrel
    obtain ⟨ha, hm, hm2, hp⟩ := hH.out
    clear hH
    have hll : s.data.toList.length = 2 := by rw [Pl.len_list]; exact hs
    have a0 : 0 ≤ a := by omega
    by_cases hlt : k < 2
    · obtain ⟨hc, -⟩ := hh k (by omega)
      rw [List.drop_eq_getElem_cons (by omega)] at hp
      generalize s.data.toList[k] = c at hc hp
      have h8 : c.toNat < 256 := UInt8.toNat_lt _
      have hlo := Tryz.internal_strconv_lower (c.toNat : Int) wr
      change Calls Tryz.prog 100 #[.int .u8 (c.toNat : Int)] wr fun e w' => e = .returned (.int .u8 (Pl.lowI c.toNat)) ∧ w' = wr at hlo
      have a1 : a ≤ 15 := by omega
      have hacc : acc ≤ 15 := by omega
      clear hh hll hne
      rcases Pl.low_cases' c with ⟨h1, h2, hv⟩ | ⟨h1, h2, h3, hv⟩ | ⟨h1, h2, h3, hv⟩ | ⟨h1, h2, hv⟩
      · have hE : Hid (a * 16 + ((c.toNat : Int) - 48) = ((acc * 16 + (c.toNat - 48) : Nat) : Int) ∧ ((k + 1 = 0 → acc * 16 + (c.toNat - 48) = 0) ∧ (k + 1 ≤ 1 → acc * 16 + (c.toNat - 48) ≤ 15)) ∧ acc * 16 + (c.toNat - 48) ≤ 255 ∧ Pl.hexNum (s.data.toList.drop (k + 1)) (acc * 16 + (c.toNat - 48)) = Pl.hexNum s.data.toList 0) := by
          refine ⟨by omega, ?_, by omega, ?_⟩
          · exact ⟨fun h => by omega, fun h => by have := hm.1 (by omega); omega⟩
          · rw [Pl.hexNum, hv] at hp; exact hp
        have iov : a * 16 + ((c.toNat : Int) - 48) ≤ 255 := by omega
        clear hp hv hlo ha hm hm2 hacc
        go_wp2
        go_roundw
        case rel => exact ⟨k + 1, _, a * 16 + ((c.toNat : Int) - 48), rfl, by first | rfl | (congr 1; omega), by go_num, by omega, hE, trivial⟩
        case measure => simp [Lib.intOf]; omega
      · have hE : Hid (a * 16 + (Pl.lowI c.toNat - 87) = ((acc * 16 + (Pl.lowI c.toNat - 87).toNat : Nat) : Int) ∧ ((k + 1 = 0 → acc * 16 + (Pl.lowI c.toNat - 87).toNat = 0) ∧ (k + 1 ≤ 1 → acc * 16 + (Pl.lowI c.toNat - 87).toNat ≤ 15)) ∧ acc * 16 + (Pl.lowI c.toNat - 87).toNat ≤ 255 ∧ Pl.hexNum (s.data.toList.drop (k + 1)) (acc * 16 + (Pl.lowI c.toNat - 87).toNat) = Pl.hexNum s.data.toList 0) := by
          refine ⟨by omega, ?_, by omega, ?_⟩
          · exact ⟨fun h => by omega, fun h => by have := hm.1 (by omega); omega⟩
          · rw [Pl.hexNum, hv] at hp; exact hp
        have iov : a * 16 + (Pl.lowI c.toNat - 87) ≤ 255 := by omega
        clear hp hv ha hm hm2 hacc
        have h95 : ¬ (c.toNat : Int) = 95 := fun h => by rw [show c.toNat = 95 by omega, low95] at h2 h3; omega
        generalize Pl.lowI c.toNat = lo at hlo h2 h3 hE iov
        have h1' : c.toNat < 48 ∨ 57 < c.toNat := by omega
        clear h1
        rcases h1' with h1 | h1
        all_goals
          go_wp2_with (go_at_call 100; go_must (refine hlo.mono ?_; rintro e w' ⟨rfl, rfl⟩))
          go_roundw
          case rel => exact ⟨k + 1, _, a * 16 + (lo - 87), rfl, by first | rfl | (congr 1; omega), by go_num, by omega, hE, trivial⟩
          case measure => simp [Lib.intOf]; omega
      · have hE : Hid (Pl.hexNum s.data.toList 0 = none) := show _ = _ by rw [Pl.hexNum, hv] at hp; exact hp.symm
        clear hp hv ha hm hm2 hacc
        have h95 : ¬ (c.toNat : Int) = 95 := fun h => by rw [show c.toNat = 95 by omega, low95] at h2 h3; omega
        generalize Pl.lowI c.toNat = lo at hlo h2 h3
        have h1' : c.toNat < 48 ∨ 57 < c.toNat := by omega
        have h2' : 97 ≤ lo := by omega
        clear h1
        rcases h1' with h1 | h1
        all_goals
          go_wp2_with (go_at_call 100; go_must (refine hlo.mono ?_; rintro e w' ⟨rfl, rfl⟩))
          go_ret2
          exact ⟨by rw [hE.out]; rfl, hbW⟩
      · have hE : Hid (Pl.hexNum s.data.toList 0 = none) := show _ = _ by rw [Pl.hexNum, hv] at hp; exact hp.symm
        clear hp hv ha hm hm2 hacc
        by_cases h95 : c.toNat = 95
        · rw [h95, low95] at hlo
          rw [h95] at hc
          clear h2 h1
          go_wp2_with (go_at_call 100; go_must (refine hlo.mono ?_; rintro e w' ⟨rfl, rfl⟩))
          go_ret2
          exact ⟨by rw [hE.out]; rfl, hbW⟩
        · have h95' : ¬ (c.toNat : Int) = 95 := by omega
          generalize Pl.lowI c.toNat = lo at hlo h2
          have h1' : c.toNat < 48 ∨ 57 < c.toNat := by omega
          have h2' : lo < 97 ∨ (97 ≤ lo ∧ 122 < lo) := by omega
          clear h1 h2
          rcases h1' with h1 | h1 <;> rcases h2' with h2 | ⟨h2, h3⟩
          all_goals
            go_wp2_with (go_at_call 100; go_must (refine hlo.mono ?_; rintro e w' ⟨rfl, rfl⟩))
            go_ret2
            exact ⟨by rw [hE.out]; rfl, hbW⟩
    · have hE : Hid (Pl.hexNum s.data.toList 0 = some acc) := show _ = _ by rw [List.drop_eq_nil_of_le (by omega), Pl.hexNum] at hp; exact hp.symm
      obtain rfl : k = 2 := by omega
      clear hp hm hm2 hh hll
      subst ha
      go_wp2
      go_ret2
      exact ⟨by rw [hE.out]; rfl, hbW⟩
/-- The library's variable ErrSyntax holds an error or none. -/
def ErrCell (w : World) : Prop := 4 < w.heap.size ∧ ∃ ev, w.cell? ⟨4, 0, none⟩ = some ev ∧ (ev = .nilIface ∨ ∃ te pe, ev = .iface te pe)
set_option maxRecDepth 20000 in
theorem ErrCell.below {w w' : World} (h : ErrCell w) (hb : Below w.heap.size w w') : ErrCell w' := by
  obtain ⟨h0, ev, h1, h2⟩ := h
  refine ⟨Nat.lt_of_lt_of_le h0 hb.size, ev, ?_, h2⟩
  rw [← h1]
  exact hb.cell h0
set_option maxRecDepth 40000 in
set_option maxHeartbeats 1000000 in
theorem libParseUint (s : ByteArray) (hs : s.size = 2) (w : World) (hE : ErrCell w) : Calls Tryz.prog 84 #[.string s, .int .i64 16, .int .i64 8] w fun e w' => (match Pl.hexNum s.data.toList 0 with | some n => e = .returned (.tuple #[.int .u64 n, .nilIface]) | none => ∃ N, e = .returned (.tuple #[.int .u64 0, .iface 139 (.pointer (some ⟨N, 0, none⟩))])) ∧ Below w.heap.size w w' := by
  have hP := libParse s hs w
  cases hx : Pl.hexNum s.data.toList 0 with
  | some n =>
    rw [hx] at hP
    unfold puV at hP
    dsimp only
    go_enter Tryz.func84, Tryz.ntmps84
    go_wp2_with fail
    refine hP.mono ?_
    rintro e w2 ⟨rfl, hb2⟩
    go_wp2
    go_ret2
    exact ⟨rfl, hb2⟩
  | none =>
    rw [hx] at hP
    unfold puV at hP
    dsimp only
    go_enter Tryz.func84, Tryz.ntmps84
    go_wp2_with fail
    refine hP.mono ?_
    rintro e w2 ⟨rfl, hb2⟩
    obtain ⟨-, ev, h1, h2⟩ := hE.below hb2
    go_wp2_with fail
    refine (Tryz.strconv_toError_syntax _ s 16 8 ev _ (by omega) h1 h2).mono ?_
    rintro e w3 ⟨M, rfl, -, -, hb3⟩
    have hbx := hb2.trans (hb3.mono hb2.size)
    go_wp2
    go_ret2
    exact ⟨⟨M, rfl⟩, hbx⟩
namespace Pl
/-- The byte that the two digits at a text's beginning make. -/
def hex2 : List UInt8 → Option Nat
  | a :: b :: _ => hexNum [a, b] 0
  | _ => none
set_option maxRecDepth 20000 in
theorem hexNum2_lt {a b : UInt8} {n : Nat} (h : hexNum [a, b] 0 = some n) : n < 256 := by
  unfold hexNum at h
  cases ha : hexV a with
  | none => rw [ha] at h; cases h
  | some d =>
    rw [ha] at h
    dsimp only at h
    unfold hexNum at h
    cases hb : hexV b with
    | none => rw [hb] at h; cases h
    | some e =>
      rw [hb] at h
      dsimp only at h
      unfold hexNum at h
      cases h
      have := hexV_lt ha
      have := hexV_lt hb
      omega
set_option maxRecDepth 20000 in
theorem hex2_lt {l : List UInt8} {n : Nat} (h : hex2 l = some n) : n < 256 := by
  unfold hex2 at h
  split at h
  · exact hexNum2_lt h
  · cases h
set_option maxRecDepth 20000 in
theorem hex2_short {l : List UInt8} (h : l.length < 2) : hex2 l = none := by
  match l, h with
  | [], _ => rfl
  | [a], _ => rfl
set_option maxRecDepth 20000 in
theorem hex2_take (l : List UInt8) (h : 2 ≤ l.length) : hex2 l = hexNum (l.take 2) 0 := by
  match l, h with
  | a :: b :: r, _ => rfl
end Pl
end Go.Proofs.YtgfgondjpfnmiaaGreatDoor
namespace Go.Proofs.YtgfgondjpfnmiaaGreatDoor
open Go.RowKit Go.Lib
set_option maxRecDepth 40000 in
set_option maxHeartbeats 1000000 in
theorem implHexByte (s : ByteArray) (w : World) (hs : s.size ≤ 1100000) (hE : ErrCell w) : Calls Tryz.prog 69 #[.string s] w fun e w' => e = .returned (match Pl.hex2 s.data.toList with | some n => .tuple #[.int .u8 n, .bool true] | none => .tuple #[.int .u8 0, .bool false]) ∧ Below w.heap.size w w' := by
  by_cases h2 : s.size < 2
  · rw [Pl.hex2_short (by rw [Pl.len_list]; exact h2)]
    dsimp only
    go_enter Tryz.func69, Tryz.ntmps69
    go_wp2
    go_ret2
    exact ⟨rfl, Below.refl _ _⟩
  · have ht : (s.extract 0 2).size = 2 := by simp; omega
    have hP := libParseUint (s.extract 0 2) ht w hE
    rw [show (s.extract 0 2).data.toList = s.data.toList.take 2 by simp] at hP
    rw [Pl.hex2_take _ (by rw [Pl.len_list]; omega)]
    cases hx : Pl.hexNum (s.data.toList.take 2) 0 with
    | some n =>
      have hn : n < 256 := by
        have := Pl.hex2_take s.data.toList (by rw [Pl.len_list]; omega)
        rw [hx] at this
        exact Pl.hex2_lt this
      rw [hx] at hP
      dsimp only at hP ⊢
      go_enter Tryz.func69, Tryz.ntmps69
      go_wp2_with fail
      refine hP.mono ?_
      rintro e w2 ⟨rfl, hb2⟩
      go_wp2
      go_region
      all_goals
        go_wp2
        go_ret2
        exact ⟨rfl, hb2.drew⟩
    | none =>
      rw [hx] at hP
      dsimp only at hP ⊢
      go_enter Tryz.func69, Tryz.ntmps69
      go_wp2_with fail
      refine hP.mono ?_
      rintro e w2 ⟨⟨M, rfl⟩, hb2⟩
      go_wp2
      go_region
      all_goals
        go_wp2
        go_ret2
        exact ⟨rfl, hb2.drew⟩
namespace Pl
/-- A line's bytes behind what is there; none: an ill sign. -/
def qb (out : List UInt8) (l : List UInt8) : Option (List UInt8) :=
  match l with
  | [] => some out
  | c :: r => if c = 61 then (match hex2 r with | some n => qb (out ++ [UInt8.ofNat n]) (r.drop 2) | none => none) else qb (out ++ [c]) r
  termination_by l.length
  decreasing_by all_goals (simp; try omega)
set_option maxRecDepth 20000 in
theorem qb_done {p : List UInt8} {x : Option (List UInt8)} {l : List UInt8} {k : Nat} (hk : l.length ≤ k) (hp : qb p (l.drop k) = x) : x = some p := by
  rw [List.drop_eq_nil_of_le hk, qb] at hp
  exact hp.symm
set_option maxRecDepth 20000 in
theorem qb_plain {p : List UInt8} {x : Option (List UInt8)} {l : List UInt8} {k : Nat} (hk : k < l.length) (h : l[k] ≠ 61) (hp : qb p (l.drop k) = x) : qb (p ++ [l[k]]) (l.drop (k + 1)) = x := by
  rw [List.drop_eq_getElem_cons hk, qb, if_neg h] at hp
  exact hp
set_option maxRecDepth 20000 in
theorem qb_hex {p : List UInt8} {x : Option (List UInt8)} {l : List UInt8} {k n : Nat} (hk : k < l.length) (h : l[k] = 61) (hn : hex2 (l.drop (k + 1)) = some n) (hp : qb p (l.drop k) = x) : qb (p ++ [UInt8.ofNat n]) (l.drop (k + 3)) = x := by
  rw [List.drop_eq_getElem_cons hk, qb, if_pos h, hn, List.drop_drop] at hp
  exact hp
set_option maxRecDepth 20000 in
theorem qb_bad {p : List UInt8} {x : Option (List UInt8)} {l : List UInt8} {k : Nat} (hk : k < l.length) (h : l[k] = 61) (hn : hex2 (l.drop (k + 1)) = none) (hp : qb p (l.drop k) = x) : x = none := by
  rw [List.drop_eq_getElem_cons hk, qb, if_pos h, hn] at hp
  exact hp.symm
set_option maxRecDepth 20000 in
theorem hex2_room {l : List UInt8} {n : Nat} (h : hex2 l = some n) : 2 ≤ l.length := by
  by_cases h2 : l.length < 2
  · rw [hex2_short h2] at h; cases h
  · omega
end Pl
set_option maxRecDepth 20000 in
theorem ext_tail (s : ByteArray) (k : Nat) : (s.extract k s.size).data.toList = s.data.toList.drop k := by
  simp only [ByteArray.data_extract, Array.toList_extract, List.extract_eq_take_drop]
  rw [List.take_of_length_le (by rw [List.length_drop, Pl.len_list]; omega)]
/-- What a line's bytes are, as they are answered. -/
def QbOut (B : Nat) (x : Option (List UInt8)) (e : Ending) (w' : World) : Prop := match x with | some p => ∃ v, e = .returned (.tuple #[v, .bool true]) ∧ Own B v p w' | none => e = .returned (.tuple #[.slice none 0 0, .bool false])
set_option maxRecDepth 20000 in
theorem QbOut.no {B : Nat} {x : Option (List UInt8)} {w' : World} (h : x = none) : QbOut B x (.returned (.tuple #[.slice none 0 0, .bool false])) w' := by subst h; rfl
set_option maxRecDepth 20000 in
theorem QbOut.yes {B : Nat} {x : Option (List UInt8)} {p : List UInt8} {v : Value} {w' : World} (h : x = some p) (ho : Own B v p w') : QbOut B x (.returned (.tuple #[v, .bool true])) w' := by subst h; exact ⟨v, rfl, ho⟩
set_option maxRecDepth 20000 in
theorem Own.keepb {B : Nat} {v : Value} {p : List UInt8} {w w' : World} (h : Own B v p w) (hb : Below w.heap.size w w') : Own B v p w' := by
  obtain ⟨h1, h2⟩ := h
  refine ⟨h1, ?_⟩
  rcases h2 with h2 | ⟨g, cap, cur, e1, e2, e3, e4⟩
  · exact .inl h2
  · refine .inr ⟨g, cap, cur, e1, e2, ?_, e4⟩
    rw [hb.block g (by rw [Array.getElem?_eq_some_iff] at e3; exact e3.1)]
    exact e3
set_option maxRecDepth 40000 in
set_option maxHeartbeats 2000000 in
theorem implQuotedBytes (s : ByteArray) (w : World) (hs : s.size ≤ 1100000) (hE : ErrCell w) : Calls Tryz.prog 46 #[.string s] w fun e w' => QbOut w.heap.size (Pl.qb [] s.data.toList) e w' ∧ Below w.heap.size w w' := by
  obtain ⟨i0, hi, hy0, hy1, hy2⟩ := info_parts Tryz.info5
  have HE : Hid (ErrCell w) := hE
  clear hE
  obtain ⟨x, hx⟩ : ∃ x, Pl.qb [] s.data.toList = x := ⟨_, rfl⟩
  rw [hx]
  have Hx : Hid (Pl.qb [] s.data.toList = x) := hx
  clear hx
  have hll : s.data.toList.length = s.size := Pl.len_list s
  go_enter Tryz.func46, Tryz.ntmps46
  go_wp2
  go_loopw [2, 4] (fun v i wr => ∃ (k : Nat) (p : List UInt8), k ≤ s.size ∧ i = .int .i64 k ∧ p.length ≤ k ∧ Hid (Pl.qb p (s.data.toList.drop k) = x) ∧ Own w.heap.size v p wr ∧ Below w.heap.size w wr) (fun _ i _ => s.size - (Lib.intOf i).toNat)
  case atStart => exact ⟨0, [], Nat.zero_le _, rfl, by simp, Hx, Own.nil _ _, Below.refl _ _⟩
  case round =>
    obtain ⟨k, p, hk, rfl, hpl, hp, hown, hb⟩ := hrel
    by_cases hlt : k < s.size
    · have h8 : s[k].toNat < 256 := UInt8.toNat_lt _
      have hat := Pl.at_list s k hlt
      by_cases hc : s[k] = 61
      · have hpb := fun h => Pl.qb_bad (by omega) (hat.trans hc) h hp.out
        have hph := fun n h => Pl.qb_hex (n := n) (by omega) (hat.trans hc) h hp.out
        have hH := implHexByte (s.extract (k + 1) s.size) wr (by simp; omega) (HE.out.below hb)
        rw [ext_tail s (k + 1)] at hH
        have hci : (s[k].toNat : Int) = 61 := by rw [hc]; rfl
        clear hp hat
        cases hn : Pl.hex2 (s.data.toList.drop (k + 1)) with
        | none =>
          have hE : Hid (x = none) := show _ = _ from hpb hn
          rw [hn] at hH
          dsimp only at hH
          clear hpb hph hn
          go_wp2_with (go_at_call 69; go_must (refine hH.mono ?_; rintro e w2 ⟨rfl, hb2⟩))
          go_ret2
          exact ⟨QbOut.no hE.out, hb.trans (hb2.mono hb.size)⟩
        | some n =>
          have hE : Hid (Pl.qb (p ++ [UInt8.ofNat n]) (s.data.toList.drop (k + 3)) = x) := hph n hn
          have hn2 := Pl.hex2_lt hn
          have hroom := Pl.hex2_room hn
          rw [List.length_drop, hll] at hroom
          rw [hn] at hH
          dsimp only at hH
          clear hpb hph hn

          go_wp2_with (first | (go_at_call 69; go_must (refine hH.mono ?_; rintro e w2 ⟨rfl, hb2⟩; have hown2 := hown.keepb hb2; have hbw := hb.trans (hb2.mono hb.size))) | (at_builtin; go_must (refine wp_app (W := w) rfl _ _ 44 rfl i0 Tryz.underlying44 hi hy0 hy1 hy2 w.heap.size u2 p rfl hown2 _ [UInt8.ofNat n] (by simp [byteCells]; omega) 1 1 rfl rfl (by simp; omega) (Nat.le_refl _) hbw ?_; intro v3 w3 hown3 hb3)))
          go_roundw
          case rel => exact ⟨k + 3, _, by omega, by go_num, by simp; omega, hE, hown3, hb3⟩
          case measure => simp [Lib.intOf]; omega
      · have hE : Hid (Pl.qb (p ++ [s[k]]) (s.data.toList.drop (k + 1)) = x) := show _ = _ by have := Pl.qb_plain (by omega) (by rw [hat]; exact hc) hp.out; rw [hat] at this; exact this
        have hci : ¬ (s[k].toNat : Int) = 61 := fun h => hc (UInt8.toNat_inj.1 (by simpa using (by omega : s[k].toNat = 61)))
        clear hp hat hc
        generalize hsk : s[k] = c at *
        go_wp2_with (at_builtin; go_must (refine wp_app (W := w) rfl _ _ 44 rfl i0 Tryz.underlying44 hi hy0 hy1 hy2 w.heap.size u2 p rfl hown _ [c] (by simp [byteCells]) 1 1 rfl rfl (by simp; omega) (Nat.le_refl _) hb ?_; intro v3 w3 hown3 hb3))
        go_roundw
        case rel => exact ⟨k + 1, _, by omega, by go_num, by simp; omega, hE, hown3, hb3⟩
        case measure => simp [Lib.intOf]; omega
    · have hE : Hid (x = some p) := show _ = _ from Pl.qb_done (by omega) hp.out
      clear hp
      go_wp2
      go_ret2
      exact ⟨QbOut.yes hE.out hown, hb⟩
end Go.Proofs.YtgfgondjpfnmiaaGreatDoor
