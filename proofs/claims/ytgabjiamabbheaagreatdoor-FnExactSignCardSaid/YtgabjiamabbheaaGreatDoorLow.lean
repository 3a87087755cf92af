
/- Lowered letters: plain, and the walks of the two. -/
import Derived.Test.YtgabjiamabbheaaGreatDoorBase
import Derived.Laws.IdiomStrings
import Derived.Lib.UnsafeStr
import Derived.WalkSmall
namespace Go.Proofs.YtgabjiamabbheaaGreatDoor
open Go.RowKit Go.Lib
set_option maxRecDepth 20000 in
theorem mkH {p : Prop} (h : p) : Hid p := h
def small (c : UInt8) : UInt8 := if 65 ≤ c.toNat ∧ c.toNat ≤ 90 then UInt8.ofNat (c.toNat + 32) else c
def lower (l : List UInt8) : List UInt8 := l.map small

set_option maxRecDepth 20000 in
theorem small_yes (c : UInt8) (h : 65 ≤ c.toNat ∧ c.toNat ≤ 90) : ((small c).toNat : Int) = (c.toNat : Int) + 32 := by
  unfold small
  rw [if_pos h, UInt8.toNat_ofNat_of_lt' (by simp [UInt8.size]; omega)]
  omega
set_option maxRecDepth 20000 in
theorem small_no (c : UInt8) (h : ¬ (65 ≤ c.toNat ∧ c.toNat ≤ 90)) : small c = c := by
  unfold small
  rw [if_neg h]

/-- The bytes that are lowered so far. -/
def lowTo (l : List UInt8) (k : Nat) : List UInt8 := lower (l.take k) ++ l.drop k
set_option maxRecDepth 20000 in
theorem lowTo_len (l : List UInt8) (k : Nat) : (lowTo l k).length = l.length := by
  simp only [lowTo, lower, List.length_append, List.length_map, List.length_take, List.length_drop]; omega
set_option maxRecDepth 20000 in
theorem lowTo_zero (l : List UInt8) : lowTo l 0 = l := by simp [lowTo, lower]
set_option maxRecDepth 20000 in
theorem lowTo_all (l : List UInt8) (k : Nat) (h : l.length ≤ k) : lowTo l k = lower l := by
  rw [lowTo, List.take_of_length_le h, List.drop_eq_nil_of_le h, List.append_nil]
set_option maxRecDepth 20000 in
theorem lowTo_get (l : List UInt8) (k : Nat) (h : k < l.length) : (lowTo l k)[k]'(by rw [lowTo_len]; exact h) = l[k] := by
  simp only [lowTo, lower]
  rw [List.getElem_append_right (by simp; omega)]
  simp [List.length_take, Nat.min_eq_left (Nat.le_of_lt h)]
set_option maxRecDepth 20000 in
theorem lowTo_set (l : List UInt8) (k : Nat) (h : k < l.length) : (lowTo l k).set k (small l[k]) = lowTo l (k + 1) := by
  have e1 : l.take (k + 1) = l.take k ++ [l[k]] := by rw [List.take_succ_eq_append_getElem h]
  have hl : (lower (l.take k)).length = k := by simp [lower]; omega
  rw [lowTo, List.set_append, if_neg (by omega), hl, Nat.sub_self, List.drop_eq_getElem_cons h, List.set_cons_zero, lowTo, e1, lower, lower, List.map_append, List.append_assoc]
  rfl
set_option maxRecDepth 20000 in
theorem lowTo_same (l : List UInt8) (k : Nat) (h : k < l.length) (hs : small l[k] = l[k]) : lowTo l k = lowTo l (k + 1) := by
  rw [← lowTo_set l k h, hs, ← lowTo_get l k h, List.set_getElem_self]

/-- Block g holds the bytes p, each free to be written. -/
def HoldsB (g : Nat) (p : List UInt8) (w : World) : Prop := ∀ (j : Nat) (hj : j < p.length), w.cell? ⟨g, j, none⟩ = some (.int .u8 (p[j].toNat : Int)) ∧ w.frozen? ⟨g, j, none⟩ = false

set_option maxRecDepth 20000 in
theorem HoldsB.back {P : Program} {g cap : Nat} {p : List UInt8} {w : World} (h : HoldsB g p w) (src dst : TypeId) (hs : P.underlying src = some (.slice 5)) (he : P.underlying 5 = some (.int .u8)) (hd : P.underlying dst = some .string) :
    (convert src dst (.slice (some ⟨g, 0, none⟩) p.length cap)).run P w = .ok (.string ⟨p.toArray⟩) w :=
  run_convert_bytes_back w src dst 5 ⟨g, 0, none⟩ cap p hs he hd (fun j hj => by rw [add_off]; exact (h j hj).1)

set_option maxRecDepth 20000 in
theorem bytesOf {P : Program} (src dst : TypeId) (hs : P.underlying src = some .string) (hd : P.underlying dst = some (.slice 5)) (he : P.underlying 5 = some (.int .u8)) (s : ByteArray) (w : World) :
    ∃ cap W, (convert src dst (.string s)).run P w = .ok (.slice (some ⟨w.heap.size, 0, none⟩) s.size cap) W ∧ HoldsB w.heap.size s.data.toList W ∧ Below w.heap.size w W := by
  refine ⟨_, _, run_bytes_of_string w src dst 5 s hs hd he, ?_, (Below.refl _ _).drew.alloc (Nat.le_refl _) _⟩
  intro j hj
  have hj' : j < s.data.size := by simpa using hj
  have hsz : j < (bytesRow s (grownCap w s.size 0 5)).size := by
    simp only [bytesRow, Array.size_append, Array.size_map]; omega
  constructor
  · have e := World.cell?_alloc_mark w.drew (bytesRow s (grownCap w s.size 0 5)) 5 ((bytesRow s (grownCap w s.size 0 5)).size, (bytesRow s (grownCap w s.size 0 5)).size + 1) j
    refine e.trans ?_
    unfold bytesRow
    rw [Array.getElem?_append_left (by simpa using hj')]
    rw [Array.getElem?_map, Array.getElem?_eq_getElem hj']
    rfl
  · have e := World.frozen?_alloc_mark w.drew (bytesRow s (grownCap w s.size 0 5)) 5 (bytesRow s (grownCap w s.size 0 5)).size ((bytesRow s (grownCap w s.size 0 5)).size + 1) j
    refine e.trans ?_
    simp only [Bool.and_eq_false_imp, decide_eq_true_eq, decide_eq_false_iff_not]
    omega
set_option maxRecDepth 20000 in
theorem HoldsB.set {g : Nat} {p : List UInt8} {w : World} (h : HoldsB g p w) (k : Nat) (hk : k < p.length) (c : UInt8) : HoldsB g (p.set k c) (w.setCell ⟨g, k, none⟩ (.int .u8 (c.toNat : Int))) := by
  intro j hj
  have hj' : j < p.length := by simpa using hj
  refine ⟨?_, by rw [World.frozen?_setCell]; exact (h j hj').2⟩
  by_cases e : k = j
  · subst e
    rw [World.cell?_setCell_same w _ _ (h k hk).1, List.getElem_set_self]
  · rw [World.cell?_setCell_other w ⟨g, k, none⟩ ⟨g, j, none⟩ _ (by simp), List.getElem_set_ne e]
    exact (h j hj').1
set_option maxRecDepth 20000 in
set_option maxHeartbeats 1000000 in
theorem implLowered (s : ByteArray) (w : World) (hs : s.size ≤ 100000) :
    Calls Tryz.prog 93 #[.string s] w fun e w' => e = .returned (.string ⟨(lower s.data.toList).toArray⟩) ∧ Below w.heap.size w w' := by
  obtain ⟨cap, W, hcv, hh, hbW⟩ := bytesOf (P := Tryz.prog) 9 69 Tryz.underlying9 Tryz.underlying69 Tryz.underlying5 s w
  go_enter Tryz.func93, Tryz.ntmps93
  go_wp2
  clear hcv
  go_loopw [10] (fun i wr => ∃ k : Nat, k ≤ s.size ∧ i = .int .i64 k ∧ HoldsB w.heap.size (lowTo s.data.toList k) wr ∧ Below w.heap.size w wr) (fun i _ => s.size - (Lib.intOf i).toNat)
  case atStart => exact ⟨0, by omega, rfl, by rw [lowTo_zero]; exact hh, hbW⟩
  case round =>
    obtain ⟨k, hk, rfl, hold, hb⟩ := hrel
    have hll : s.data.toList.length = s.size := by simp
    by_cases hlt : k < s.size
    · obtain ⟨hc, hf⟩ := hold k (by rw [lowTo_len]; omega)
      rw [lowTo_get _ _ (by omega)] at hc
      have hset := lowTo_set s.data.toList k (by omega)
      have hsame := lowTo_same s.data.toList k (by omega)
      have hst := fun c => hold.set k (by rw [lowTo_len]; omega) c
      generalize s.data.toList[k] = c at hc hset hsame
      have h8 : c.toNat < 256 := UInt8.toNat_lt _
      by_cases hc1 : 65 ≤ c.toNat ∧ c.toNat ≤ 90
      · have hv := small_yes c hc1
        have hst' := mkH (hst (small c))
        rw [hset, hv] at hst'
        obtain ⟨h65, h90⟩ := hc1
        clear hset hsame hst hold hv hll
        have hb' := hb.setCell (p := ⟨w.heap.size, k, none⟩) (Nat.le_refl _) (.int .u8 ((c.toNat : Int) + 32))
        have hb'' := mkH hb'
        clear hb'
        go_wp2
        rw [show (c.toNat : Int) - 65 + 97 = (c.toNat : Int) + 32 by omega]
        go_roundw
        case rel => exact ⟨k + 1, by omega, by go_num, hst'.out, hb''.out⟩
        case measure => simp [Lib.intOf]; omega
      · have hv := mkH (hsame (small_no c hc1))
        clear hset hsame hst hll
        by_cases h65 : 65 ≤ c.toNat
        · have h90 : 90 < c.toNat := by omega
          clear hc1
          go_wp2
          go_roundw
          case rel => exact ⟨k + 1, by omega, by go_num, by rw [← hv.out]; exact hold, hb⟩
          case measure => simp [Lib.intOf]; omega
        · clear hc1
          go_wp2
          go_roundw
          case rel => exact ⟨k + 1, by omega, by go_num, by rw [← hv.out]; exact hold, hb⟩
          case measure => simp [Lib.intOf]; omega
    · rw [lowTo_all _ _ (by omega)] at hold
      have hlen : (lower s.data.toList).length = s.size := by simp [lower]
      have hbk := hold.back (P := Tryz.prog) (cap := cap) 69 9 Tryz.underlying69 Tryz.underlying5 Tryz.underlying9
      rw [hlen] at hbk
      clear hlen hll hold
      go_wp2
      go_ret
      exact ⟨rfl, hb⟩
set_option maxRecDepth 20000 in
set_option maxHeartbeats 400000 in
theorem specSmall (c : UInt8) (w : World) :
    Calls Tryz.prog 99 #[.int .u8 (c.toNat : Int)] w fun e w' => e = .returned (.int .u8 ((small c).toNat : Int)) ∧ w = w' := by
  have h8 : c.toNat < 256 := UInt8.toNat_lt _
  by_cases hc : 65 ≤ c.toNat ∧ c.toNat ≤ 90
  · rw [small_yes c hc]
    obtain ⟨h65, h90⟩ := hc
    go_enter Tryz.func99, Tryz.ntmps99
    go_wp2
    go_ret
    exact ⟨rfl, rfl⟩
  · rw [small_no c hc]
    by_cases h65 : 65 ≤ c.toNat
    · have h90 : 90 < c.toNat := by omega
      clear hc
      go_enter Tryz.func99, Tryz.ntmps99
      go_wp2
      go_ret
      exact ⟨rfl, rfl⟩
    · clear hc
      go_enter Tryz.func99, Tryz.ntmps99
      go_wp2
      go_ret
      exact ⟨rfl, rfl⟩
set_option maxRecDepth 20000 in
set_option maxHeartbeats 400000 in
theorem specLower (s : ByteArray) (w : World) (hs : s.size ≤ 100000) :
    Calls Tryz.prog 72 #[.string s] w fun e w' => e = .returned (.string ⟨(lower s.data.toList).toArray⟩) ∧ Below w.heap.size w w' := by
  obtain ⟨i0, hi, hz0, hz1, hz2⟩ := info_parts Tryz.info5
  go_enter Tryz.func72, Tryz.ntmps72
  go_wp2
  go_loopw [3, 4] (fun v i wr => ∃ k : Nat, k ≤ s.size ∧ i = .int .i64 k ∧ Own w.heap.size v (lower (s.data.toList.take k)) wr ∧ Below w.heap.size w wr) (fun _ i _ => s.size - (Lib.intOf i).toNat)
  case atStart => exact ⟨0, Nat.zero_le _, rfl, Own.made _ _ (Nat.le_refl _), (Below.refl _ _).alloc (Nat.le_refl _) _⟩
  case round =>
    obtain ⟨k, hk, rfl, hown, hb⟩ := hrel
    by_cases hlt : k < s.size
    · have hll : s.data.toList.length = s.size := by simp
      have hlen : (lower (s.data.toList.take k)).length = k := by simp only [lower, List.length_map, List.length_take]; omega
      have hstep : Hid (lower (s.data.toList.take k) ++ [small s[k]] = lower (s.data.toList.take (k + 1))) := by
        rw [List.take_succ_eq_append_getElem (by omega), lower, lower, List.map_append]; exact rfl
      have h8 : (small s[k]).toNat < 256 := UInt8.toNat_lt _
      generalize lower (s.data.toList.take k) = p at *
      clear hll
      go_wp2_with fail
      refine (specSmall s[k] _).mono ?_
      rintro e w2 ⟨rfl, rfl⟩
      generalize small s[k] = c at *
      go_wp2_with (at_builtin; go_must (refine wp_app (W := w) rfl _ _ 69 rfl i0 Tryz.underlying69 hi hz0 hz1 hz2 w.heap.size u3 p rfl hown _ [c] rfl 1 1 rfl rfl (by simp; omega) (Nat.le_refl _) hb ?_; intro v' w' hown' hb'))
      go_roundw
      case rel => exact ⟨k + 1, by omega, by go_num, by rw [← hstep.out]; exact hown', hb'⟩
      case measure => simp [Lib.intOf]; omega
    · rw [List.take_of_length_le (by simp; omega)] at hown
      have hbk := hown.back (P := Tryz.prog) 69 9 Tryz.underlying69 Tryz.underlying5 Tryz.underlying9
      go_wp2
      go_ret
      exact ⟨rfl, hb⟩
end Go.Proofs.YtgabjiamabbheaaGreatDoor
