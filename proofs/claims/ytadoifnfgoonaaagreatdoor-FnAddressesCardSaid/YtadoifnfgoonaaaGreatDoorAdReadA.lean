
/- Lowered letters: plain, and the walks of the two. -/

/- The walks of the two AddressKey and of the two WriteBox. -/

/- The walks of a reader of addresses: a box, in its form and counted. -/
import Derived.Test.YtadoifnfgoonaaaGreatDoorAllOf
import Derived.Laws.IdiomStrings
import Derived.Lib.UnsafeStr
import Derived.WalkSmall
import Derived.Test.YtadoifnfgoonaaaGreatDoorAdRead9
import Derived.Deep.QuietTactic
import Derived.BigQuiet
import Derived.Deep.RegionWith
namespace Go.Proofs.YtadoifnfgoonaaaGreatDoor
open Go.RowKit Go.Lib
set_option maxRecDepth 20000 in
theorem mkH {p : Prop} (h : p) : Hid p := h
def small (c : UInt8) : UInt8 := if 65 ≤ c.toNat ∧ c.toNat ≤ 90 then UInt8.ofNat (c.toNat + 32) else c
def lower (l : List UInt8) : List UInt8 := l.map small

set_option maxRecDepth 20000 in
theorem small_yes (c : UInt8) (h : 65 ≤ c.toNat ∧ c.toNat ≤ 90) : ((small c).toNat : Int) = (c.toNat : Int) + 32 := by
  unfold small
  rw [if_pos h, UInt8.toNat_ofNat_of_lt' (by simp [UInt8.size]; omega)]
  omega
set_option maxRecDepth 20000 in
theorem small_no (c : UInt8) (h : ¬ (65 ≤ c.toNat ∧ c.toNat ≤ 90)) : small c = c := by
  unfold small
  rw [if_neg h]

/-- The bytes that are lowered so far. -/
def lowTo (l : List UInt8) (k : Nat) : List UInt8 := lower (l.take k) ++ l.drop k
set_option maxRecDepth 20000 in
theorem lowTo_len (l : List UInt8) (k : Nat) : (lowTo l k).length = l.length := by
  simp only [lowTo, lower, List.length_append, List.length_map, List.length_take, List.length_drop]; omega
set_option maxRecDepth 20000 in
theorem lowTo_zero (l : List UInt8) : lowTo l 0 = l := by simp [lowTo, lower]
set_option maxRecDepth 20000 in
theorem lowTo_all (l : List UInt8) (k : Nat) (h : l.length ≤ k) : lowTo l k = lower l := by
  rw [lowTo, List.take_of_length_le h, List.drop_eq_nil_of_le h, List.append_nil]
set_option maxRecDepth 20000 in
theorem lowTo_get (l : List UInt8) (k : Nat) (h : k < l.length) : (lowTo l k)[k]'(by rw [lowTo_len]; exact h) = l[k] := by
  simp only [lowTo, lower]
  rw [List.getElem_append_right (by simp; omega)]
  simp [List.length_take, Nat.min_eq_left (Nat.le_of_lt h)]
set_option maxRecDepth 20000 in
theorem lowTo_set (l : List UInt8) (k : Nat) (h : k < l.length) : (lowTo l k).set k (small l[k]) = lowTo l (k + 1) := by
  have e1 : l.take (k + 1) = l.take k ++ [l[k]] := by rw [List.take_succ_eq_append_getElem h]
  have hl : (lower (l.take k)).length = k := by simp [lower]; omega
  rw [lowTo, List.set_append, if_neg (by omega), hl, Nat.sub_self, List.drop_eq_getElem_cons h, List.set_cons_zero, lowTo, e1, lower, lower, List.map_append, List.append_assoc]
  rfl
set_option maxRecDepth 20000 in
theorem lowTo_same (l : List UInt8) (k : Nat) (h : k < l.length) (hs : small l[k] = l[k]) : lowTo l k = lowTo l (k + 1) := by
  rw [← lowTo_set l k h, hs, ← lowTo_get l k h, List.set_getElem_self]

/-- Block g holds the bytes p, each free to be written. -/
def HoldsB (g : Nat) (p : List UInt8) (w : World) : Prop := ∀ (j : Nat) (hj : j < p.length), w.cell? ⟨g, j, none⟩ = some (.int .u8 (p[j].toNat : Int)) ∧ w.frozen? ⟨g, j, none⟩ = false

set_option maxRecDepth 20000 in
theorem HoldsB.back {P : Program} {g cap : Nat} {p : List UInt8} {w : World} (h : HoldsB g p w) (src dst : TypeId) (hs : P.underlying src = some (.slice 5)) (he : P.underlying 5 = some (.int .u8)) (hd : P.underlying dst = some .string) :
    (convert src dst (.slice (some ⟨g, 0, none⟩) p.length cap)).run P w = .ok (.string ⟨p.toArray⟩) w :=
  run_convert_bytes_back w src dst 5 ⟨g, 0, none⟩ cap p hs he hd (fun j hj => by rw [add_off]; exact (h j hj).1)

set_option maxRecDepth 20000 in
theorem bytesOf {P : Program} (src dst : TypeId) (hs : P.underlying src = some .string) (hd : P.underlying dst = some (.slice 5)) (he : P.underlying 5 = some (.int .u8)) (s : ByteArray) (w : World) :
    ∃ cap W, (convert src dst (.string s)).run P w = .ok (.slice (some ⟨w.heap.size, 0, none⟩) s.size cap) W ∧ HoldsB w.heap.size s.data.toList W ∧ Below w.heap.size w W := by
  refine ⟨_, _, run_bytes_of_string w src dst 5 s hs hd he, ?_, (Below.refl _ _).drew.alloc (Nat.le_refl _) _⟩
  intro j hj
  have hj' : j < s.data.size := by simpa using hj
  have hsz : j < (bytesRow s (grownCap w s.size 0 5)).size := by
    simp only [bytesRow, Array.size_append, Array.size_map]; omega
  constructor
  · have e := World.cell?_alloc_mark w.drew (bytesRow s (grownCap w s.size 0 5)) 5 ((bytesRow s (grownCap w s.size 0 5)).size, (bytesRow s (grownCap w s.size 0 5)).size + 1) j
    refine e.trans ?_
    unfold bytesRow
    rw [Array.getElem?_append_left (by simpa using hj')]
    rw [Array.getElem?_map, Array.getElem?_eq_getElem hj']
    rfl
  · have e := World.frozen?_alloc_mark w.drew (bytesRow s (grownCap w s.size 0 5)) 5 (bytesRow s (grownCap w s.size 0 5)).size ((bytesRow s (grownCap w s.size 0 5)).size + 1) j
    refine e.trans ?_
    simp only [Bool.and_eq_false_imp, decide_eq_true_eq, decide_eq_false_iff_not]
    omega
set_option maxRecDepth 20000 in
theorem HoldsB.set {g : Nat} {p : List UInt8} {w : World} (h : HoldsB g p w) (k : Nat) (hk : k < p.length) (c : UInt8) : HoldsB g (p.set k c) (w.setCell ⟨g, k, none⟩ (.int .u8 (c.toNat : Int))) := by
  intro j hj
  have hj' : j < p.length := by simpa using hj
  refine ⟨?_, by rw [World.frozen?_setCell]; exact (h j hj').2⟩
  by_cases e : k = j
  · subst e
    rw [World.cell?_setCell_same w _ _ (h k hk).1, List.getElem_set_self]
  · rw [World.cell?_setCell_other w ⟨g, k, none⟩ ⟨g, j, none⟩ _ (by simp), List.getElem_set_ne e]
    exact (h j hj').1
set_option maxRecDepth 20000 in
set_option maxHeartbeats 1000000 in
theorem implLowered (s : ByteArray) (w : World) (hs : s.size ≤ 100000) :
    Calls Tryz.prog 38 #[.string s] w fun e w' => e = .returned (.string ⟨(lower s.data.toList).toArray⟩) ∧ Below w.heap.size w w' := by
  obtain ⟨cap, W, hcv, hh, hbW⟩ := bytesOf (P := Tryz.prog) 9 22 Tryz.underlying9 Tryz.underlying22 Tryz.underlying5 s w
  go_enter Tryz.func38, Tryz.ntmps38
  go_wp2
  clear hcv
  go_loopw [10] (fun i wr => ∃ k : Nat, k ≤ s.size ∧ i = .int .i64 k ∧ HoldsB w.heap.size (lowTo s.data.toList k) wr ∧ Below w.heap.size w wr) (fun i _ => s.size - (Lib.intOf i).toNat)
  case atStart => exact ⟨0, by omega, rfl, by rw [lowTo_zero]; exact hh, hbW⟩
  case round =>
    obtain ⟨k, hk, rfl, hold, hb⟩ := hrel
    have hll : s.data.toList.length = s.size := by simp
    by_cases hlt : k < s.size
    · obtain ⟨hc, hf⟩ := hold k (by rw [lowTo_len]; omega)
      rw [lowTo_get _ _ (by omega)] at hc
      have hset := lowTo_set s.data.toList k (by omega)
      have hsame := lowTo_same s.data.toList k (by omega)
      have hst := fun c => hold.set k (by rw [lowTo_len]; omega) c
      generalize s.data.toList[k] = c at hc hset hsame
      have h8 : c.toNat < 256 := UInt8.toNat_lt _
      by_cases hc1 : 65 ≤ c.toNat ∧ c.toNat ≤ 90
      · have hv := small_yes c hc1
        have hst' := mkH (hst (small c))
        rw [hset, hv] at hst'
        obtain ⟨h65, h90⟩ := hc1
        clear hset hsame hst hold hv hll
        have hb' := hb.setCell (p := ⟨w.heap.size, k, none⟩) (Nat.le_refl _) (.int .u8 ((c.toNat : Int) + 32))
        have hb'' := mkH hb'
        clear hb'
        go_wp2
        rw [show (c.toNat : Int) - 65 + 97 = (c.toNat : Int) + 32 by omega]
        go_roundw
        case rel => exact ⟨k + 1, by omega, by go_num, hst'.out, hb''.out⟩
        case measure => simp [Lib.intOf]; omega
      · have hv := mkH (hsame (small_no c hc1))
        clear hset hsame hst hll
        by_cases h65 : 65 ≤ c.toNat
        · have h90 : 90 < c.toNat := by omega
          clear hc1
          go_wp2
          go_roundw
          case rel => exact ⟨k + 1, by omega, by go_num, by rw [← hv.out]; exact hold, hb⟩
          case measure => simp [Lib.intOf]; omega
        · clear hc1
          go_wp2
          go_roundw
          case rel => exact ⟨k + 1, by omega, by go_num, by rw [← hv.out]; exact hold, hb⟩
          case measure => simp [Lib.intOf]; omega
    · rw [lowTo_all _ _ (by omega)] at hold
      have hlen : (lower s.data.toList).length = s.size := by simp [lower]
      have hbk := hold.back (P := Tryz.prog) (cap := cap) 22 9 Tryz.underlying22 Tryz.underlying5 Tryz.underlying9
      rw [hlen] at hbk
      clear hlen hll hold
      go_wp2
      go_ret
      exact ⟨rfl, hb⟩
set_option maxRecDepth 20000 in
set_option maxHeartbeats 400000 in
theorem specSmall (c : UInt8) (w : World) :
    Calls Tryz.prog 67 #[.int .u8 (c.toNat : Int)] w fun e w' => e = .returned (.int .u8 ((small c).toNat : Int)) ∧ w = w' := by
  have h8 : c.toNat < 256 := UInt8.toNat_lt _
  by_cases hc : 65 ≤ c.toNat ∧ c.toNat ≤ 90
  · rw [small_yes c hc]
    obtain ⟨h65, h90⟩ := hc
    go_enter Tryz.func67, Tryz.ntmps67
    go_wp2
    go_ret
    exact ⟨rfl, rfl⟩
  · rw [small_no c hc]
    by_cases h65 : 65 ≤ c.toNat
    · have h90 : 90 < c.toNat := by omega
      clear hc
      go_enter Tryz.func67, Tryz.ntmps67
      go_wp2
      go_ret
      exact ⟨rfl, rfl⟩
    · clear hc
      go_enter Tryz.func67, Tryz.ntmps67
      go_wp2
      go_ret
      exact ⟨rfl, rfl⟩
set_option maxRecDepth 20000 in
set_option maxHeartbeats 400000 in
theorem specLower (s : ByteArray) (w : World) (hs : s.size ≤ 100000) :
    Calls Tryz.prog 39 #[.string s] w fun e w' => e = .returned (.string ⟨(lower s.data.toList).toArray⟩) ∧ Below w.heap.size w w' := by
  obtain ⟨i0, hi, hz0, hz1, hz2⟩ := info_parts Tryz.info5
  go_enter Tryz.func39, Tryz.ntmps39
  go_wp2
  go_loopw [3, 4] (fun v i wr => ∃ k : Nat, k ≤ s.size ∧ i = .int .i64 k ∧ Own w.heap.size v (lower (s.data.toList.take k)) wr ∧ Below w.heap.size w wr) (fun _ i _ => s.size - (Lib.intOf i).toNat)
  case atStart => exact ⟨0, Nat.zero_le _, rfl, Own.made _ _ (Nat.le_refl _), (Below.refl _ _).alloc (Nat.le_refl _) _⟩
  case round =>
    obtain ⟨k, hk, rfl, hown, hb⟩ := hrel
    by_cases hlt : k < s.size
    · have hll : s.data.toList.length = s.size := by simp
      have hlen : (lower (s.data.toList.take k)).length = k := by simp only [lower, List.length_map, List.length_take]; omega
      have hstep : Hid (lower (s.data.toList.take k) ++ [small s[k]] = lower (s.data.toList.take (k + 1))) := by
        rw [List.take_succ_eq_append_getElem (by omega), lower, lower, List.map_append]; exact rfl
      have h8 : (small s[k]).toNat < 256 := UInt8.toNat_lt _
      generalize lower (s.data.toList.take k) = p at *
      clear hll
      go_wp2_with fail
      refine (specSmall s[k] _).mono ?_
      rintro e w2 ⟨rfl, rfl⟩
      generalize small s[k] = c at *
      go_wp2_with (at_builtin; go_must (refine wp_app (W := w) rfl _ _ 22 rfl i0 Tryz.underlying22 hi hz0 hz1 hz2 w.heap.size u3 p rfl hown _ [c] rfl 1 1 rfl rfl (by simp; omega) (Nat.le_refl _) hb ?_; intro v' w' hown' hb'))
      go_roundw
      case rel => exact ⟨k + 1, by omega, by go_num, by rw [← hstep.out]; exact hown', hb'⟩
      case measure => simp [Lib.intOf]; omega
    · rw [List.take_of_length_le (by simp; omega)] at hown
      have hbk := hown.back (P := Tryz.prog) 22 9 Tryz.underlying22 Tryz.underlying5 Tryz.underlying9
      go_wp2
      go_ret
      exact ⟨rfl, hb⟩
end Go.Proofs.YtadoifnfgoonaaaGreatDoor
namespace Go.Proofs.YtadoifnfgoonaaaGreatDoor
open Go.RowKit Go.Lib
set_option maxRecDepth 20000 in
theorem addrOk_sizes (n l d : ByteArray) (h : addrOk n l d = true) : n.size ≤ 200 ∧ l.size ≤ 64 ∧ d.size ≤ 255 := by
  simp only [addrOk, Bool.and_eq_true, decide_eq_true_eq, Pl.domI] at h
  obtain ⟨_, h1, _, h2, _, h3, _⟩ := h
  exact ⟨h2, h1, by simpa using h3⟩
abbrev bx (n l d : ByteArray) : Obj := .cells #[.string n, .string l, .string d] 35
set_option maxRecDepth 20000 in
theorem box_cells (n l d : ByteArray) (w w2 : World) (hb : Below (w.alloc (bx n l d)).heap.size (w.alloc (bx n l d)) w2) :
    w2.cell? ⟨w.heap.size, 0, none⟩ = some (.string n) ∧ w2.cell? ⟨w.heap.size, 1, none⟩ = some (.string l) ∧ w2.cell? ⟨w.heap.size, 2, none⟩ = some (.string d) := by
  refine ⟨(hb.cell (p := ⟨w.heap.size, 0, none⟩) (by simp)).trans ?_, (hb.cell (p := ⟨w.heap.size, 1, none⟩) (by simp)).trans ?_, (hb.cell (p := ⟨w.heap.size, 2, none⟩) (by simp)).trans ?_⟩ <;> simp
def keyT (n l d : ByteArray) : ByteArray := if addrOk n l d then l ++ ⟨#[64]⟩ ++ ⟨(lower d.data.toList).toArray⟩ else ⟨#[]⟩
set_option maxRecDepth 20000 in
set_option maxHeartbeats 1000000 in
theorem implKey (n l d : ByteArray) (m : Int) (w : World) (hn : n.size ≤ 1100000) (hl : l.size ≤ 1100000) (hd : d.size ≤ 1100000) (hm : w.cell? ⟨1, 0, none⟩ = some (.int .i64 m)) :
    Calls Tryz.prog 13 #[box3 n l d] w fun e w' => e = .returned (.string (keyT n l d)) ∧ Below w.heap.size w w' := by
  have hA := implAddress n l d m (w.alloc (bx n l d)) hn hl hd (cell_alloc _ hm)
  have hbA : Below w.heap.size w (w.alloc (bx n l d)) := (Below.refl _ _).alloc (Nat.le_refl _) _
  cases hok : addrOk n l d
  · rw [keyT, hok]
    rw [hok] at hA
    clear hm
    go_enter Tryz.func13, Tryz.ntmps13
    go_wp2_with (go_at_call 34; go_must (refine hA.mono ?_; rintro e w2 ⟨rfl, hb2⟩; simp only [dcode]))
    go_ret
    exact ⟨rfl, hbA.trans (hb2.mono hbA.size)⟩
  · obtain ⟨s0, s1, s2⟩ := addrOk_sizes n l d hok
    rw [keyT, hok]
    rw [hok] at hA
    have hL := fun w => implLowered d w (by omega)
    have hxs : (ByteArray.mk (lower d.data.toList).toArray).size ≤ 255 := by
      show (lower d.data.toList).toArray.size ≤ 255
      simp [lower]; omega
    generalize ByteArray.mk (lower d.data.toList).toArray = x at *
    clear hm hok
    go_enter Tryz.func13, Tryz.ntmps13
    go_wp2_with (go_at_call 34; go_must (refine hA.mono ?_; rintro e w2 ⟨rfl, hb2⟩; simp only [dcode]; obtain ⟨c0, c1, c2⟩ := box_cells n l d w w2 hb2; have Hc := (show Hid (∀ w3, Below w2.heap.size w2 w3 → w3.cell? ⟨w.heap.size, 1, none⟩ = some (.string l)) from fun w3 h => (box_cells n l d w w3 (hb2.trans (h.mono hb2.size))).2.1)))
    go_region_with (go_at_call 38; (refine (hL _).mono ?_; rintro e w3 ⟨rfl, hb3⟩; have c3 := Hc.out w3 (((Below.refl w2.heap.size w2).drew).trans hb3)))
    all_goals
      go_wp2
      go_ret
      exact ⟨rfl, hbA.trans ((hb2.trans ((((Below.refl w2.heap.size w2).drew).trans hb3).mono hb2.size)).mono hbA.size)⟩
set_option maxRecDepth 20000 in
set_option maxHeartbeats 1000000 in
theorem specKey (n l d : ByteArray) (w : World) (hn : n.size ≤ 1100000) (hl : l.size ≤ 1100000) (hd : d.size ≤ 1100000) :
    Calls Tryz.prog 14 #[box3 n l d] w fun e w' => e = .returned (.string (keyT n l d)) ∧ Below w.heap.size w w' := by
  have hA := specAddress n l d (w.alloc (bx n l d)) hn hl hd
  have hbA : Below w.heap.size w (w.alloc (bx n l d)) := (Below.refl _ _).alloc (Nat.le_refl _) _
  cases hok : addrOk n l d
  · rw [keyT, hok]
    rw [hok] at hA
    go_enter Tryz.func14, Tryz.ntmps14
    go_wp2_with (go_at_call 23; go_must (refine hA.mono ?_; rintro e w2 ⟨rfl, hb2⟩; simp only [dcode]))
    go_ret
    exact ⟨rfl, hbA.trans (hb2.mono hbA.size)⟩
  · obtain ⟨s0, s1, s2⟩ := addrOk_sizes n l d hok
    rw [keyT, hok]
    rw [hok] at hA
    have hL := fun w => specLower d w (by omega)
    have hxs : (ByteArray.mk (lower d.data.toList).toArray).size ≤ 255 := by
      show (lower d.data.toList).toArray.size ≤ 255
      simp [lower]; omega
    generalize ByteArray.mk (lower d.data.toList).toArray = x at *
    clear hok
    go_enter Tryz.func14, Tryz.ntmps14
    go_wp2_with (go_at_call 23; go_must (refine hA.mono ?_; rintro e w2 ⟨rfl, hb2⟩; simp only [dcode]; obtain ⟨c0, c1, c2⟩ := box_cells n l d w w2 hb2; have Hc := (show Hid (∀ w3, Below w2.heap.size w2 w3 → w3.cell? ⟨w.heap.size, 1, none⟩ = some (.string l)) from fun w3 h => (box_cells n l d w w3 (hb2.trans (h.mono hb2.size))).2.1)))
    go_region_with (go_at_call 39; (refine (hL _).mono ?_; rintro e w3 ⟨rfl, hb3⟩; have c3 := Hc.out w3 (((Below.refl w2.heap.size w2).drew).trans hb3)))
    all_goals
      go_wp2
      go_ret
      exact ⟨rfl, hbA.trans ((hb2.trans ((((Below.refl w2.heap.size w2).drew).trans hb3).mono hb2.size)).mono hbA.size)⟩
end Go.Proofs.YtadoifnfgoonaaaGreatDoor
namespace Go.Proofs.YtadoifnfgoonaaaGreatDoor
open Go.RowKit Go.Lib
set_option maxRecDepth 20000 in
theorem dotK_ph : ∀ (Q : List (Nat × ByteArray)), Q.all isWd = true → (dotK Q).all isPh = true
  | [], _ => rfl
  | [p], h => by
    rw [List.all_cons, Bool.and_eq_true] at h
    simp [dotK, isWd_ph p h.1]
  | p :: a :: r, h => by
    rw [List.all_cons, Bool.and_eq_true] at h
    have h2 := dotK_ph (a :: r) h.2
    rw [dotK, List.all_cons, List.all_cons, h2, isWd_ph p h.1]
    simp [isPh, isSg]
set_option maxRecDepth 20000 in
set_option maxHeartbeats 8000000 in
theorem rsBoxInForm {B g k : Nat} {T : List Tk} {s : ByteArray} {q : Nat × Nat} {w : World} (hT : Ts T s) (K' L : List (Nat × ByteArray)) (n l d : ByteArray) (hX : Bxk L K' n l d) (h : Rs B T g s q K' k w) (hL : isSg (hdT L) ⟨#[46]⟩ = false) :
    Calls Tryz.prog 109 #[scp g] w fun e w' => e = .returned (.tuple #[.agg #[.string n, .string l, .string d], .nilIface]) ∧ Rs B T g s q L k w' ∧ w.grownBy w' (some g) := by
  have hgl := h.glt
  have hql := h.qlt
  obtain ⟨W, hW0⟩ : ∃ W, W = w.alloc (.cells #[.string ⟨#[]⟩, .string ⟨#[]⟩, .string ⟨#[]⟩] 35) := ⟨_, rfl⟩
  have hbW : Below w.heap.size w W := by rw [hW0]; exact (Below.refl _ _).alloc (Nat.le_refl _) _
  have hA0 : W.heap[w.heap.size]? = some (.cells #[.string ⟨#[]⟩, .string ⟨#[]⟩, .string ⟨#[]⟩] 35 (0, 0)) := by rw [hW0]; exact hp_alloc _ _
  have hneg : some w.heap.size ≠ some g := fun e => by have := Option.some.inj e; omega
  have HbW := mkHid hbW
  have HA0 := mkHid hA0
  have HW0 := mkHid hW0
  have hRW := h.below hbW
  clear h hbW hA0 hW0
  cases hX with
  | plain Q K l d hA =>
    have c1 := mkHid (rsBehind hT (dotK Q) ((5, ⟨#[64]⟩) :: (K ++ L)) hRW (dotK_ph Q hA.hW) 5 ⟨#[64]⟩ rfl (phSg 64 (by decide)))
    have c2 := mkHid (fun (a : Nat) w => implIsSg 5 ⟨#[64]⟩ ⟨#[60]⟩ a false w (sgNe 64 60 (by decide)))
    have HR := mkHid hRW
    have HA := mkHid hA
    have HL := mkHid hL
    clear hRW hA hL
    go_enter Tryz.func109, Tryz.ntmps109
    go_wp2_with fail
    rw [← HW0.out]
    refine c1.out.mono ?_
    rintro e w1 ⟨a1, rfl, hb1⟩
    have HA1 : Hid (w1.heap[w.heap.size]? = some (.cells #[.string ⟨#[]⟩, .string ⟨#[]⟩, .string ⟨#[]⟩] 35 (0, 0))) := mkHid ((hb1.block _ (hp_lt HA0.out)).trans HA0.out)
    have Hb1 := mkHid (HbW.out.trans (hb1.mono HbW.out.size))
    have HR1 := mkHid (HR.out.below hb1)
    clear c1 hb1 HA0 HbW HW0 HR
    go_wp2_with fail
    refine (c2.out a1 _).mono ?_
    rintro e w2 ⟨rfl, hb2⟩
    have HA2 : Hid (w2.heap[w.heap.size]? = some (.cells #[.string ⟨#[]⟩, .string ⟨#[]⟩, .string ⟨#[]⟩] 35 (0, 0))) := mkHid ((hb2.block _ (hp_lt HA1.out)).trans HA1.out)
    have Hb2 := mkHid (Hb1.out.trans (hb2.mono Hb1.out.size))
    have c3 := mkHid (rsAddress hT Q K L l d HA.out.hQ HA.out.hW HA.out.hlen HA.out.hl HA.out.hD (HR1.out.below hb2) HL.out)
    clear c2 hb2 HA1 Hb1 HR1
    go_wp2_with fail
    refine c3.out.mono ?_
    rintro e w4 ⟨rfl, hR4, hg4⟩
    have HA4 : Hid (w4.heap[w.heap.size]? = some (.cells #[.string ⟨#[]⟩, .string ⟨#[]⟩, .string ⟨#[]⟩] 35 (0, 0))) := mkHid ((hg4.block _ (hp_lt HA2.out) hneg).trans HA2.out)
    have Hg4 := mkHid (grown_trans (grown_below Hb2.out) hg4)
    obtain ⟨W5, hW5⟩ : ∃ W, W = w4.alloc (.cells #[.string ⟨#[]⟩, .string l, .string d] 35) := ⟨_, rfl⟩
    have hb5 : Below w4.heap.size w4 W5 := by rw [hW5]; exact (Below.refl _ _).alloc (Nat.le_refl _) _
    have hB5 : W5.heap[w4.heap.size]? = some (.cells #[.string ⟨#[]⟩, .string l, .string d] 35 (0, 0)) := by rw [hW5]; exact hp_alloc _ _
    have HA5 : Hid (W5.heap[w.heap.size]? = some (.cells #[.string ⟨#[]⟩, .string ⟨#[]⟩, .string ⟨#[]⟩] 35 (0, 0))) := mkHid ((hb5.block _ (hp_lt HA4.out)).trans HA4.out)
    have Hg5 := mkHid (gr_lowB Hg4.out hb5 Hg4.out.size)
    have hg4l : g < w4.heap.size := hR4.glt
    have hw4l : w.heap.size < w4.heap.size := hp_lt HA4.out
    have hR5 := hR4.below hb5
    have c5 := mkHid (rsNote hT hR5)
    have HB5 := mkHid hB5
    have HW5 := mkHid hW5
    have HR5 := mkHid hR5
    clear c3 hR4 hg4 HA2 Hb2 hb5 hB5 hW5 HA4 Hg4 hR5
    go_wp2_with fail
    rw [← HW5.out]
    refine c5.out.mono ?_
    rintro e w6 ⟨rfl, hb6⟩
    have hR6 := HR5.out.below hb6
    have HA6 : Hid (w6.heap[w.heap.size]? = some (.cells #[.string ⟨#[]⟩, .string ⟨#[]⟩, .string ⟨#[]⟩] 35 (0, 0))) := mkHid ((hb6.block _ (hp_lt HA5.out)).trans HA5.out)
    have hB6 : w6.heap[w4.heap.size]? = some (.cells #[.string ⟨#[]⟩, .string l, .string d] 35 (0, 0)) := (hb6.block _ (hp_lt HB5.out)).trans HB5.out
    have Hg6 := mkHid (gr_lowB Hg5.out hb6 Hg5.out.size)
    have f6 : w6.frozen? ⟨w4.heap.size, 0, none⟩ = false := by simp [World.frozen?, hB6]
    have k6 : w6.cell? ⟨w4.heap.size, 0, none⟩ = some (.string ⟨#[]⟩) := by simp [World.cell?, hB6]
    obtain ⟨V, hV⟩ : ∃ V, V = w6.setCell ⟨w4.heap.size, 0, none⟩ (.string ⟨#[]⟩) := ⟨_, rfl⟩
    have hBV : V.heap[w4.heap.size]? = some (.cells #[.string ⟨#[]⟩, .string l, .string d] 35 (0, 0)) := by rw [hV]; simp [World.setCell, Array.getElem?_modify, hB6]
    have hgV : w6.grownBy V (some w4.heap.size) := by rw [hV]; exact grG_set _ _ _ _
    have hAV : V.heap[w.heap.size]? = some (.cells #[.string ⟨#[]⟩, .string ⟨#[]⟩, .string ⟨#[]⟩] 35 (0, 0)) := (hgV.block _ (hp_lt HA6.out) (fun e => by have := Option.some.inj e; omega)).trans HA6.out
    have HRV := mkHid (hR6.lowB (B0 := w4.heap.size) hg4l (by omega) ⟨hgV.os, hgV.tape, hgV.output, hgV.size, fun i hi => hgV.block i (Nat.lt_of_lt_of_le hi (by have := hp_lt hB6; omega)) (fun e => by have := Option.some.inj e; omega)⟩)
    have HgV : Hid (w.grownBy V (some g)) := mkHid ⟨hgV.os.trans Hg6.out.os, hgV.tape.trans Hg6.out.tape, hgV.output.trans Hg6.out.output, Nat.le_trans Hg6.out.size hgV.size, fun i hi hr => (hgV.block i (Nat.lt_of_lt_of_le hi Hg6.out.size) (fun e => by have := Option.some.inj e; omega)).trans (Hg6.out.block i hi hr)⟩
    have HBV := mkHid hBV
    have HAV := mkHid hAV
    rw [hV] at HBV HAV HRV HgV
    clear c5 hR6 hb6 HA5 Hg5 HB5 HW5 hB6 hV hBV hgV hAV HA6 Hg6
    go_wp2_with (first | (refine wpL_load_row rfl 35 _ rfl w4.heap.size #[.string ⟨#[]⟩, .string l, .string d] 35 (0, 0) _ rfl HBV.out Tryz.underlying35 rfl (by kernel_rfl) ?_) | (refine wpL_store_row rfl 35 _ _ rfl w.heap.size #[.string ⟨#[]⟩, .string l, .string d] rfl rfl 35 _ HAV.out (by kernel_rfl) rfl (by simp [Value.oneCell']) ?_))
    refine bodyPost_ret (v := .tuple #[.agg #[.string ⟨#[]⟩, .string l, .string d], .nilIface]) (results_rowA Tryz.results109 _ _ w.heap.size 35 _ (0, 0) _ _ rfl (setRow_heap _ _ _ _ _ _ HAV.out) Tryz.underlying35 rfl (by kernel_rfl) rfl) rfl ?_
    exact ⟨rfl, HRV.out.setRow hgl hql (Nat.le_refl _), gr_setRowA HgV.out (Nat.le_refl _)⟩
  | named P Q K n l d hP hW hlen hn hA =>
    have hPh : P.all isPh = true := List.all_eq_true.2 fun p hp => isWd_ph p (List.all_eq_true.1 hW p hp)
    have c1 := mkHid (rsBehind hT P ((5, ⟨#[60]⟩) :: adK Q K ((5, ⟨#[62]⟩) :: L)) hRW hPh 5 ⟨#[60]⟩ rfl (phSg 60 (by decide)))
    have c2 := mkHid (fun (a : Nat) w => implIsSg 5 ⟨#[60]⟩ ⟨#[60]⟩ a true w (sgEq 60))
    have HR := mkHid hRW
    have HA := mkHid hA
    have HW := mkHid hW
    have Hlen := mkHid hlen
    have Hn := mkHid hn
    clear hRW hA hL hW hlen hn hP hPh
    go_enter Tryz.func109, Tryz.ntmps109
    go_wp2_with fail
    rw [← HW0.out]
    refine c1.out.mono ?_
    rintro e w1 ⟨a1, rfl, hb1⟩
    have HA1 : Hid (w1.heap[w.heap.size]? = some (.cells #[.string ⟨#[]⟩, .string ⟨#[]⟩, .string ⟨#[]⟩] 35 (0, 0))) := mkHid ((hb1.block _ (hp_lt HA0.out)).trans HA0.out)
    have Hb1 := mkHid (HbW.out.trans (hb1.mono HbW.out.size))
    have HR1 := mkHid (HR.out.below hb1)
    clear c1 hb1 HA0 HbW HW0 HR
    go_wp2_with fail
    refine (c2.out a1 _).mono ?_
    rintro e w2 ⟨rfl, hb2⟩
    have HA2 : Hid (w2.heap[w.heap.size]? = some (.cells #[.string ⟨#[]⟩, .string ⟨#[]⟩, .string ⟨#[]⟩] 35 (0, 0))) := mkHid ((hb2.block _ (hp_lt HA1.out)).trans HA1.out)
    have Hb2 := mkHid (Hb1.out.trans (hb2.mono Hb1.out.size))
    have c3 := mkHid (rsAngled hT P Q K L n l d HW.out Hlen.out Hn.out HA.out (HR1.out.below hb2))
    clear c2 hb2 HA1 Hb1 HR1
    go_wp2_with fail
    refine c3.out.mono ?_
    rintro e w4 ⟨rfl, hR4, hg4⟩
    have HA4 : Hid (w4.heap[w.heap.size]? = some (.cells #[.string ⟨#[]⟩, .string ⟨#[]⟩, .string ⟨#[]⟩] 35 (0, 0))) := mkHid ((hg4.block _ (hp_lt HA2.out) hneg).trans HA2.out)
    have Hg4 := mkHid (grown_trans (grown_below Hb2.out) hg4)
    have HR4 := mkHid hR4
    clear c3 hR4 hg4 HA2 Hb2
    go_wp2_with (refine wpL_store_row rfl 35 _ _ rfl w.heap.size #[.string n, .string l, .string d] rfl rfl 35 _ HA4.out (by kernel_rfl) rfl (by simp [Value.oneCell']) ?_)
    refine bodyPost_ret (v := .tuple #[.agg #[.string n, .string l, .string d], .nilIface]) (results_rowA Tryz.results109 _ _ w.heap.size 35 _ (0, 0) _ _ rfl (setRow_heap _ _ _ _ _ _ HA4.out) Tryz.underlying35 rfl (by kernel_rfl) rfl) rfl ?_
    exact ⟨rfl, HR4.out.setRow hgl hql (Nat.le_refl _), gr_setRowA Hg4.out (Nat.le_refl _)⟩
set_option maxRecDepth 20000 in
theorem Rs.count {B g k : Nat} {T : List Tk} {s : ByteArray} {q : Nat × Nat} {L : List (Nat × ByteArray)} {w : World} (h : Rs B T g s q L k w) : w.cell? ⟨g, 5, none⟩ = some (.int .i64 (k : Int)) ∧ w.frozen? ⟨g, 5, none⟩ = false := by
  obtain ⟨n, h1, h2, h3⟩ := h
  exact ⟨h3.dr.cells.2.2.2.1, h3.dr.cells.2.2.2.2 5⟩
set_option maxRecDepth 20000 in
theorem Rs.setK {B g k : Nat} {T : List Tk} {s : ByteArray} {q : Nat × Nat} {L : List (Nat × ByteArray)} {w : World} (h : Rs B T g s q L k w) (k' : Nat) (j : Int) (hj : j = k') : Rs B T g s q L k' (w.setCell ⟨g, 5, none⟩ (.int .i64 j)) := by
  obtain ⟨n, h1, h2, h3⟩ := h
  exact ⟨n, h1, h2, h3.setBoxes k' j hj⟩
set_option maxRecDepth 20000 in
set_option maxHeartbeats 8000000 in
theorem rsBox {B g k : Nat} {T : List Tk} {s : ByteArray} {q : Nat × Nat} {w : World} (hT : Ts T s) (K' L : List (Nat × ByteArray)) (n l d : ByteArray) (hX : Bxk L K' n l d) (h : Rs B T g s q K' k w) (hL : isSg (hdT L) ⟨#[46]⟩ = false) (hk : k < 500) (hok : addrOk n l d = true) (m : Int) (hm : w.cell? ⟨1, 0, none⟩ = some (.int .i64 m)) (hgm : g ≠ 1) :
    Calls Tryz.prog 87 #[scp g] w fun e w' => e = .returned (.tuple #[.agg #[.string n, .string l, .string d], .nilIface]) ∧ Rs B T g s q L (k + 1) w' ∧ w.grownBy w' (some g) := by
  have hgl := h.glt
  have hql := h.qlt
  have hsz := addrOk_sizes n l d hok
  have hml : 1 < w.heap.size := World.block_lt_of_cell? _ _ hm
  obtain ⟨W, hW0⟩ : ∃ W, W = w.alloc (.cells #[.string ⟨#[]⟩, .string ⟨#[]⟩, .string ⟨#[]⟩] 35) := ⟨_, rfl⟩
  have hbW : Below w.heap.size w W := by rw [hW0]; exact (Below.refl _ _).alloc (Nat.le_refl _) _
  have hA0 : W.heap[w.heap.size]? = some (.cells #[.string ⟨#[]⟩, .string ⟨#[]⟩, .string ⟨#[]⟩] 35 (0, 0)) := by rw [hW0]; exact hp_alloc _ _
  have hneg : some w.heap.size ≠ some g := fun e => by have := Option.some.inj e; omega
  obtain ⟨kd, x, hx⟩ : ∃ kd x, hdT K' = (kd, x) := ⟨_, _, rfl⟩
  have c1 := mkHid (rsPeek hT (h.below hbW) kd x hx)
  have HR := mkHid (h.below hbW)
  have HbW := mkHid hbW
  have HA0 := mkHid hA0
  have HW0 := mkHid hW0
  have HX := mkHid hX
  have HL := mkHid hL
  have Hok := mkHid hok
  have Hm : Hid (∀ W, w.grownBy W (some g) → W.cell? ⟨1, 0, none⟩ = some (.int .i64 m)) := mkHid (fun W hg => (World.cell?_of_block (a := ⟨1, 0, none⟩) (hg.block 1 hml (fun e => hgm (Option.some.inj e).symm))).trans hm)
  clear h hbW hA0 hW0 hx hX hL hok hm
  go_enter Tryz.func87, Tryz.ntmps87
  go_wp2_with fail
  rw [← HW0.out]
  refine c1.out.mono ?_
  rintro e w1 ⟨a1, rfl, hb1⟩
  obtain ⟨W2, hW2⟩ : ∃ W, W = w1.alloc (.cells #[.int .i64 (kd : Int), .string x, .int .i64 (a1 : Int)] 107) := ⟨_, rfl⟩
  have hb2 : Below w1.heap.size w1 W2 := by rw [hW2]; exact (Below.refl _ _).alloc (Nat.le_refl _) _
  have hb12 := hb1.trans (hb2.mono hb1.size)
  have HA2 : Hid (W2.heap[w.heap.size]? = some (.cells #[.string ⟨#[]⟩, .string ⟨#[]⟩, .string ⟨#[]⟩] 35 (0, 0))) := mkHid ((hb12.block _ (hp_lt HA0.out)).trans HA0.out)
  have hR2 := HR.out.below hb12
  have Hb2 := mkHid (HbW.out.trans (hb12.mono HbW.out.size))
  obtain ⟨c5, f5⟩ := hR2.count
  have hg2 : g < W2.heap.size := hR2.glt
  obtain ⟨V, hV⟩ : ∃ V, V = W2.setCell ⟨g, 5, none⟩ (.int .i64 ((k : Int) + 1)) := ⟨_, rfl⟩
  have hRV : Rs B T g s q K' (k + 1) V := by rw [hV]; exact hR2.setK (k + 1) _ (by omega)
  have hgV : W2.grownBy V (some g) := by rw [hV]; exact grG_set _ _ _ _
  have HAV : Hid (V.heap[w.heap.size]? = some (.cells #[.string ⟨#[]⟩, .string ⟨#[]⟩, .string ⟨#[]⟩] 35 (0, 0))) := mkHid ((hgV.block _ (hp_lt HA2.out) hneg).trans HA2.out)
  have HgV := mkHid (grown_trans (grown_below Hb2.out) hgV)
  have cB := mkHid (rsBoxInForm hT K' L n l d HX.out hRV HL.out)
  have hk5 : ((k : Int) == 500) = false := by simp; omega
  have HVe := mkHid hV
  have HW2 := mkHid hW2
  rw [hW2] at c5 f5
  clear c1 hb1 hb2 hb12 hR2 hRV hgV hV hW2 HR HA0 HbW HW0 HA2 Hb2
  go_wp2_with fail
  rw [← HW2.out, ← HVe.out]
  refine cB.out.mono ?_
  rintro e w3 ⟨rfl, hR3, hg3⟩
  have HA3 : Hid (w3.heap[w.heap.size]? = some (.cells #[.string ⟨#[]⟩, .string ⟨#[]⟩, .string ⟨#[]⟩] 35 (0, 0))) := mkHid ((hg3.block _ (hp_lt HAV.out) hneg).trans HAV.out)
  have Hg3 := mkHid (grown_trans HgV.out hg3)
  obtain ⟨W4, hW4⟩ : ∃ W, W = w3.alloc (.cells #[.string n, .string l, .string d] 35) := ⟨_, rfl⟩
  have hb4 : Below w3.heap.size w3 W4 := by rw [hW4]; exact (Below.refl _ _).alloc (Nat.le_refl _) _
  have hB4 : W4.heap[w3.heap.size]? = some (.cells #[.string n, .string l, .string d] 35 (0, 0)) := by rw [hW4]; exact hp_alloc _ _
  have HA4 : Hid (W4.heap[w.heap.size]? = some (.cells #[.string ⟨#[]⟩, .string ⟨#[]⟩, .string ⟨#[]⟩] 35 (0, 0))) := mkHid ((hb4.block _ (hp_lt HA3.out)).trans HA3.out)
  have Hg4 := mkHid (gr_lowB Hg3.out hb4 Hg3.out.size)
  have HR4 := mkHid (hR3.below hb4)
  have cF := mkHid (implAddress n l d m W4 (by omega) (by omega) (by omega) (Hm.out W4 Hg4.out))
  rw [Hok.out, show dcode true = 0 from rfl] at cF
  have HB4 := mkHid hB4
  have HW4 := mkHid hW4
  have HB4' : Hid ((w3.alloc (.cells #[.string n, .string l, .string d] 35)).heap[w3.heap.size]? = some (.cells #[.string n, .string l, .string d] 35 (0, 0))) := mkHid (by rw [← hW4]; exact hB4)
  have q0 : (w3.alloc (.cells #[.string n, .string l, .string d] 35)).cell? ⟨w3.heap.size, 0, none⟩ = some (.string n) := by simp only [World.cell?, HB4'.out]; rfl
  have q1 : (w3.alloc (.cells #[.string n, .string l, .string d] 35)).cell? ⟨w3.heap.size, 1, none⟩ = some (.string l) := by simp only [World.cell?, HB4'.out]; rfl
  have q2 : (w3.alloc (.cells #[.string n, .string l, .string d] 35)).cell? ⟨w3.heap.size, 2, none⟩ = some (.string d) := by simp only [World.cell?, HB4'.out]; rfl
  clear cB hR3 hg3 HAV HgV hb4 hB4 hW4 HA3 Hg3
  go_wp2_with fail
  rw [← HW4.out]
  refine cF.out.mono ?_
  rintro e w5 ⟨rfl, hb5⟩
  have HA5 : Hid (w5.heap[w.heap.size]? = some (.cells #[.string ⟨#[]⟩, .string ⟨#[]⟩, .string ⟨#[]⟩] 35 (0, 0))) := mkHid ((hb5.block _ (hp_lt HA4.out)).trans HA4.out)
  have HB5 : Hid (w5.heap[w3.heap.size]? = some (.cells #[.string n, .string l, .string d] 35 (0, 0))) := mkHid ((hb5.block _ (hp_lt HB4.out)).trans HB4.out)
  have Hg5 := mkHid (gr_lowB Hg4.out hb5 Hg4.out.size)
  have HR5 := mkHid (HR4.out.below hb5)
  clear cF hb5 HA4 HB4 HB4' Hg4 HR4 HW4 q0 q1 q2
  go_wp2_with (first | (refine wpL_load_row rfl 35 _ rfl w3.heap.size #[.string n, .string l, .string d] 35 (0, 0) _ rfl HB5.out Tryz.underlying35 rfl (by kernel_rfl) ?_) | (refine wpL_store_row rfl 35 _ _ rfl w.heap.size #[.string n, .string l, .string d] rfl rfl 35 _ HA5.out (by kernel_rfl) rfl (by simp [Value.oneCell']) ?_))
  refine bodyPost_ret (v := .tuple #[.agg #[.string n, .string l, .string d], .nilIface]) (results_rowA Tryz.results87 _ _ w.heap.size 35 _ (0, 0) _ _ rfl (setRow_heap _ _ _ _ _ _ HA5.out) Tryz.underlying35 rfl (by kernel_rfl) rfl) rfl ?_
  exact ⟨rfl, HR5.out.setRow hgl hql (Nat.le_refl _), gr_setRowA Hg5.out (Nat.le_refl _)⟩
end Go.Proofs.YtadoifnfgoonaaaGreatDoor
