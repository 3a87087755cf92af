
/- Lowered letters: plain, and the walks of the two. -/

/- The last field of a name, the program's side. -/

/- Lists of texts that were handed in; the law's helpers over them. -/

/- Lists of numbers that were handed in; the law's helpers over them, and over texts. -/

/- Results that lie in a block: laws of no program. -/

/- Lists of texts and of numbers between two blocks; laws of the law's helpers over them, for the texts that tools/gen/structs.py writes. -/

/- Lists of texts that a call has made by appends. -/

/- FnExactSubjectOf: FindField on both sides, in fields that are read. -/
import Derived.Test.YtajkahpkbeobaaaGreatDoorReadPlain
import Derived.Laws.IdiomStrings
import Derived.Lib.UnsafeStr
import Derived.WalkSmall
import Derived.Test.YtajkahpkbeobaaaGreatDoorOwnF
import Derived.Lib.QuietBelow
import Derived.Deep.QuietTactic
import Derived.BigQuiet
import Derived.Laws.OwnMore
import Derived.Laws.MakeOwn
import Derived.Deep.RegionWith
import Derived.WalkKit
import Derived.WalkLawsBesides
import Derived.WalkSpells
import Derived.Below
import Derived.Maps.OwnSet
import Derived.Deep.OwnRows
import Derived.Test.YtajkahpkbeobaaaGreatDoorSubjHead
namespace Go.Proofs.YtajkahpkbeobaaaGreatDoor
open Go.RowKit Go.Lib
set_option maxRecDepth 20000 in
theorem mkH {p : Prop} (h : p) : Hid p := h
def small (c : UInt8) : UInt8 := if 65 ≤ c.toNat ∧ c.toNat ≤ 90 then UInt8.ofNat (c.toNat + 32) else c
def lower (l : List UInt8) : List UInt8 := l.map small

set_option maxRecDepth 20000 in
theorem small_yes (c : UInt8) (h : 65 ≤ c.toNat ∧ c.toNat ≤ 90) : ((small c).toNat : Int) = (c.toNat : Int) + 32 := by
  unfold small
  rw [if_pos h, UInt8.toNat_ofNat_of_lt' (by simp [UInt8.size]; omega)]
  omega
set_option maxRecDepth 20000 in
theorem small_no (c : UInt8) (h : ¬ (65 ≤ c.toNat ∧ c.toNat ≤ 90)) : small c = c := by
  unfold small
  rw [if_neg h]

/-- The bytes that are lowered so far. -/
def lowTo (l : List UInt8) (k : Nat) : List UInt8 := lower (l.take k) ++ l.drop k
set_option maxRecDepth 20000 in
theorem lowTo_len (l : List UInt8) (k : Nat) : (lowTo l k).length = l.length := by
  simp only [lowTo, lower, List.length_append, List.length_map, List.length_take, List.length_drop]; omega
set_option maxRecDepth 20000 in
theorem lowTo_zero (l : List UInt8) : lowTo l 0 = l := by simp [lowTo, lower]
set_option maxRecDepth 20000 in
theorem lowTo_all (l : List UInt8) (k : Nat) (h : l.length ≤ k) : lowTo l k = lower l := by
  rw [lowTo, List.take_of_length_le h, List.drop_eq_nil_of_le h, List.append_nil]
set_option maxRecDepth 20000 in
theorem lowTo_get (l : List UInt8) (k : Nat) (h : k < l.length) : (lowTo l k)[k]'(by rw [lowTo_len]; exact h) = l[k] := by
  simp only [lowTo, lower]
  rw [List.getElem_append_right (by simp; omega)]
  simp [List.length_take, Nat.min_eq_left (Nat.le_of_lt h)]
set_option maxRecDepth 20000 in
theorem lowTo_set (l : List UInt8) (k : Nat) (h : k < l.length) : (lowTo l k).set k (small l[k]) = lowTo l (k + 1) := by
  have e1 : l.take (k + 1) = l.take k ++ [l[k]] := by rw [List.take_succ_eq_append_getElem h]
  have hl : (lower (l.take k)).length = k := by simp [lower]; omega
  rw [lowTo, List.set_append, if_neg (by omega), hl, Nat.sub_self, List.drop_eq_getElem_cons h, List.set_cons_zero, lowTo, e1, lower, lower, List.map_append, List.append_assoc]
  rfl
set_option maxRecDepth 20000 in
theorem lowTo_same (l : List UInt8) (k : Nat) (h : k < l.length) (hs : small l[k] = l[k]) : lowTo l k = lowTo l (k + 1) := by
  rw [← lowTo_set l k h, hs, ← lowTo_get l k h, List.set_getElem_self]

/-- Block g holds the bytes p, each free to be written. -/
def HoldsB (g : Nat) (p : List UInt8) (w : World) : Prop := ∀ (j : Nat) (hj : j < p.length), w.cell? ⟨g, j, none⟩ = some (.int .u8 (p[j].toNat : Int)) ∧ w.frozen? ⟨g, j, none⟩ = false

set_option maxRecDepth 20000 in
theorem HoldsB.back {P : Program} {g cap : Nat} {p : List UInt8} {w : World} (h : HoldsB g p w) (src dst : TypeId) (hs : P.underlying src = some (.slice 5)) (he : P.underlying 5 = some (.int .u8)) (hd : P.underlying dst = some .string) :
    (convert src dst (.slice (some ⟨g, 0, none⟩) p.length cap)).run P w = .ok (.string ⟨p.toArray⟩) w :=
  run_convert_bytes_back w src dst 5 ⟨g, 0, none⟩ cap p hs he hd (fun j hj => by rw [add_off]; exact (h j hj).1)

set_option maxRecDepth 20000 in
theorem bytesOf {P : Program} (src dst : TypeId) (hs : P.underlying src = some .string) (hd : P.underlying dst = some (.slice 5)) (he : P.underlying 5 = some (.int .u8)) (s : ByteArray) (w : World) :
    ∃ cap W, (convert src dst (.string s)).run P w = .ok (.slice (some ⟨w.heap.size, 0, none⟩) s.size cap) W ∧ HoldsB w.heap.size s.data.toList W ∧ Below w.heap.size w W := by
  refine ⟨_, _, run_bytes_of_string w src dst 5 s hs hd he, ?_, (Below.refl _ _).drew.alloc (Nat.le_refl _) _⟩
  intro j hj
  have hj' : j < s.data.size := by simpa using hj
  have hsz : j < (bytesRow s (grownCap w s.size 0 5)).size := by
    simp only [bytesRow, Array.size_append, Array.size_map]; omega
  constructor
  · have e := World.cell?_alloc_mark w.drew (bytesRow s (grownCap w s.size 0 5)) 5 ((bytesRow s (grownCap w s.size 0 5)).size, (bytesRow s (grownCap w s.size 0 5)).size + 1) j
    refine e.trans ?_
    unfold bytesRow
    rw [Array.getElem?_append_left (by simpa using hj')]
    rw [Array.getElem?_map, Array.getElem?_eq_getElem hj']
    rfl
  · have e := World.frozen?_alloc_mark w.drew (bytesRow s (grownCap w s.size 0 5)) 5 (bytesRow s (grownCap w s.size 0 5)).size ((bytesRow s (grownCap w s.size 0 5)).size + 1) j
    refine e.trans ?_
    simp only [Bool.and_eq_false_imp, decide_eq_true_eq, decide_eq_false_iff_not]
    omega
set_option maxRecDepth 20000 in
theorem HoldsB.set {g : Nat} {p : List UInt8} {w : World} (h : HoldsB g p w) (k : Nat) (hk : k < p.length) (c : UInt8) : HoldsB g (p.set k c) (w.setCell ⟨g, k, none⟩ (.int .u8 (c.toNat : Int))) := by
  intro j hj
  have hj' : j < p.length := by simpa using hj
  refine ⟨?_, by rw [World.frozen?_setCell]; exact (h j hj').2⟩
  by_cases e : k = j
  · subst e
    rw [World.cell?_setCell_same w _ _ (h k hk).1, List.getElem_set_self]
  · rw [World.cell?_setCell_other w ⟨g, k, none⟩ ⟨g, j, none⟩ _ (by simp), List.getElem_set_ne e]
    exact (h j hj').1
set_option maxRecDepth 20000 in
set_option maxHeartbeats 1000000 in
theorem implLoweredB (s : ByteArray) (w : World) (hs : s.size ≤ 4000000) :
    Calls Tryz.prog 21 #[.string s] w fun e w' => e = .returned (.string ⟨(lower s.data.toList).toArray⟩) ∧ Below w.heap.size w w' := by
  obtain ⟨cap, W, hcv, hh, hbW⟩ := bytesOf (P := Tryz.prog) 9 35 Tryz.underlying9 Tryz.underlying35 Tryz.underlying5 s w
  go_enter Tryz.func21, Tryz.ntmps21
  go_wp2
  clear hcv
  go_loopw [10] (fun i wr => ∃ k : Nat, k ≤ s.size ∧ i = .int .i64 k ∧ HoldsB w.heap.size (lowTo s.data.toList k) wr ∧ Below w.heap.size w wr) (fun i _ => s.size - (Lib.intOf i).toNat)
  case atStart => exact ⟨0, by omega, rfl, by rw [lowTo_zero]; exact hh, hbW⟩
  case round =>
    obtain ⟨k, hk, rfl, hold, hb⟩ := hrel
    have hll : s.data.toList.length = s.size := by simp
    by_cases hlt : k < s.size
    · obtain ⟨hc, hf⟩ := hold k (by rw [lowTo_len]; omega)
      rw [lowTo_get _ _ (by omega)] at hc
      have hset := lowTo_set s.data.toList k (by omega)
      have hsame := lowTo_same s.data.toList k (by omega)
      have hst := fun c => hold.set k (by rw [lowTo_len]; omega) c
      generalize s.data.toList[k] = c at hc hset hsame
      have h8 : c.toNat < 256 := UInt8.toNat_lt _
      by_cases hc1 : 65 ≤ c.toNat ∧ c.toNat ≤ 90
      · have hv := small_yes c hc1
        have hst' := mkH (hst (small c))
        rw [hset, hv] at hst'
        obtain ⟨h65, h90⟩ := hc1
        clear hset hsame hst hold hv hll
        have hb' := hb.setCell (p := ⟨w.heap.size, k, none⟩) (Nat.le_refl _) (.int .u8 ((c.toNat : Int) + 32))
        have hb'' := mkH hb'
        clear hb'
        go_wp2
        rw [show (c.toNat : Int) - 65 + 97 = (c.toNat : Int) + 32 by omega]
        go_roundw
        case rel => exact ⟨k + 1, by omega, by go_num, hst'.out, hb''.out⟩
        case measure => simp [Lib.intOf]; omega
      · have hv := mkH (hsame (small_no c hc1))
        clear hset hsame hst hll
        by_cases h65 : 65 ≤ c.toNat
        · have h90 : 90 < c.toNat := by omega
          clear hc1
          go_wp2
          go_roundw
          case rel => exact ⟨k + 1, by omega, by go_num, by rw [← hv.out]; exact hold, hb⟩
          case measure => simp [Lib.intOf]; omega
        · clear hc1
          go_wp2
          go_roundw
          case rel => exact ⟨k + 1, by omega, by go_num, by rw [← hv.out]; exact hold, hb⟩
          case measure => simp [Lib.intOf]; omega
    · rw [lowTo_all _ _ (by omega)] at hold
      have hlen : (lower s.data.toList).length = s.size := by simp [lower]
      have hbk := hold.back (P := Tryz.prog) (cap := cap) 35 9 Tryz.underlying35 Tryz.underlying5 Tryz.underlying9
      rw [hlen] at hbk
      clear hlen hll hold
      go_wp2
      go_ret
      exact ⟨rfl, hb⟩
set_option maxRecDepth 20000 in
theorem implLowered (s : ByteArray) (w : World) (hs : s.size ≤ 100000) :
    Calls Tryz.prog 21 #[.string s] w fun e w' => e = .returned (.string ⟨(lower s.data.toList).toArray⟩) ∧ Below w.heap.size w w' := implLoweredB s w (by omega)
set_option maxRecDepth 20000 in
set_option maxHeartbeats 400000 in
theorem specSmall (c : UInt8) (w : World) :
    Calls Tryz.prog 12 #[.int .u8 (c.toNat : Int)] w fun e w' => e = .returned (.int .u8 ((small c).toNat : Int)) ∧ w = w' := by
  have h8 : c.toNat < 256 := UInt8.toNat_lt _
  by_cases hc : 65 ≤ c.toNat ∧ c.toNat ≤ 90
  · rw [small_yes c hc]
    obtain ⟨h65, h90⟩ := hc
    go_enter Tryz.func12, Tryz.ntmps12
    go_wp2
    go_ret
    exact ⟨rfl, rfl⟩
  · rw [small_no c hc]
    by_cases h65 : 65 ≤ c.toNat
    · have h90 : 90 < c.toNat := by omega
      clear hc
      go_enter Tryz.func12, Tryz.ntmps12
      go_wp2
      go_ret
      exact ⟨rfl, rfl⟩
    · clear hc
      go_enter Tryz.func12, Tryz.ntmps12
      go_wp2
      go_ret
      exact ⟨rfl, rfl⟩
set_option maxRecDepth 20000 in
set_option maxHeartbeats 400000 in
theorem specLower (s : ByteArray) (w : World) (hs : s.size ≤ 100000) :
    Calls Tryz.prog 54 #[.string s] w fun e w' => e = .returned (.string ⟨(lower s.data.toList).toArray⟩) ∧ Below w.heap.size w w' := by
  obtain ⟨i0, hi, hz0, hz1, hz2⟩ := info_parts Tryz.info5
  go_enter Tryz.func54, Tryz.ntmps54
  go_wp2
  go_loopw [3, 4] (fun v i wr => ∃ k : Nat, k ≤ s.size ∧ i = .int .i64 k ∧ Own w.heap.size v (lower (s.data.toList.take k)) wr ∧ Below w.heap.size w wr) (fun _ i _ => s.size - (Lib.intOf i).toNat)
  case atStart => exact ⟨0, Nat.zero_le _, rfl, Own.made _ _ (Nat.le_refl _), (Below.refl _ _).alloc (Nat.le_refl _) _⟩
  case round =>
    obtain ⟨k, hk, rfl, hown, hb⟩ := hrel
    by_cases hlt : k < s.size
    · have hll : s.data.toList.length = s.size := by simp
      have hlen : (lower (s.data.toList.take k)).length = k := by simp only [lower, List.length_map, List.length_take]; omega
      have hstep : Hid (lower (s.data.toList.take k) ++ [small s[k]] = lower (s.data.toList.take (k + 1))) := by
        rw [List.take_succ_eq_append_getElem (by omega), lower, lower, List.map_append]; exact rfl
      have h8 : (small s[k]).toNat < 256 := UInt8.toNat_lt _
      generalize lower (s.data.toList.take k) = p at *
      clear hll
      go_wp2_with fail
      refine (specSmall s[k] _).mono ?_
      rintro e w2 ⟨rfl, rfl⟩
      generalize small s[k] = c at *
      go_wp2_with (at_builtin; go_must (refine wp_app (W := w) rfl _ _ 35 rfl i0 Tryz.underlying35 hi hz0 hz1 hz2 w.heap.size u3 p rfl hown _ [c] rfl 1 1 rfl rfl (by simp; omega) (Nat.le_refl _) hb ?_; intro v' w' hown' hb'))
      go_roundw
      case rel => exact ⟨k + 1, by omega, by go_num, by rw [← hstep.out]; exact hown', hb'⟩
      case measure => simp [Lib.intOf]; omega
    · rw [List.take_of_length_le (by simp; omega)] at hown
      have hbk := hown.back (P := Tryz.prog) 35 9 Tryz.underlying35 Tryz.underlying5 Tryz.underlying9
      go_wp2
      go_ret
      exact ⟨rfl, hb⟩
end Go.Proofs.YtajkahpkbeobaaaGreatDoor
namespace Go.Proofs.YtajkahpkbeobaaaGreatDoor
open Go.RowKit Go.Lib
def namedB (n m : ByteArray) : Bool := lower n.data.toList == lower m.data.toList
/-- The last place below k that is meant. -/
def lastTo (p : Nat → Bool) : Nat → Option Nat
  | 0 => none
  | k + 1 => if p k then some k else lastTo p k
def atV : Option Nat → Int
  | none => -1
  | some k => k
def nmAt (F : List Fd) (m : ByteArray) (i : Nat) : Bool := if h : i < F.length then namedB F[i].1 m else false
end Go.Proofs.YtajkahpkbeobaaaGreatDoor
namespace Go.Proofs.YtajkahpkbeobaaaGreatDoor
open Go.RowKit Go.Lib Go.Maps
def Tx (B : Nat) (w : World) (o : Option Addr) (ps : List ByteArray) : Prop := ∀ k (h : k < ps.length), ∃ a, o = some a ∧ a.block < B ∧ w.cell? (a.add k) = some (.string ps[k])
set_option maxRecDepth 20000 in
theorem Tx.below {B : Nat} {w w' : World} {o : Option Addr} {ps : List ByteArray} (h : Tx B w o ps) (hb : Below B w w') : Tx B w' o ps := by
  intro k hk
  obtain ⟨a, rfl, ha, hc⟩ := h k hk
  refine ⟨a, rfl, ha, ?_⟩
  rw [← hc]
  have e : (a.add k).block = a.block := by unfold Addr.add; split <;> rfl
  exact hb.cell (by rw [e]; exact ha)
set_option maxRecDepth 20000 in
theorem Tx.mono {B B' : Nat} {w : World} {o : Option Addr} {ps : List ByteArray} (h : Tx B w o ps) (hB : B ≤ B') : Tx B' w o ps := by
  intro k hk
  obtain ⟨a, rfl, ha, hc⟩ := h k hk
  exact ⟨a, rfl, by omega, hc⟩
set_option maxRecDepth 20000 in
theorem Tryz.info9 : (Tryz.prog.info? 9).map (fun i => (i.zero, i.size, i.bytes)) = some (some (.string ByteArray.empty), 1, 16) := by kernel_rfl
def szT : List ByteArray → Nat
  | [] => 0
  | t :: r => t.size + szT r
set_option maxRecDepth 20000 in
theorem szT_drop (F : List ByteArray) (k : Nat) (h : k < F.length) : szT (F.drop k) = F[k].size + szT (F.drop (k + 1)) := by
  rw [List.drop_eq_getElem_cons h]; rfl
set_option maxRecDepth 20000 in
theorem szT_mem : ∀ (F : List ByteArray) (t : ByteArray), t ∈ F → t.size ≤ szT F
  | [], _, h => absurd h (List.not_mem_nil)
  | a :: r, t, h => by
    rcases List.mem_cons.1 h with rfl | h
    · simp [szT]
    · have := szT_mem r t h; simp [szT]; omega
end Go.Proofs.YtajkahpkbeobaaaGreatDoor
namespace Go.Proofs.YtajkahpkbeobaaaGreatDoor
open Go.RowKit Go.Lib Go.Maps
/-- The slice of numbers at o, in blocks below B. -/
def Ints (B : Nat) (w : World) (o : Option Addr) (ps : List Int) : Prop := ∀ k (h : k < ps.length), ∃ a, o = some a ∧ a.block < B ∧ w.cell? (a.add k) = some (.int .i64 ps[k])
set_option maxRecDepth 20000 in
theorem Ints.below {B : Nat} {w w' : World} {o : Option Addr} {ps : List Int} (h : Ints B w o ps) (hb : Below B w w') : Ints B w' o ps := by
  intro k hk
  obtain ⟨a, rfl, ha, hc⟩ := h k hk
  refine ⟨a, rfl, ha, ?_⟩
  rw [← hc]
  have e : (a.add k).block = a.block := by unfold Addr.add; split <;> rfl
  exact hb.cell (by rw [e]; exact ha)
set_option maxRecDepth 20000 in
theorem Ints.mono {B B' : Nat} {w : World} {o : Option Addr} {ps : List Int} (h : Ints B w o ps) (hB : B ≤ B') : Ints B' w o ps := by
  intro k hk
  obtain ⟨a, rfl, ha, hc⟩ := h k hk
  exact ⟨a, rfl, by omega, hc⟩
set_option maxRecDepth 20000 in
theorem Tryz.info2 : (Tryz.prog.info? 2).map (fun i => (i.zero, i.size, i.bytes)) = some (some (.int .i64 0), 1, 8) := by kernel_rfl
end Go.Proofs.YtajkahpkbeobaaaGreatDoor
namespace Go.Proofs.YtajkahpkbeobaaaGreatDoor
open Go.RowKit Go.Lib
set_option maxRecDepth 20000 in
theorem heap_lt {w : World} {b : Nat} {o : Obj} (h : w.heap[b]? = some o) : b < w.heap.size := by
  rw [Array.getElem?_eq_some_iff] at h; exact h.1
set_option maxRecDepth 20000 in
theorem heap_alloc_old (w : World) (o : Obj) (g : Nat) (h : g < w.heap.size) : (w.alloc o).heap[g]? = w.heap[g]? := by
  show (w.heap.push o)[g]? = w.heap[g]?
  simp [Array.getElem?_push]
  omega
set_option maxRecDepth 20000 in
theorem two_cells {w : World} {b : Nat} {x y : Value} {t : TypeId} {z : Nat × Nat} (h : w.heap[b]? = some (.cells #[x, y] t z)) : w.cell? ⟨b, 0, none⟩ = some x ∧ w.cell? ⟨b, 1, none⟩ = some y := by
  constructor <;> simp [World.cell?, h]
set_option maxRecDepth 20000 in
theorem wpL_load_row {P : Program} {w : World} {ops : Array Oper} {rest : List Oper} {o : Oper} {a : Act} {Q : Exit → Act → World → Prop} (hg : o.guard = none) (ty : TypeId) (x : Operand) (ho : o.op = .load ty x)
    (g : Nat) (cs : Array Value) (t : TypeId) (fr : Nat × Nat) (d : TypeDesc) (hx : a.eval x = .pointer (some ⟨g, 0, none⟩)) (hgp : w.heap[g]? = some (.cells cs t fr))
    (hu : P.underlying ty = some d) (hd : (match d with | .struct _ | .array _ _ => true | _ => false) = true) (hi : (P.info? ty).map (·.size) = some cs.size)
    (h : wpList P ops Q rest (a.put o.dst (.agg cs)) w) : wpList P ops Q (o :: rest) a w := by
  refine wpList_plain hg fun K' hK' => ?_
  unfold Oper.wp execOp
  simp only [ho, hx, Instr.loadAt, Instr.sureAddr, Sem.run_bind, Sem.run_pure, Result.andThen_ok, run_loadVar_row w g t ty cs fr d hgp hu hd hi]
  exact hK' _ _ h
set_option maxRecDepth 20000 in
theorem wpL_store_row {P : Program} {w : World} {ops : Array Oper} {rest : List Oper} {o : Oper} {a : Act} {Q : Exit → Act → World → Prop} (hg : o.guard = none) (ty : TypeId) (x y : Operand) (ho : o.op = .store ty x y)
    (g : Nat) (cells : Array Value) (hx : a.eval x = .pointer (some ⟨g, 0, none⟩)) (hy : a.eval y = .agg cells)
    (t : TypeId) (old : Array Value) (hgp : w.heap[g]? = some (.cells old t (0, 0))) (hi : (P.info? ty).map (·.size) = some cells.size)
    (hold : old.size = cells.size) (h1 : cells.all (·.oneCell') = true)
    (h : wpList P ops Q rest (a.put o.dst undef) (w.setRow g cells)) : wpList P ops Q (o :: rest) a w := by
  refine wpList_plain hg fun K' hK' => ?_
  exact wp_store_row ty x y ho g cells hx hy t old hgp hi hold h1 (hK' _ _ h)
set_option maxRecDepth 20000 in
theorem grown_setRow (w : World) (g : Nat) (cs : Array Value) : w.grownBy (w.setRow g cs) (some g) :=
  ⟨rfl, rfl, rfl, by simp, fun i _ hi => setRow_other w g i cs (fun e => hi (by rw [e]))⟩
end Go.Proofs.YtajkahpkbeobaaaGreatDoor
namespace Go.Proofs.YtajkahpkbeobaaaGreatDoor
open Go.RowKit Go.Lib Go.Maps
set_option maxRecDepth 20000 in
theorem add_blockG (a : Addr) (n : Nat) : (a.add n).block = a.block := by unfold Addr.add; split <;> rfl
/-- The blocks from lo on and below hi are the same. -/
def Same (lo hi : Nat) (w w' : World) : Prop := ∀ k, lo ≤ k → k < hi → w'.heap[k]? = w.heap[k]?
set_option maxRecDepth 20000 in
theorem Same.cell {lo hi : Nat} {w w' : World} (h : Same lo hi w w') {p : Addr} (h1 : lo ≤ p.block) (h2 : p.block < hi) : w'.cell? p = w.cell? p := World.cell?_of_block (w := w) (h p.block h1 h2)
set_option maxRecDepth 20000 in
theorem Same.of_below {lo hi B : Nat} {w w' : World} (h : Below B w w') (hB : hi ≤ B) : Same lo hi w w' := fun k _ h2 => h.block k (Nat.lt_of_lt_of_le h2 hB)
set_option maxRecDepth 20000 in
theorem Same.gr {lo hi g : Nat} {w w' : World} (h : w.grownBy w' (some g)) (hg : g < lo) (hh : hi ≤ w.heap.size) : Same lo hi w w' := fun k h1 h2 => h.block k (Nat.lt_of_lt_of_le h2 hh) (by intro e; cases e; omega)
set_option maxRecDepth 20000 in
theorem grG_trans {a b c : World} {r : Option Nat} (h : a.grownBy b r) (k : b.grownBy c r) : a.grownBy c r :=
  ⟨k.os.trans h.os, k.tape.trans h.tape, k.output.trans h.output, Nat.le_trans h.size k.size, fun i hi hr => (k.block i (Nat.lt_of_lt_of_le hi h.size) hr).trans (h.block i hi hr)⟩
set_option maxRecDepth 20000 in
theorem hp_setG (w : World) (g j k : Nat) (v : Value) (h : g ≠ k) : (w.setCell ⟨g, j, none⟩ v).heap[k]? = w.heap[k]? := by
  simp [World.setCell, Array.getElem?_modify, h]
set_option maxRecDepth 20000 in
theorem grG_set (w : World) (g j : Nat) (v : Value) : w.grownBy (w.setCell ⟨g, j, none⟩ v) (some g) :=
  ⟨rfl, rfl, rfl, by simp [World.setCell], fun k _ hr => hp_setG _ _ _ _ _ (fun e => hr (by rw [e]))⟩
/-- All blocks from lo on are cells, and none of them is frozen. -/
def Soft (lo : Nat) (w : World) : Prop := ∀ k, lo ≤ k → k < w.heap.size → ∃ cs t, w.heap[k]? = some (.cells cs t (0, 0))
set_option maxRecDepth 20000 in
theorem Soft.refl (w : World) : Soft w.heap.size w := fun k h1 h2 => by omega
set_option maxRecDepth 20000 in
theorem Soft.alloc {lo : Nat} {w : World} (h : Soft lo w) (cs : Array Value) (t : TypeId) : Soft lo (w.alloc (.cells cs t)) := by
  intro k h1 h2
  by_cases hk : k < w.heap.size
  · rw [heap_alloc_old _ _ _ hk]
    exact h k h1 hk
  · rw [World.size_alloc] at h2
    have : k = w.heap.size := by omega
    rw [this]
    exact ⟨cs, t, heap_alloc_at _ _⟩
set_option maxRecDepth 20000 in
theorem Soft.set {lo : Nat} {w : World} (h : Soft lo w) (g j : Nat) (v : Value) : Soft lo (w.setCell ⟨g, j, none⟩ v) := by
  intro k h1 h2
  have h3 : k < w.heap.size := by simpa [World.setCell] using h2
  obtain ⟨cs, t, e⟩ := h k h1 h3
  by_cases hg : g = k
  · subst hg
    exact ⟨_, t, by simp [World.setCell, Array.getElem?_modify, e]; rfl⟩
  · rw [hp_setG _ _ _ _ _ hg]
    exact ⟨cs, t, e⟩
set_option maxRecDepth 20000 in
theorem Soft.setRow {lo : Nat} {w : World} (h : Soft lo w) (g : Nat) (cs : Array Value) : Soft lo (w.setRow g cs) := by
  intro k h1 h2
  have h3 : k < w.heap.size := by simpa using h2
  obtain ⟨c0, t, e⟩ := h k h1 h3
  by_cases hg : k = g
  · subst hg
    exact ⟨cs, t, setRow_heap _ _ _ _ _ _ e⟩
  · rw [setRow_other w g k cs hg]
    exact ⟨c0, t, e⟩
set_option maxRecDepth 20000 in
theorem Soft.call {lo : Nat} {w w' : World} (h : Soft lo w) (hb : Below w.heap.size w w') (h' : Soft w.heap.size w') : Soft lo w' := by
  intro k h1 h2
  by_cases hk : k < w.heap.size
  · rw [hb.block k hk]
    exact h k h1 hk
  · exact h' k (by omega) h2
set_option maxRecDepth 20000 in
theorem three_blocks {w V : World} {G : Nat} {o1 o2 o3 : Obj} (hG : w.heap.size = G) (hV : V = ((w.alloc o1).alloc o2).alloc o3) : Below G w V ∧ G + 3 ≤ V.heap.size ∧ V.heap[G]? = some o1 ∧ V.heap[G + 1]? = some o2 ∧ V.heap[G + 1 + 1]? = some o3 := by
  subst hV hG
  refine ⟨(((Below.refl _ _).alloc (Nat.le_refl _) _).alloc (by simp) _).alloc (by simp; omega) _, by simp, ?_, ?_, ?_⟩
  · rw [heap_alloc_old _ _ _ (by simp; omega), heap_alloc_old _ _ _ (by simp)]
    exact heap_alloc_at _ _
  · rw [heap_alloc_old _ _ _ (by simp)]
    have := heap_alloc_at (w.alloc o1) o2
    rw [World.size_alloc] at this
    exact this
  · have := heap_alloc_at ((w.alloc o1).alloc o2) o3
    rw [World.size_alloc, World.size_alloc] at this
    exact this
set_option maxRecDepth 20000 in
theorem two_blocks {w V : World} {o1 o2 : Obj} (hV : V = (w.alloc o1).alloc o2) : Below w.heap.size w V ∧ w.heap.size + 2 ≤ V.heap.size ∧ V.heap[w.heap.size]? = some o1 ∧ V.heap[w.heap.size + 1]? = some o2 := by
  subst hV
  refine ⟨((Below.refl _ _).alloc (Nat.le_refl _) _).alloc (by simp) _, by simp, ?_, ?_⟩
  · rw [heap_alloc_old _ _ _ (by simp)]
    exact heap_alloc_at _ _
  · have := heap_alloc_at (w.alloc o1) o2
    rw [World.size_alloc] at this
    exact this
set_option maxRecDepth 20000 in
theorem prod_le {n b : Nat} (h : n ≤ 1048576) (hb : b ≤ 400) : n * b ≤ 140737488351232 := Nat.le_trans (Nat.mul_le_mul h hb) (by decide)
def TxL (lo hi : Nat) (w : World) (o : Option Addr) (F : List ByteArray) : Prop := ∀ i (h : i < F.length), ∃ a, o = some a ∧ lo ≤ a.block ∧ a.block < hi ∧ w.cell? (a.add i) = some (.string F[i])
def InL (lo hi : Nat) (w : World) (o : Option Addr) (F : List Int) : Prop := ∀ i (h : i < F.length), ∃ a, o = some a ∧ lo ≤ a.block ∧ a.block < hi ∧ w.cell? (a.add i) = some (.int .i64 F[i])
set_option maxRecDepth 20000 in
theorem TxL.same {lo hi : Nat} {w w' : World} {o : Option Addr} {F : List ByteArray} (h : TxL lo hi w o F) (hs : Same lo hi w w') : TxL lo hi w' o F := by
  intro i hi
  obtain ⟨a, ho, h1, h2, h3⟩ := h i hi
  exact ⟨a, ho, h1, h2, (hs.cell (by rw [add_blockG]; exact h1) (by rw [add_blockG]; exact h2)).trans h3⟩
set_option maxRecDepth 20000 in
theorem InL.same {lo hi : Nat} {w w' : World} {o : Option Addr} {F : List Int} (h : InL lo hi w o F) (hs : Same lo hi w w') : InL lo hi w' o F := by
  intro i hi
  obtain ⟨a, ho, h1, h2, h3⟩ := h i hi
  exact ⟨a, ho, h1, h2, (hs.cell (by rw [add_blockG]; exact h1) (by rw [add_blockG]; exact h2)).trans h3⟩
set_option maxRecDepth 20000 in
theorem TxL.mono {lo lo' hi hi' : Nat} {w : World} {o : Option Addr} {F : List ByteArray} (h : TxL lo hi w o F) (hl : lo' ≤ lo) (hh : hi ≤ hi') : TxL lo' hi' w o F := by
  intro i hi
  obtain ⟨a, ho, h1, h2, h3⟩ := h i hi
  exact ⟨a, ho, Nat.le_trans hl h1, Nat.lt_of_lt_of_le h2 hh, h3⟩
set_option maxRecDepth 20000 in
theorem InL.mono {lo lo' hi hi' : Nat} {w : World} {o : Option Addr} {F : List Int} (h : InL lo hi w o F) (hl : lo' ≤ lo) (hh : hi ≤ hi') : InL lo' hi' w o F := by
  intro i hi
  obtain ⟨a, ho, h1, h2, h3⟩ := h i hi
  exact ⟨a, ho, Nat.le_trans hl h1, Nat.lt_of_lt_of_le h2 hh, h3⟩
set_option maxRecDepth 20000 in
theorem TxL.below {lo hi B : Nat} {w w' : World} {o : Option Addr} {F : List ByteArray} (h : TxL lo hi w o F) (hb : Below B w w') (hB : hi ≤ B) : TxL lo hi w' o F := h.same (Same.of_below hb hB)
set_option maxRecDepth 20000 in
theorem InL.below {lo hi B : Nat} {w w' : World} {o : Option Addr} {F : List Int} (h : InL lo hi w o F) (hb : Below B w w') (hB : hi ≤ B) : InL lo hi w' o F := h.same (Same.of_below hb hB)
set_option maxRecDepth 20000 in
theorem TxL.tx {lo hi : Nat} {w : World} {o : Option Addr} {F : List ByteArray} (h : TxL lo hi w o F) : Tx hi w o F := fun i hi => let ⟨a, ho, _, h2, h3⟩ := h i hi; ⟨a, ho, h2, h3⟩
set_option maxRecDepth 20000 in
theorem InL.ints {lo hi : Nat} {w : World} {o : Option Addr} {F : List Int} (h : InL lo hi w o F) : Ints hi w o F := fun i hi => let ⟨a, ho, _, h2, h3⟩ := h i hi; ⟨a, ho, h2, h3⟩
end Go.Proofs.YtajkahpkbeobaaaGreatDoor
namespace Go.Proofs.YtajkahpkbeobaaaGreatDoor
open Go.RowKit Go.Lib Go.Maps
def strCellsX (P : List ByteArray) : List Value := P.map .string
/-- The slice v, whose array is among the blocks from B on, holds just the texts P. -/
def OwnX (B : Nat) (v : Value) (P : List ByteArray) (w : World) : Prop := w.ownsRow B 9 1 v P.length (strCellsX P)
set_option maxRecDepth 20000 in
theorem OwnX.nil (B : Nat) (w : World) : OwnX B (.slice none 0 0) [] w := World.ownsRow_nil w B 9 1
set_option maxRecDepth 20000 in
theorem OwnX.shape {B : Nat} {v : Value} {P : List ByteArray} {w : World} (h : OwnX B v P w) : ∃ o cap, v = .slice o P.length cap := by
  rcases h.2 with ⟨rfl, h0⟩ | ⟨g, cap, cur, rfl, -⟩
  · exact ⟨none, 0, by rw [h0]⟩
  · exact ⟨_, cap, rfl⟩
set_option maxRecDepth 20000 in
theorem OwnX.txL {B : Nat} {o : Option Addr} {cap : Nat} {P : List ByteArray} {w : World} (h : OwnX B (.slice o P.length cap) P w) : TxL B w.heap.size w o P := by
  intro i hi
  have hl := World.ownsRow.lt h
  rcases h.2 with ⟨h1, h0⟩ | ⟨g, cap', cur, h1, hB, -⟩
  · omega
  · simp only [Value.slice.injEq] at h1
    obtain ⟨rfl, -⟩ := h1
    exact ⟨_, rfl, hB, (hl g rfl).2, World.ownsRow.cells h (g := g) rfl i _ (by simp [strCellsX, hi])⟩
set_option maxRecDepth 20000 in
theorem OwnX.keep {B : Nat} {v : Value} {P : List ByteArray} {w w' : World} {row : Option Nat} (h : OwnX B v P w) (hg : w.grownBy w' row) (hne : v.ownBlock = none ∨ v.ownBlock ≠ row) : OwnX B v P w' := World.ownsRow.kept h hg hne
set_option maxRecDepth 20000 in
theorem OwnX.below {B : Nat} {v : Value} {P : List ByteArray} {w w' : World} (h : OwnX B v P w) (hb : Below w.heap.size w w') : OwnX B v P w' := World.ownsRow.kept h (row := none) ⟨hb.os, hb.tape, hb.output, hb.size, fun k hk _ => hb.block k hk⟩ (by
  cases hv : v.ownBlock with
  | none => exact .inl rfl
  | some k => exact .inr (by simp))
set_option maxRecDepth 20000 in
theorem Tryz.info9X : (Tryz.prog.info? 9).map (fun i => (i.zero, i.size, i.bytes)) = some (some (.string ⟨#[]⟩), 1, 16) := by kernel_rfl
set_option maxRecDepth 20000 in
theorem wp_appX {w : World} {ops : Array Oper} {rest : List Oper} {o : Oper} {a : Act} {Q : Exit → Act → World → Prop} (hgd : o.guard = none) (s x : Operand)
    (ho : o.op = .call { callee := .builtin .append, args := #[s, x], argTypes := #[28, 28] })
    (B : Nat) (v : Value) (C : List ByteArray) (hs : a.eval s = v) (hown : OwnX B v C w) (u : ByteArray)
    (c : Nat) (hx : a.eval x = .slice (some ⟨w.heap.size, 0, none⟩) 1 c) (hlen : C.length ≤ 1000000) (hB : B ≤ w.heap.size)
    (h : ∀ v' w', OwnX B v' (C ++ [u]) w' → (w.alloc (.cells #[.string u] 9)).grownBy w' v.ownBlock → wpList Tryz.prog ops Q rest (a.put o.dst v') w') : wpList Tryz.prog ops Q (o :: rest) a (w.alloc (.cells #[.string u] 9)) := by
  obtain ⟨i0, hi0, hz0, hz1, hz2⟩ := info_parts Tryz.info9X
  unfold OwnX at hown
  refine wpList_append_own _ hgd s x 28 ho B 9 i0 (.string ⟨#[]⟩) 1 16 Tryz.underlying28 hi0 hz0 hz1 hz2 rfl (by decide) v C.length (strCellsX C) hs (World.ownsRow.alloc hown _) ⟨w.heap.size, 0, none⟩ 1 c [.string u] hx
    rfl ?_ ?_ (by unfold maxLen; omega) (by omega) (by simp; omega) ?_
  · intro j y hj
    rw [add_off]
    match j, hj with
    | 0, hj => simp at hj; subst hj; simp
  · intro y hy
    simp at hy
    subst hy
    rfl
  · intro v' w' h1 h2 _
    refine h v' w' ?_ h2
    unfold OwnX strCellsX
    rw [List.map_append, List.length_append]
    exact h1
set_option maxRecDepth 20000 in
theorem OwnX.made (B : Nat) (w : World) (hB : B ≤ w.heap.size) : OwnX B (.slice (some ⟨w.heap.size, 0, none⟩) 0 0) [] (w.alloc (.cells #[] 9)) :=
  ⟨rfl, .inr ⟨w.heap.size, 0, #[], rfl, hB, heap_alloc_at _ _, Nat.le_refl _, Nat.zero_le _, rfl, rfl⟩⟩
end Go.Proofs.YtajkahpkbeobaaaGreatDoor
namespace Go.Proofs.YtajkahpkbeobaaaGreatDoor
open Go.RowKit Go.Lib Go.Maps
/-- The values of the fields of a name. -/
def Sj.named (F : List Fd) (m : ByteArray) : List ByteArray := (F.filter fun f => namedB f.1 m).map (·.2)
set_option maxRecDepth 20000 in
theorem Sj.named_take (F : List Fd) (m : ByteArray) (k : Nat) (h : k < F.length) : Sj.named (F.take (k + 1)) m = Sj.named (F.take k) m ++ (if namedB F[k].1 m then [F[k].2] else []) := by
  unfold Sj.named
  rw [List.take_succ_eq_append_getElem h, List.filter_append, List.map_append]
  congr 1
  cases hb : namedB F[k].1 m
  · simp [hb]
  · simp [hb]
set_option maxRecDepth 20000 in
theorem Sj.named_len (F : List Fd) (m : ByteArray) (k : Nat) : (Sj.named (F.take k) m).length ≤ k := by
  unfold Sj.named
  rw [List.length_map]
  refine Nat.le_trans (List.length_filter_le _ _) ?_
  rw [List.length_take]
  omega
set_option maxRecDepth 20000 in
theorem specSameS (n m : ByteArray) (w : World) (hn : n.size ≤ 100000) (hm : m.size ≤ 100000) :
    Calls Tryz.prog 30 #[.string n, .string m] w fun e w' => e = .returned (.bool (namedB n m)) ∧ Below w.heap.size w w' := by
  have hA := fun w => specLower n w hn
  have hB := fun w => specLower m w hm
  have HE : Hid (namedB n m = ((⟨(lower n.data.toList).toArray⟩ : ByteArray).data.toList == (⟨(lower m.data.toList).toArray⟩ : ByteArray).data.toList)) := rfl
  generalize (⟨(lower n.data.toList).toArray⟩ : ByteArray) = ta at *
  generalize (⟨(lower m.data.toList).toArray⟩ : ByteArray) = tb at *
  have HA := (show Hid _ from hA)
  have HB := (show Hid _ from hB)
  clear hA hB
  go_enter Tryz.func30, Tryz.ntmps30
  go_wp2_with fail
  refine (HA.out _).mono ?_
  rintro e w1 ⟨rfl, hb1⟩
  go_wp2_with fail
  refine (HB.out _).mono ?_
  rintro e w2 ⟨rfl, hb2⟩
  have hbq := hb1.trans (hb2.mono hb1.size)
  go_wp2
  go_ret
  rw [HE.out, ← ByteArray.toList_eq, ← ByteArray.toList_eq]
  exact ⟨rfl, hbq⟩
set_option maxRecDepth 20000 in
theorem Sj.namedB_size (n m : ByteArray) (h : n.size ≠ m.size) : namedB n m = false := by
  unfold namedB
  rw [beq_eq_false_iff_ne]
  intro e
  have := congrArg List.length e
  simp [lower] at this
  exact h this
set_option maxRecDepth 20000 in
theorem Sj.appBelow {B : Nat} {w W W2 : World} {u : ByteArray} {v : Value} {C : List ByteArray} (hb : Below B w W) (hw : B ≤ w.heap.size) (ho : OwnX B v C W) (hg : (W.alloc (.cells #[.string u] 9)).grownBy W2 v.ownBlock) : Below B w W2 := by
  have hs := hb.size
  exact (hb.alloc (by omega) _).grown hg (by simp; omega) (fun k hk => (World.ownsRow.lt ho k hk).1)
set_option maxRecDepth 40000 in
set_option maxHeartbeats 4000000 in
theorem specFindField (o : Option Addr) (F : List Fd) (cap : Nat) (m : ByteArray) (w : World) (hF : Fld w.heap.size w o F) (hlen : F.length ≤ 200) (hsz : ∀ f ∈ F, f.1.size ≤ 100000) (hm : m.size ≤ 70) :
    Calls Tryz.prog 7 #[.slice o F.length cap, .string m] w fun e w' => ∃ v, e = .returned v ∧ OwnX w.heap.size v (Sj.named F m) w' ∧ Below w.heap.size w w' := by
  have HF : Hid (Fld w.heap.size w o F) := hF
  have Hsz : Hid (∀ f ∈ F, f.1.size ≤ 100000) := hsz
  have g200 : ¬ (200 : Int) < (F.length : Int) := by omega
  have g70 : ¬ (70 : Int) < (m.size : Int) := by omega
  obtain ⟨R, hR⟩ : ∃ R, R = Sj.named F m := ⟨_, rfl⟩
  rw [← hR]
  have HR : Hid (R = Sj.named F m) := hR
  clear hF hsz hR
  go_enter Tryz.func7, Tryz.ntmps7
  go_wp2
  go_loopw [5, 6] (fun v i wr => ∃ (k : Nat) (C : List ByteArray), k ≤ F.length ∧ i = .int .i64 k ∧ Hid (C = Sj.named (F.take k) m) ∧ OwnX w.heap.size v C wr ∧ Below w.heap.size w wr) (fun _ i _ => F.length - (Lib.intOf i).toNat)
  case atStart => exact ⟨0, [], Nat.zero_le _, rfl, rfl, OwnX.made _ _ (Nat.le_refl _), (Below.refl _ _).alloc (Nat.le_refl _) _⟩
  case round =>
    obtain ⟨k, C, hk, rfl, hC, hown, hb⟩ := hrel
    by_cases hlt : k < F.length
    · obtain ⟨a, rfl, ha, hc0, hc1⟩ := (HF.out.below hb) k hlt
      have hfs := Hsz.out F[k] (List.getElem_mem hlt)
      have hst := mkHid (Sj.named_take F m k hlt)
      have hCl : C.length ≤ 200 := by rw [hC.out]; have := Sj.named_len F m k; omega
      generalize F[k] = f at *
      have hne := Sj.namedB_size f.1 m
      have hS := fun w => specSameS f.1 m w hfs (by omega)
      cases hnb : namedB f.1 m
      · have hC2 : Hid (C = Sj.named (F.take (k + 1)) m) := by
          show _ = _
          rw [hst.out, hnb, hC.out]
          simp
        rw [hnb] at hS
        have HS := mkHid hS
        clear hne hst hC hnb hS HR
        by_cases he : f.1.size = m.size
        · have he2 : ((f.1.size : Int) == (m.size : Int)) = true := by rw [he]; simp
          have He := mkHid he
          clear he
          go_wp2_with (go_at_call 30; go_must (refine (HS.out _).mono ?_; rintro e w1 ⟨rfl, hb1⟩))
          have hbq := mkHid (hb.trans (hb1.mono hb.size))
          have ho2 := mkHid (hown.below hb1)
          clear hb1
          go_wp2
          go_roundw
          case rel => exact ⟨k + 1, C, by omega, by go_num, hC2, ho2.out, hbq.out⟩
          case measure => simp [Lib.intOf]; omega
        · have he2 : ((f.1.size : Int) == (m.size : Int)) = false := by simp; omega
          have He := mkHid he
          clear he
          go_wp2
          go_roundw
          case rel => exact ⟨k + 1, C, by omega, by go_num, hC2, hown, hb⟩
          case measure => simp [Lib.intOf]; omega
      · have hC2 : Hid (C ++ [f.2] = Sj.named (F.take (k + 1)) m) := by
          show _ = _
          rw [hst.out, hnb, hC.out]
          simp
        have he : f.1.size = m.size := by
          apply Classical.byContradiction
          intro h
          rw [hne h] at hnb
          cases hnb
        have he2 : ((f.1.size : Int) == (m.size : Int)) = true := by rw [he]; simp
        rw [hnb] at hS
        have HS := mkHid hS
        clear hne hst hC hnb hS HR he
        have HC1 := mkHid (hc1)
        clear hc1
        go_wp2_with fail
        refine (HS.out _).mono ?_
        rintro e w1 ⟨rfl, hb1⟩
        have hbq := mkHid (hb.trans (hb1.mono hb.size))
        have ho2 := mkHid (hown.below hb1)
        have hc1 := (hbq.out.cell (p := ⟨(a.add (k * 2)).block, (a.add (k * 2)).off + 1, none⟩) (by rw [add_block]; exact ha))
        have hz1 := hbq.out.size
        have hq1 := (hb.cell (p := ⟨(a.add (k * 2)).block, (a.add (k * 2)).off + 1, none⟩) (by rw [add_block]; exact ha)).symm.trans HC1.out
        rw [hq1] at hc1
        clear hb1 hq1 HC1 hc0
        go_wp2_with (at_builtin; go_must (refine wp_appX rfl _ _ rfl w.heap.size u5 C rfl ho2.out f.2 1 rfl (by omega) (by omega) ?_; intro y10 w10 hown10 hg10; have hb10 := mkHid (Sj.appBelow hbq.out (Nat.le_refl _) ho2.out hg10); have hown10 := mkHid hown10))
        go_roundw
        case rel => exact ⟨k + 1, C ++ [f.2], by omega, by go_num, hC2, hown10.out, hb10.out⟩
        case measure => simp [Lib.intOf]; omega
    · go_wp2
      go_ret
      have e : C = R := by rw [hC.out, HR.out, List.take_of_length_le (by omega)]
      exact ⟨_, rfl, e ▸ hown, hb⟩
set_option maxRecDepth 40000 in
set_option maxHeartbeats 4000000 in
theorem implFindField (o : Option Addr) (F : List Fd) (cap : Nat) (m : ByteArray) (w : World) (hF : Fld w.heap.size w o F) (hlen : F.length ≤ 200) (hsz : ∀ f ∈ F, f.1.size ≤ 100000 ∧ f.2.size ≤ 100000) (hm : m.size ≤ 70) :
    Calls Tryz.prog 16 #[.slice o F.length cap, .string m] w fun e w' => ∃ v, e = .returned v ∧ OwnX w.heap.size v (Sj.named F m) w' ∧ Below w.heap.size w w' := by
  have HF : Hid (Fld w.heap.size w o F) := hF
  have Hsz : Hid (∀ f ∈ F, f.1.size ≤ 100000 ∧ f.2.size ≤ 100000) := hsz
  have g200 : ¬ (200 : Int) < (F.length : Int) := by omega
  have tF : ∀ (s : ByteArray) (W : World), s.size ≤ 100000 → Calls Tryz.prog 35 #[.string s] W fun e w' => e = .returned (.bool false) ∧ W = w' := fun s W hs => by
    have := implTooLong s W (by omega)
    rwa [decide_eq_false (show ¬ (100000 : Int) < (s.size : Int) by omega)] at this
  have hT := mkHid (fun W => tF m W (by omega))
  have hL := mkHid (fun W => implLowered m W (by omega))
  obtain ⟨R, hR⟩ : ∃ R, R = Sj.named F m := ⟨_, rfl⟩
  rw [← hR]
  have HR : Hid (R = Sj.named F m) := hR
  obtain ⟨tm, htm⟩ : ∃ t : ByteArray, t = ⟨(lower m.data.toList).toArray⟩ := ⟨_, rfl⟩
  rw [← htm] at hL
  have Htm := mkHid htm
  have HT := mkHid tF
  clear hF hsz hR htm tF
  go_enter Tryz.func16, Tryz.ntmps16
  go_wp2_with (go_at_call 35; go_must (refine (hT.out _).mono ?_; rintro e w1 ⟨rfl, rfl⟩))
  go_wp2_with (go_at_call 21; go_must (refine (hL.out _).mono ?_; rintro e w2 ⟨rfl, hb2⟩))
  go_wp2
  go_loopw [5, 19] (fun v i wr => ∃ (k : Nat) (C : List ByteArray), k ≤ F.length ∧ i = .int .i64 k ∧ Hid (C = Sj.named (F.take k) m) ∧ OwnX w.heap.size v C wr ∧ Below w.heap.size w wr) (fun _ i _ => F.length - (Lib.intOf i).toNat)
  case atStart => exact ⟨0, [], Nat.zero_le _, rfl, rfl, OwnX.nil _ _, hb2⟩
  case round =>
    obtain ⟨k, C, hk, rfl, hC, hown, hb⟩ := hrel
    clear hT hL
    by_cases hlt : k < F.length
    · obtain ⟨a, rfl, ha, hc0, hc1⟩ := (HF.out.below hb) k hlt
      obtain ⟨hf1, hf2⟩ := Hsz.out F[k] (List.getElem_mem hlt)
      have hst := mkHid (Sj.named_take F m k hlt)
      have hCl : C.length ≤ 200 := by rw [hC.out]; have := Sj.named_len F m k; omega
      generalize F[k] = f at *
      obtain ⟨n, v⟩ := f
      replace hf1 : n.size ≤ 100000 := hf1
      replace hf2 : v.size ≤ 100000 := hf2
      have hA := fun W => implLowered n W hf1
      have h1 := mkHid (fun W => HT.out n W hf1)
      have h2 := mkHid (fun W => HT.out v W hf2)
      have hCv := mkHid (fun W => libClone v W (by omega))
      have HE : Hid (namedB n m = ((⟨(lower n.data.toList).toArray⟩ : ByteArray).data.toList == tm.data.toList)) := by
        show _ = _
        rw [Htm.out]
        rfl
      generalize (⟨(lower n.data.toList).toArray⟩ : ByteArray) = tn at *
      have HA := mkHid hA
      obtain ⟨W, hW⟩ : ∃ W, W = wr.alloc (.cells #[.string n, .string v] 48) := ⟨_, rfl⟩
      have hbW := mkHid (show Below w.heap.size w W from by rw [hW]; exact hb.alloc hb.size _)
      have hoW : OwnX w.heap.size u5 C W := by rw [hW]; exact hown.below ((Below.refl _ _).alloc (Nat.le_refl _) _)
      have hgW := hbW.out.size
      have hgs : wr.heap.size < W.heap.size := by rw [hW]; simp
      have q0 : W.cell? ⟨wr.heap.size, 0, none⟩ = some (.string n) := by rw [hW]; simp
      have q1 : W.cell? ⟨wr.heap.size, 1, none⟩ = some (.string v) := by rw [hW]; simp
      cases hnb : namedB n m
      · have hC2 : Hid (C = Sj.named (F.take (k + 1)) m) := by
          show _ = _
          rw [hst.out, hnb, hC.out]
          simp
        have hEq : (tn.toList == tm.toList) = false := by
          rw [ByteArray.toList_eq, ByteArray.toList_eq, ← HE.out]; exact hnb
        clear hA hst hC hnb HE HR Htm hCv hown
        have HoW := mkHid hoW
        clear hoW
        go_wp2_with fail
        rw [← hW]
        clear hW
        go_wp2_with (go_at_call 35; go_must (first | (refine (h1.out _).mono ?_; rintro e w1 ⟨rfl, rfl⟩) | (refine (h2.out _).mono ?_; rintro e w1 ⟨rfl, rfl⟩)))
        refine (HA.out _).mono ?_
        rintro e w3 ⟨rfl, hb3⟩
        have hbq := mkHid (hbW.out.trans (hb3.mono hgW))
        have ho3 := mkHid (HoW.out.below hb3)
        clear hb3
        go_wp2
        go_roundw
        case rel => exact ⟨k + 1, C, by omega, by go_num, hC2, ho3.out, hbq.out⟩
        case measure => simp [Lib.intOf]; omega
      · have hC2 : Hid (C ++ [v] = Sj.named (F.take (k + 1)) m) := by
          show _ = _
          rw [hst.out, hnb, hC.out]
          simp
        have hEq : (tn.toList == tm.toList) = true := by
          rw [ByteArray.toList_eq, ByteArray.toList_eq, ← HE.out]; exact hnb
        clear hA hst hC hnb HE HR Htm hown
        have HoW := mkHid hoW
        clear hoW
        go_wp2_with fail
        rw [← hW]
        clear hW
        go_wp2_with (go_at_call 35; go_must (first | (refine (h1.out _).mono ?_; rintro e w1 ⟨rfl, rfl⟩) | (refine (h2.out _).mono ?_; rintro e w1 ⟨rfl, rfl⟩)))
        refine (HA.out _).mono ?_
        rintro e w3 ⟨rfl, hb3⟩
        have q3 := (hb3.cell (p := ⟨wr.heap.size, 1, none⟩) hgs).trans q1
        have hbq := mkHid (hbW.out.trans (hb3.mono hgW))
        have ho3 := mkHid (HoW.out.below hb3)
        clear q0 q1 hb3
        go_wp2_with fail
        refine (hCv.out _).mono ?_
        rintro e w4 ⟨rfl, hb4⟩
        have hz3 := hbq.out.size
        have hbq4 := mkHid (hbq.out.trans (hb4.mono hz3))
        have ho4 := mkHid (ho3.out.below hb4)
        have hz4 := hbq4.out.size
        clear hb4 q3
        go_wp2_with (at_builtin; go_must (refine wp_appX rfl _ _ rfl w.heap.size u5 C rfl ho4.out v 1 rfl (by omega) (by omega) ?_; intro y10 w10 hown10 hg10; have hb10 := mkHid (Sj.appBelow hbq4.out (Nat.le_refl _) ho4.out hg10); have hown10 := mkHid hown10))
        go_roundw
        case rel => exact ⟨k + 1, C ++ [v], by omega, by go_num, hC2, hown10.out, hb10.out⟩
        case measure => simp [Lib.intOf]; omega
    · go_wp2
      go_ret
      have e : C = R := by rw [hC.out, HR.out, List.take_of_length_le (by omega)]
      exact ⟨_, rfl, e ▸ hown, hb⟩
end Go.Proofs.YtajkahpkbeobaaaGreatDoor
