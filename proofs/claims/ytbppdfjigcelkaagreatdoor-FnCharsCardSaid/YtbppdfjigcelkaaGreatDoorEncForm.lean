
/- The set latin9 as the program makes it: two maps, the second one filled by ranging over the first. -/

/- Lists of numbers that are handed in; plain mathematics of Encode. -/

/- The sets of characters as values of the program. -/

/- A point's bytes in each of the sets: the specification's side. -/
import Derived.Test.YtbppdfjigcelkaaGreatDoorChecked
import Derived.Test.YtbppdfjigcelkaaGreatDoorBytes
import Derived.Test.YtbppdfjigcelkaaGreatDoorShelf
import Derived.WalkKit
import Derived.WalkLawsBesides
import Derived.WalkSpells
import Derived.Test.YtbppdfjigcelkaaGreatDoorNinePlain
import Derived.Maps.RangeWalk
import Derived.Maps.Ext
import Derived.Maps.OwnSet
import Derived.Laws.OwnMore
import Derived.Laws.MakeOwn
namespace Go.Proofs.YtbppdfjigcelkaaGreatDoor
open Go.RowKit Go.Lib Go.Maps
set_option maxRecDepth 20000 in
theorem law8 : Keyed Tryz.prog 5 := int_keyed Tryz.underlying5
set_option maxRecDepth 20000 in
theorem law64 : Keyed Tryz.prog 2 := int_keyed Tryz.underlying2
set_option maxRecDepth 20000 in
/-- A map's entry laid where the map is written out. -/
theorem wpList_insert_own {H : Type} {P : Program} (w : World) {ops : Array Oper} {rest : List Oper} {o : Oper} {a : Act} {Q : Exit → Act → World → Prop}
    (hg : o.guard = none) (m x v : Operand) (t : TypeId) (hop : o.op = Op.insert t m x v)
    (k e : TypeId) (K : Keyed P k) (ht : P.underlying t = some (.map k e)) (R : Value → Option (DataW H × List MemPlace)) (b n : Nat) (D : DataW H)
    (hm : a.eval m = .map (some b)) (hown : w.ownsMap P k R b n D) (hn : n < maxLen) (key val : Value) (kl : Lit) (hx : a.eval x = key) (hv : a.eval v = val) (hkey : keyOf P k key = some kl)
    (d : DataW H) (ps : List MemPlace) (hval : R val = some (d, ps))
    (hK : ∀ w', w'.ownsMap P k R b (n + 1) (D.put kl d) → w.grownBy w' (some b) → wpList P ops Q rest (a.put o.dst undef) w') :
    wpList P ops Q (o :: rest) a w := by
  refine wpList_plain hg fun K' hK' => ?_
  obtain ⟨w', hrun, r1, r2⟩ := hown.update K ht hn hkey hval
  unfold Oper.wp
  simp [execOp, hop, hm, hx, hv, hrun, Result.andThen]
  exact hK' _ _ (hK w' r1 r2)
/-- A map that the call makes, in the block b, behind its result's block; what was there before stands. -/
structure NM (P : Program) (k e : TypeId) (W : World) (r : Obj) (b n : Nat) (D : DataW Unit) (w : World) : Prop where
  big : b < w.heap.size
  own : w.ownsMap P k (plainElem P e) b n D
  bel : Below W.heap.size W w
  low : W.heap.size < b
  res : w.heap[W.heap.size]? = some r
set_option maxRecDepth 20000 in
theorem wp_insert {P : Program} {W w : World} {r : Obj} {ops : Array Oper} {rest : List Oper} {o : Oper} {a : Act} {Q : Exit → Act → World → Prop}
    (hg : o.guard = none) (m x v : Operand) (t : TypeId) (hop : o.op = Op.insert t m x v)
    (k e : TypeId) (K : Keyed P k) (ht : P.underlying t = some (.map k e)) (b n : Nat) (D : DataW Unit)
    (hm : a.eval m = .map (some b)) (hown : NM P k e W r b n D w) (hn : n < maxLen) (key val : Value) (kl : Lit) (hx : a.eval x = key) (hv : a.eval v = val) (hkey : keyOf P k key = some kl)
    (d : DataW Unit) (hval : plainElem P e val = some (d, []))
    (hK : ∀ w', NM P k e W r b (n + 1) (D.put kl d) w' → wpList P ops Q rest (a.put o.dst undef) w') :
    wpList P ops Q (o :: rest) a w :=
  wpList_insert_own w hg m x v t hop k e K ht _ b n D hm hown.own hn key val kl hx hv hkey d [] hval (fun w' h1 h2 => hK w' ⟨Nat.lt_of_lt_of_le hown.big h2.size, h1, hown.bel.grown h2 hown.bel.size (fun j hj => by cases hj; exact Nat.le_of_lt hown.low), hown.low,
    (h2.block _ (heap_lt hown.res) (fun e => by have := Option.some.inj e; have := hown.low; omega)).trans hown.res⟩)
/-- The set latin9 in memory: its two maps. -/
structure Nine (w : World) (m1 m2 : Nat) : Prop where
  points : w.ownsMap (H := Unit) Tryz.prog 5 (plainElem Tryz.prog 2) m1 8 Pl.nineD
  bytes : ∃ D, w.ownsMap (H := Unit) Tryz.prog 2 (plainElem Tryz.prog 5) m2 8 D ∧ Pl.Inv0 D
set_option maxRecDepth 20000 in
set_option maxHeartbeats 1000000 in
theorem implNew (w : World) : Calls Tryz.prog 39 #[] w fun e w' => ∃ m1 m2, e = .returned (.agg #[.map (some m1), .map (some m2)]) ∧ Nine w' m1 m2 ∧ w.heap.size ≤ m1 ∧ w.heap.size ≤ m2 ∧ Below w.heap.size w w' := by
  have hmm := @run_makeMap Tryz.prog
  have hnm0 : ∀ (o : Obj) (b : Nat), w.heap.size + 1 = b → NM Tryz.prog 5 2 w o b 0 (.map []) ((w.alloc o).alloc (.map #[] 0)) := fun o b h => ⟨by simp; omega, by have := World.ownsMap_made (H := Unit) (w.alloc o) Tryz.prog 5 (plainElem Tryz.prog 2); rw [show (w.alloc o).heap.size = b from by simp; exact h] at this; exact this, ((Below.refl _ _).alloc (Nat.le_refl _) _).alloc (by simp) _, by omega, by rw [heap_alloc_old _ _ _ (by simp)]; exact heap_alloc_at w o⟩
  go_enter Tryz.func39, Tryz.ntmps39
  go_wp2_with (first
    | (refine wp_insert (W := w) rfl _ _ _ 69 rfl 5 2 law8 Tryz.underlying69 _ _ _ rfl (by assumption) (by unfold maxLen; omega) _ _ _ rfl rfl (keyOf_int_mk Tryz.underlying5 (by decide)) _ (plainElem_int Tryz.underlying2 (by decide)) ?_; intro w1 hnm)
    | (refine wp_insert (W := w) rfl _ _ _ 69 rfl 5 2 law8 Tryz.underlying69 _ _ _ rfl (hnm0 _ _ rfl) (by unfold maxLen; omega) _ _ _ rfl rfl (keyOf_int_mk Tryz.underlying5 (by decide)) _ (plainElem_int Tryz.underlying2 (by decide)) ?_; intro w1 hnm)
    | (at_range; replace hnm : NM Tryz.prog 5 2 w (.cells #[.map none, .map none] 72) (w.heap.size + 1) 8 Pl.nineD w1 := hnm; refine wpList_range_own _ rfl _ 69 rfl 5 2 law8 Tryz.underlying69 _ (w.heap.size + 1) 8 _ rfl ((hnm.own.alloc _).alloc _) ?_; intro w2 hrg2 hg2 hs2)
    | go_in)
  go_frame
  clear hnm0
  have e1 : ((w1.alloc (Obj.map #[] 0)).alloc (Obj.cells #[Value.map (some (w.heap.size + 1)), Value.map (some w1.heap.size)] 72)).heap.size = w1.heap.size + 2 := by simp
  have hz1 : w.heap.size + 1 < w1.heap.size := hnm.big
  have hA1 : ((w1.alloc (Obj.map #[] 0)).alloc (Obj.cells #[Value.map (some (w.heap.size + 1)), Value.map (some w1.heap.size)] 72)).heap[w1.heap.size + 1]? = some (.cells #[.map (some (w.heap.size + 1)), .map (some w1.heap.size)] 72 (0, 0)) := by
    have := heap_alloc_at (w1.alloc (Obj.map #[] 0)) (Obj.cells #[Value.map (some (w.heap.size + 1)), Value.map (some w1.heap.size)] 72)
    simpa using this
  rw [e1] at hrg2 hs2 ⊢
  go_loopw [2] (fun _ wr => ∃ (left : Lit → Bool) (cnt : Nat) (Dout : DataW Unit), wr.ranges Tryz.prog 5 (plainElem Tryz.prog 2) (w.heap.size + 1) (w1.heap.size + 2) 8 Pl.nineD left cnt ∧ cnt ≤ 8 ∧
      wr.ownsMap Tryz.prog 2 (plainElem Tryz.prog 5) w1.heap.size (8 - cnt) Dout ∧ Pl.Inv Dout left ∧ wr.heap[w1.heap.size + 1]? = some (.cells #[.map (some (w.heap.size + 1)), .map (some w1.heap.size)] 72 (0, 0)) ∧ wr.heap[w.heap.size]? = some (.cells #[.map none, .map none] 72 (0, 0)) ∧ Below w.heap.size w wr)
    (fun _ wr => wr.rangeLeft (w.heap.size + 1) (w1.heap.size + 2))
  case atStart =>
    refine ⟨_, _, .map [], hrg2, by decide, ?_, Pl.inv_start, ?_, ?_, ?_⟩
    · exact ((((World.ownsMap_made (H := Unit) w1 _ _ _)).alloc _).kept hg2 (by simp)).mono (Nat.zero_le _)
    · rw [hg2.block _ (by simp) (by simp)]; exact hA1
    · rw [hg2.block _ (by simp; omega) (by simp)]; have := hnm.res; rw [heap_alloc_old _ _ _ (by simp; omega), heap_alloc_old _ _ _ (by omega)]; exact this
    · exact ((hnm.bel.alloc (by omega) _).alloc (by simp; omega) _).grown hg2 (by simp; omega) (fun j hj => by cases hj)
  case round =>
    obtain ⟨left, cnt, Dout, hrg, hcs, hout, hA, hcell, hres, hnx⟩ := hrel
    obtain ⟨hc0, hc1⟩ := two_cells hcell
    go_wp2_with (first
      | (at_next; refine wpList_next_ranges_ii _ rfl _ rfl 5 2 .u8 .i64 law8 Tryz.underlying5 Tryz.underlying2 (w.heap.size + 1) (w1.heap.size + 2) 8 _ _ _ rfl hrg ?_ ?_)
      | go_in)
    · intro hc00 hl0
      go_wp2_with (first
        | (refine wpL_load_row rfl 72 _ rfl (w1.heap.size + 1) _ 72 (0, 0) _ rfl hcell Tryz.underlying72 rfl (by kernel_rfl) ?_)
        | (refine wpL_store_row rfl 72 _ _ rfl w.heap.size #[.map (some (w.heap.size + 1)), .map (some w1.heap.size)] rfl rfl 72 _ hres (by kernel_rfl) rfl (by simp [Value.oneCell']) ?_)
        | go_in)
      refine bodyPost_ret (v := .agg #[.map (some (w.heap.size + 1)), .map (some w1.heap.size)]) (results_cell_row Tryz.results39 _ _ w.heap.size 72 _ (0, 0) _ rfl (setRow_heap _ _ _ _ _ _ hres) Tryz.underlying72 rfl (by kernel_rfl)) rfl ?_
      have hgs := grown_setRow wr w.heap.size #[.map (some (w.heap.size + 1)), .map (some w1.heap.size)]
      exact ⟨_, _, rfl, ⟨hrg.owns.kept hgs (by simp), _, (hout.kept hgs (by simp; omega)).mono (by omega), Pl.inv_end hA hl0⟩, by omega, by omega, hnx.grown hgs hnx.size (fun j hj => by cases hj; exact Nat.le_refl _)⟩
    · intro x c w3 cnt1 hwx hwc hlx hat hrg1 hlt hg1 hs1 hen
      have hout1 := hout.kept hg1 (by simp)
      have hcell1 := (hg1.block (w1.heap.size + 1) (by rw [Array.getElem?_eq_some_iff] at hcell; exact hcell.1) (by simp)).trans hcell
      obtain ⟨hd0, hd1⟩ := two_cells hcell1
      go_wp2_with (first
        | (at_mapUpdate; refine wpList_mapUpdate_own _ rfl _ _ _ 70 rfl 2 5 law64 Tryz.underlying70 _ w1.heap.size _ _ rfl hout1 (by unfold maxLen; omega) _ _ _ rfl rfl (keyOf_int_mk Tryz.underlying2 hwc) _ [] (plainElem_int Tryz.underlying5 hwx) ?_; intro w4 hout2 hg4; go_frame)
        | go_in)
      have hrg4 := hrg1.kept hg4 (fun e => by have := Option.some.inj e; omega) (fun e => by have := Option.some.inj e; omega)
      go_roundw
      case rel =>
        exact ⟨_, cnt1, _, hrg4, by omega, hout2.mono (by omega), Pl.inv_step hA (Pl.nineD_entry hat), (hg4.block (w1.heap.size + 1) (by rw [Array.getElem?_eq_some_iff] at hcell1; exact hcell1.1) (by simp)).trans hcell1, (hg4.block w.heap.size (Nat.lt_of_lt_of_le (heap_lt hres) hg1.size) (by simp; omega)).trans ((hg1.block w.heap.size (heap_lt hres) (by simp; omega)).trans hres),
          (hnx.grown hg1 hnx.size (fun j hj => by cases hj; omega)).grown hg4 (by have := hnx.size; omega) (fun j hj => by cases hj; omega)⟩
      case measure => rw [hrg4.left_eq, hrg.left_eq]; exact hlt
end Go.Proofs.YtbppdfjigcelkaaGreatDoor
namespace Go.Proofs.YtbppdfjigcelkaaGreatDoor
open Go.RowKit Go.Lib Go.Maps
/-- The slice of numbers at o, in blocks below B. -/
def PtsAt (B : Nat) (w : World) (o : Option Addr) (ps : List Int) : Prop := ∀ k (h : k < ps.length), ∃ a, o = some a ∧ a.block < B ∧ w.cell? (a.add k) = some (.int .i64 ps[k])
set_option maxRecDepth 20000 in
theorem PtsAt.below {B : Nat} {w w' : World} {o : Option Addr} {ps : List Int} (h : PtsAt B w o ps) (hb : Below B w w') : PtsAt B w' o ps := by
  intro k hk
  obtain ⟨a, rfl, ha, hc⟩ := h k hk
  refine ⟨a, rfl, ha, ?_⟩
  rw [← hc]
  have e : (a.add k).block = a.block := by unfold Addr.add; split <;> rfl
  exact hb.cell (by rw [e]; exact ha)
set_option maxRecDepth 20000 in
theorem PtsAt.mono {B B' : Nat} {w : World} {o : Option Addr} {ps : List Int} (h : PtsAt B w o ps) (hB : B ≤ B') : PtsAt B' w o ps := by
  intro k hk
  obtain ⟨a, rfl, ha, hc⟩ := h k hk
  exact ⟨a, rfl, by omega, hc⟩
namespace Pl
def isPt (p : Int) : Bool := decide (0 ≤ p) && (decide (p ≤ 1114111) && !(decide (55296 ≤ p) && decide (p ≤ 57343)))
def by8 (n : Int) : UInt8 := UInt8.ofNat n.toNat
set_option maxRecDepth 20000 in
theorem by8_eq (n : Int) (a : UInt8) (h0 : 0 ≤ n) (h1 : n < 256) : by8 n = a ↔ n = (a.toNat : Int) := by
  constructor
  · rintro rfl
    simp [by8, UInt8.toNat_ofNat']
    omega
  · intro h
    apply UInt8.toNat_inj.1
    simp [by8, UInt8.toNat_ofNat']
    omega
set_option maxRecDepth 20000 in
theorem by8_val (n : Int) (h0 : 0 ≤ n) (h1 : n < 256) : ((by8 n).toNat : Int) = n := ((by8_eq n _ h0 h1).1 rfl).symm
/-- A point's bytes in a set; none: it has no form. -/
def form (set p : Int) : List UInt8 :=
  if isPt p = false then [] else
  if set = 1 then (if p < 128 then [by8 p] else []) else
  if set = 2 then (if p < 256 then [by8 p] else []) else
  if set = 3 then (match unNine p with | some b => [by8 b] | none => if 255 < p then [] else if (nineOf p).isSome then [] else [by8 p]) else
  if set = 4 then (if p < 128 then [by8 p] else if p < 2048 then [by8 (192 + p / 64), by8 (128 + p % 64)] else if p < 65536 then [by8 (224 + p / 4096), by8 (128 + p / 64 % 64), by8 (128 + p % 64)] else
    [by8 (240 + p / 262144), by8 (128 + p / 4096 % 64), by8 (128 + p / 64 % 64), by8 (128 + p % 64)]) else
  if p < 65536 then [by8 (p / 256), by8 (p % 256)] else
    [by8 ((55296 + (p - 65536) / 1024) / 256), by8 ((55296 + (p - 65536) / 1024) % 256), by8 ((56320 + (p - 65536) % 1024) / 256), by8 ((56320 + (p - 65536) % 1024) % 256)]
set_option maxRecDepth 20000 in
theorem form_len (set p : Int) : (form set p).length ≤ 4 := by
  unfold form
  repeat' split
  all_goals simp
/-- The bytes of points behind what is there; none: one of them has no form. -/
def enc (f : Int → List UInt8) : List UInt8 → List Int → Option (List UInt8)
  | out, [] => some out
  | out, p :: r => if (f p).isEmpty then none else enc f (out ++ f p) r
set_option maxRecDepth 20000 in
theorem enc_bad {f : Int → List UInt8} {p : List UInt8} {x : Option (List UInt8)} {ps : List Int} {k : Nat} (hk : k < ps.length) (h : f ps[k] = []) (hp : enc f p (ps.drop k) = x) : x = none := by
  rw [List.drop_eq_getElem_cons hk, enc, h] at hp
  exact hp.symm
set_option maxRecDepth 20000 in
theorem enc_step {f : Int → List UInt8} {p : List UInt8} {x : Option (List UInt8)} {ps : List Int} {k : Nat} (hk : k < ps.length) (h : f ps[k] ≠ []) (hp : enc f p (ps.drop k) = x) : enc f (p ++ f ps[k]) (ps.drop (k + 1)) = x := by
  rw [List.drop_eq_getElem_cons hk, enc, if_neg (by simpa using h)] at hp
  exact hp
set_option maxRecDepth 20000 in
theorem enc_done {f : Int → List UInt8} {p : List UInt8} {x : Option (List UInt8)} {ps : List Int} {k : Nat} (hk : ps.length ≤ k) (hp : enc f p (ps.drop k) = x) : x = some p := by
  rw [List.drop_eq_nil_of_le hk, enc] at hp
  exact hp.symm
end Pl
/-- What both sides answer. -/
def encV (x : Option (List UInt8)) : Value := match x with | some l => .agg #[.bool true, .string ⟨l.toArray⟩] | none => .agg #[.bool false, .string ⟨#[]⟩]
end Go.Proofs.YtbppdfjigcelkaaGreatDoor
namespace Go.Proofs.YtbppdfjigcelkaaGreatDoor
open Go.RowKit Go.Lib Go.Maps
set_option maxRecDepth 20000 in
set_option maxHeartbeats 400000 in
theorem implPoint (p : Int) (w : World) : Calls Tryz.prog 22 #[.int .i64 p] w fun e w' => e = .returned (.bool (Pl.isPt p)) ∧ w' = w := by
  unfold Pl.isPt
  by_cases h1 : 0 ≤ p <;> by_cases h2 : p ≤ 1114111 <;> by_cases h3 : 55296 ≤ p <;> by_cases h4 : p ≤ 57343
  all_goals
    go_enter Tryz.func22, Tryz.ntmps22
    go_wp2
    go_ret
    exact ⟨congrArg (fun b => Ending.returned (.bool b)) (by first | (simp [h1, h2, h3, h4]; done) | (simp; omega)), rfl⟩
set_option maxRecDepth 20000 in
set_option maxHeartbeats 400000 in
theorem implChars1 (w : World) : Calls Tryz.prog 21 #[.int .i64 1] w fun e w' => e = .returned (.iface 68 (.agg #[.int .i64 127])) ∧ w' = w := by
  go_enter Tryz.func21, Tryz.ntmps21
  go_wp2
  go_ret
  exact ⟨rfl, rfl⟩
set_option maxRecDepth 20000 in
set_option maxHeartbeats 400000 in
theorem implChars2 (w : World) : Calls Tryz.prog 21 #[.int .i64 2] w fun e w' => e = .returned (.iface 68 (.agg #[.int .i64 255])) ∧ w' = w := by
  go_enter Tryz.func21, Tryz.ntmps21
  go_wp2
  go_ret
  exact ⟨rfl, rfl⟩
set_option maxRecDepth 20000 in
set_option maxHeartbeats 400000 in
theorem implChars4 (w : World) : Calls Tryz.prog 21 #[.int .i64 4] w fun e w' => e = .returned (.iface 75 (.agg #[])) ∧ w' = w := by
  go_enter Tryz.func21, Tryz.ntmps21
  go_wp2
  go_ret
  exact ⟨rfl, rfl⟩
set_option maxRecDepth 20000 in
set_option maxHeartbeats 400000 in
theorem implChars5 (w : World) : Calls Tryz.prog 21 #[.int .i64 5] w fun e w' => e = .returned (.iface 76 (.agg #[])) ∧ w' = w := by
  go_enter Tryz.func21, Tryz.ntmps21
  go_wp2
  go_ret
  exact ⟨rfl, rfl⟩
set_option maxRecDepth 20000 in
set_option maxHeartbeats 400000 in
theorem implChars0 (s : Int) (w : World) (h : s < 1 ∨ 5 < s) : Calls Tryz.prog 21 #[.int .i64 s] w fun e w' => e = .returned .nilIface ∧ w' = w := by
  have h1 : (s == 1) = false := by simp; omega
  have h2 : (s == 2) = false := by simp; omega
  have h3 : (s == 3) = false := by simp; omega
  have h4 : (s == 4) = false := by simp; omega
  have h5 : (s == 5) = false := by simp; omega
  have g1 : ¬ s = 1 := by omega
  have g2 : ¬ s = 2 := by omega
  have g3 : ¬ s = 3 := by omega
  have g4 : ¬ s = 4 := by omega
  have g5 : ¬ s = 5 := by omega
  go_enter Tryz.func21, Tryz.ntmps21
  go_wp2
  go_ret
  exact ⟨rfl, rfl⟩
set_option maxRecDepth 20000 in
set_option maxHeartbeats 400000 in
theorem implChars3 (w : World) : Calls Tryz.prog 21 #[.int .i64 3] w fun e w' => ∃ m1 m2, e = .returned (.iface 72 (.agg #[.map (some m1), .map (some m2)])) ∧ Nine w' m1 m2 ∧ w.heap.size ≤ m1 ∧ w.heap.size ≤ m2 ∧ Below w.heap.size w w' := by
  go_enter Tryz.func21, Tryz.ntmps21
  go_wp2_with fail
  refine (implNew _).mono ?_
  rintro e w2 ⟨m1, m2, rfl, h1, h2, h3, h4⟩
  go_wp2
  go_ret
  exact ⟨m1, m2, rfl, h1, h2, h3, h4⟩
set_option maxRecDepth 20000 in
theorem ownsMap_below {k : TypeId} {R : Value → Option (DataW Unit × List MemPlace)} {W w : World} {b n : Nat} {D : DataW Unit} (h : W.ownsMap Tryz.prog k R b n D) (hb : Below W.heap.size W w) : w.ownsMap Tryz.prog k R b n D := by
  have hlt := h.lt
  unfold World.ownsMap at h ⊢
  rw [hb.block b hlt]
  exact h
set_option maxRecDepth 20000 in
theorem Nine.below {W w : World} {m1 m2 : Nat} (h : Nine W m1 m2) (hb : Below W.heap.size W w) : Nine w m1 m2 := by
  obtain ⟨h1, D, h2, h3⟩ := h
  exact ⟨ownsMap_below h1 hb, D, ownsMap_below h2 hb, h3⟩
set_option maxRecDepth 20000 in
theorem Nine.alloc {w : World} {m1 m2 : Nat} (h : Nine w m1 m2) (o : Obj) : Nine (w.alloc o) m1 m2 := by
  obtain ⟨h1, D, h2, h3⟩ := h
  exact ⟨h1.alloc o, D, h2.alloc o, h3⟩
set_option maxRecDepth 20000 in
theorem zero8 (w : World) : (zeroValue 5).run Tryz.prog w = .ok (.int .u8 0) w := by kernel_rfl
set_option maxRecDepth 20000 in
theorem zero64 (w : World) : (zeroValue 2).run Tryz.prog w = .ok (.int .i64 0) w := by kernel_rfl
set_option maxRecDepth 20000 in
theorem isPt_range {p : Int} (h : Pl.isPt p = true) : 0 ≤ p ∧ p ≤ 1114111 := by
  simp only [Pl.isPt, Bool.and_eq_true, decide_eq_true_eq] at h
  omega
end Go.Proofs.YtbppdfjigcelkaaGreatDoor
namespace Go.Proofs.YtbppdfjigcelkaaGreatDoor
open Go.RowKit Go.Lib Go.Maps
set_option maxRecDepth 20000 in
set_option maxHeartbeats 1000000 in
theorem specPoint (p : Int) (w : World) : Calls Tryz.prog 27 #[.int .i64 p] w fun e w' => e = .returned (.bool (Pl.isPt p)) ∧ w' = w := by
  unfold Pl.isPt
  by_cases h1 : 0 ≤ p <;> by_cases h2 : p ≤ 1114111 <;> by_cases h3 : 55296 ≤ p <;> by_cases h4 : p ≤ 57343
  all_goals
    go_enter Tryz.func27, Tryz.ntmps27
    go_wp2
    go_ret
    exact ⟨congrArg (fun b => Ending.returned (.bool b)) (by first | (simp [h1, h2, h3, h4]; done) | (simp; omega)), rfl⟩
set_option maxRecDepth 20000 in
set_option maxHeartbeats 1000000 in
theorem specNine (b : Nat) (hb : b < 256) (w : World) : Calls Tryz.prog 38 #[.int .i64 b] w fun e w' => e = .returned (.int .i64 ((Pl.nineOf b).getD b)) ∧ w' = w := by
  by_cases h : b ∈ [164, 166, 168, 180, 184, 188, 189, 190]
  · simp only [List.mem_cons, List.not_mem_nil, or_false] at h
    rcases h with rfl | rfl | rfl | rfl | rfl | rfl | rfl | rfl
    all_goals
      go_enter Tryz.func38, Tryz.ntmps38
      go_wp2
      go_ret
      exact ⟨rfl, rfl⟩
  · simp only [List.mem_cons, List.not_mem_nil, or_false, not_or] at h
    obtain ⟨h1, h2, h3, h4, h5, h6, h7, h8⟩ := h
    have e : Pl.nineOf b = none := by
      unfold Pl.nineOf
      rw [if_neg (by omega), if_neg (by omega), if_neg (by omega), if_neg (by omega), if_neg (by omega), if_neg (by omega), if_neg (by omega), if_neg (by omega)]
    rw [e]
    have g1 : ¬ (b : Int) = 164 := by omega
    have g2 : ¬ (b : Int) = 166 := by omega
    have g3 : ¬ (b : Int) = 168 := by omega
    have g4 : ¬ (b : Int) = 180 := by omega
    have g5 : ¬ (b : Int) = 184 := by omega
    have g6 : ¬ (b : Int) = 188 := by omega
    have g7 : ¬ (b : Int) = 189 := by omega
    have g8 : ¬ (b : Int) = 190 := by omega
    go_enter Tryz.func38, Tryz.ntmps38
    go_wp2
    go_ret
    exact ⟨rfl, rfl⟩
set_option maxRecDepth 20000 in
set_option maxHeartbeats 1000000 in
theorem specNameE (s : Int) (w : World) : Calls Tryz.prog 19 #[.int .i64 s] w fun e w' => ∃ t : ByteArray, e = .returned (.string t) ∧ t.toList.isEmpty = decide (s < 1 ∨ 5 < s) ∧ w' = w := by
  by_cases h : s < 1 ∨ 5 < s
  · have g1 : ¬ s = 1 := by omega
    have g2 : ¬ s = 2 := by omega
    have g3 : ¬ s = 3 := by omega
    have g4 : ¬ s = 4 := by omega
    have g5 : ¬ s = 5 := by omega
    rw [decide_eq_true h]
    go_enter Tryz.func19, Tryz.ntmps19
    go_wp2
    go_ret
    exact ⟨_, rfl, by rw [ByteArray.toList_eq]; rfl, rfl⟩
  · have hset : s = 1 ∨ s = 2 ∨ s = 3 ∨ s = 4 ∨ s = 5 := by omega
    rw [decide_eq_false h]
    clear h
    rcases hset with rfl | rfl | rfl | rfl | rfl
    all_goals
      go_enter Tryz.func19, Tryz.ntmps19
      go_wp2
      go_ret
      exact ⟨_, rfl, by rw [ByteArray.toList_eq]; rfl, rfl⟩
set_option maxRecDepth 20000 in
theorem Own.lit (w : World) (p : List UInt8) (cs : Array Value) (h : cs.toList = byteCells p) (hm : p.length ≤ 1000) : Own w.heap.size (.slice (some ⟨w.heap.size, 0, none⟩) p.length p.length) p (w.alloc (.cells cs 5)) := by
  have := World.ownsRow_lit (base := w.heap.size) (e := 5) (size := 1) w cs p.length (Nat.le_refl _) (by unfold maxLen; omega) (by have := congrArg List.length h; simp [byteCells_length] at this; omega)
  rw [h] at this
  exact this
set_option maxRecDepth 20000 in
theorem specFormNo (set p : Int) (w : World) (h : Pl.isPt p = false) : Calls Tryz.prog 20 #[.int .i64 set, .int .i64 p] w fun e w' => ∃ v, e = .returned v ∧ Own w.heap.size v (Pl.form set p) w' ∧ Below w.heap.size w w' := by
  have hP := specPoint p w
  rw [h] at hP
  unfold Pl.form
  rw [if_pos h]
  go_enter Tryz.func20, Tryz.ntmps20
  go_wp2_with fail
  refine hP.mono ?_
  rintro e w2 ⟨rfl, rfl⟩
  go_wp2
  go_ret
  exact ⟨_, rfl, Own.made _ _ (Nat.le_refl _), (Below.refl _ _).alloc (Nat.le_refl _) _⟩
set_option maxRecDepth 20000 in
set_option maxHeartbeats 1000000 in
theorem specForm12 (set top : Int) (hs : set = 1 ∧ top = 128 ∨ set = 2 ∧ top = 256) (p : Int) (w : World) (h : Pl.isPt p = true) : Calls Tryz.prog 20 #[.int .i64 set, .int .i64 p] w fun e w' => ∃ v, e = .returned v ∧ Own w.heap.size v (Pl.form set p) w' ∧ Below w.heap.size w w' := by
  have hP := specPoint p w
  have hr := isPt_range h
  rw [h] at hP
  have hf : Pl.form set p = if p < top then [Pl.by8 p] else [] := by
    unfold Pl.form
    rw [if_neg (by rw [h]; simp)]
    rcases hs with ⟨rfl, rfl⟩ | ⟨rfl, rfl⟩
    · rw [if_pos rfl]
    · rw [if_neg (by decide), if_pos rfl]
  rw [hf]
  clear hf h
  rcases hs with ⟨rfl, rfl⟩ | ⟨rfl, rfl⟩
  · by_cases hp : p < 128
    · rw [if_pos hp]
      go_enter Tryz.func20, Tryz.ntmps20
      go_wp2_with fail
      refine hP.mono ?_
      rintro e w2 ⟨rfl, rfl⟩
      go_wp2
      go_ret
      exact ⟨_, rfl, Own.lit w2 [Pl.by8 p] _ (by simp [byteCells, Pl.by8_val p hr.1 (by omega)]) (by simp), (Below.refl _ _).alloc (Nat.le_refl _) _⟩
    · rw [if_neg hp]
      go_enter Tryz.func20, Tryz.ntmps20
      go_wp2_with fail
      refine hP.mono ?_
      rintro e w2 ⟨rfl, rfl⟩
      go_wp2
      go_ret
      exact ⟨_, rfl, Own.made _ _ (Nat.le_refl _), (Below.refl _ _).alloc (Nat.le_refl _) _⟩
  · by_cases hp : p < 256
    · rw [if_pos hp]
      go_enter Tryz.func20, Tryz.ntmps20
      go_wp2_with fail
      refine hP.mono ?_
      rintro e w2 ⟨rfl, rfl⟩
      go_wp2
      go_ret
      exact ⟨_, rfl, Own.lit w2 [Pl.by8 p] _ (by simp [byteCells, Pl.by8_val p hr.1 (by omega)]) (by simp), (Below.refl _ _).alloc (Nat.le_refl _) _⟩
    · rw [if_neg hp]
      go_enter Tryz.func20, Tryz.ntmps20
      go_wp2_with fail
      refine hP.mono ?_
      rintro e w2 ⟨rfl, rfl⟩
      go_wp2
      go_ret
      exact ⟨_, rfl, Own.made _ _ (Nat.le_refl _), (Below.refl _ _).alloc (Nat.le_refl _) _⟩
namespace Pl
def nv (b : Nat) : Int := (nineOf b).getD b
set_option maxRecDepth 20000 in
theorem form3 (p : Int) (h : isPt p = true) : form 3 p = match unNine p with | some b => [by8 b] | none => if 255 < p then [] else if (nineOf p).isSome then [] else [by8 p] := by
  unfold form
  rw [if_neg (by rw [h]; simp), if_neg (by decide), if_neg (by decide), if_pos rfl]
  all_goals rfl
set_option maxRecDepth 20000 in
theorem un_small {p : Int} (h : p < 256) : unNine p = none := by
  unfold unNine
  rw [if_neg (by omega), if_neg (by omega), if_neg (by omega), if_neg (by omega), if_neg (by omega), if_neg (by omega), if_neg (by omega), if_neg (by omega)]
set_option maxRecDepth 20000 in
theorem nv_hit {b : Nat} (hb : b < 256) {p : Int} (hp : isPt p = true) (h : nv b = p) : form 3 p = [by8 b] := by
  rw [form3 p hp]
  unfold nv at h
  cases e : nineOf b with
  | some q =>
    rw [e] at h
    have h : q = p := h
    subst h
    rw [nine_un e]
  | none =>
    rw [e] at h
    have h : (b : Int) = p := h
    subst h
    rw [un_small (by omega)]
    dsimp only
    rw [if_neg (by omega), e]
    rfl
set_option maxRecDepth 20000 in
theorem un_byte {p b : Int} (h : unNine p = some b) : 0 ≤ b ∧ b < 256 := by
  have := un_nine h
  unfold nineOf at this
  repeat' split at this
  all_goals first | (cases this; done) | omega
set_option maxRecDepth 20000 in
theorem nv_miss {p : Int} (hp : isPt p = true) (h : ∀ j : Nat, j < 256 → nv j ≠ p) : form 3 p = [] := by
  rw [form3 p hp]
  have h0 : 0 ≤ p := by simp only [isPt, Bool.and_eq_true, decide_eq_true_eq] at hp; omega
  cases e : unNine p with
  | some b =>
    have hb := un_byte e
    exact absurd (by unfold nv; rw [show ((b.toNat : Nat) : Int) = b by omega, un_nine e]; rfl) (h b.toNat (by omega))
  | none =>
    dsimp only
    by_cases h2 : 255 < p
    · rw [if_pos h2]
    · rw [if_neg h2]
      cases e2 : nineOf p with
      | some q => rfl
      | none => exact absurd (by unfold nv; rw [show ((p.toNat : Nat) : Int) = p by omega, e2]; rfl) (h p.toNat (by omega))
end Pl
set_option maxRecDepth 40000 in
set_option maxHeartbeats 1000000 in
theorem specForm3 (p : Int) (w : World) (h : Pl.isPt p = true) : Calls Tryz.prog 20 #[.int .i64 3, .int .i64 p] w fun e w' => ∃ v, e = .returned v ∧ Own w.heap.size v (Pl.form 3 p) w' ∧ Below w.heap.size w w' := by
  have hP := specPoint p w
  rw [h] at hP
  have Hh : Hid (Pl.isPt p = true) := h
  clear h
  go_enter Tryz.func20, Tryz.ntmps20
  go_wp2_with fail
  refine hP.mono ?_
  rintro e w2 ⟨rfl, rfl⟩
  clear hP
  go_wp2
  go_loopw [5] (fun i wr => ∃ k : Nat, k ≤ 256 ∧ i = .int .i64 k ∧ Hid (∀ j : Nat, j < k → Pl.nv j ≠ p) ∧ wr = w2) (fun i _ => 256 - (Lib.intOf i).toNat)
  case atStart => exact ⟨0, by omega, rfl, show ∀ j : Nat, j < 0 → Pl.nv j ≠ p from (fun j hj => by omega), rfl⟩
  case round =>
    obtain ⟨k, hk, rfl, hp, rfl⟩ := hrel
    by_cases hlt : k < 256
    · have hN := specNine k hlt wr
      change Calls Tryz.prog 38 #[.int .i64 k] wr fun e w' => e = .returned (.int .i64 (Pl.nv k)) ∧ w' = wr at hN
      by_cases hv : Pl.nv k = p
      · have hf : Hid (Pl.form 3 p = [Pl.by8 k]) := Pl.nv_hit hlt Hh.out hv
        rw [hv] at hN
        clear hv hp
        go_wp2_with fail
        refine hN.mono ?_
        rintro e w3 ⟨rfl, rfl⟩
        go_wp2
        go_ret
        rw [hf.out]
        exact ⟨_, rfl, Own.lit _ [Pl.by8 k] _ (by simp [byteCells, Pl.by8_val (k : Int) (by omega) (by omega)]) (by simp), (Below.refl _ _).alloc (Nat.le_refl _) _⟩
      · have hf : Hid (∀ j : Nat, j < k + 1 → Pl.nv j ≠ p) := show _ from fun j hj => by
          by_cases e : j = k
          · subst e; exact hv
          · exact hp.out j (by omega)
        have hv2 : (Pl.nv k == p) = false := by simpa using hv
        clear hp
        generalize Pl.nv k = q at hN hv hv2
        go_wp2_with fail
        refine hN.mono ?_
        rintro e w3 ⟨rfl, rfl⟩
        go_wp2
        go_roundw
        case rel => exact ⟨k + 1, by omega, by go_num, hf, trivial⟩
        case measure => simp [Lib.intOf]; omega
    · have hf : Hid (Pl.form 3 p = []) := Pl.nv_miss Hh.out (fun j hj => hp.out j (by omega))
      clear hp
      obtain rfl : k = 256 := by omega
      go_wp2
      go_ret
      rw [hf.out]
      exact ⟨_, rfl, Own.made _ _ (Nat.le_refl _), (Below.refl _ _).alloc (Nat.le_refl _) _⟩
set_option maxRecDepth 20000 in
set_option maxHeartbeats 2000000 in
theorem specForm5 (p : Int) (w : World) (h : Pl.isPt p = true) : Calls Tryz.prog 20 #[.int .i64 5, .int .i64 p] w fun e w' => ∃ v, e = .returned v ∧ Own w.heap.size v (Pl.form 5 p) w' ∧ Below w.heap.size w w' := by
  have hP := specPoint p w
  have hr := isPt_range h
  rw [h] at hP
  unfold Pl.form
  rw [if_neg (by rw [h]; simp), if_neg (by decide), if_neg (by decide), if_neg (by decide), if_neg (by decide)]
  clear h
  by_cases hp : p < 65536
  · rw [if_pos hp]
    go_enter Tryz.func20, Tryz.ntmps20
    go_wp2_with fail
    refine hP.mono ?_
    rintro e w2 ⟨rfl, rfl⟩
    go_wp2
    go_ret
    exact ⟨_, rfl, Own.lit w2 [Pl.by8 (p / 256), Pl.by8 (p % 256)] _ (by simp [byteCells, Pl.by8_val (p / 256) (by omega) (by omega), Pl.by8_val (p % 256) (by omega) (by omega)]) (by simp), (Below.refl _ _).alloc (Nat.le_refl _) _⟩
  · rw [if_neg hp]
    go_enter Tryz.func20, Tryz.ntmps20
    go_wp2_with fail
    refine hP.mono ?_
    rintro e w2 ⟨rfl, rfl⟩
    go_wp2
    go_ret
    exact ⟨_, rfl, Own.lit w2 [Pl.by8 ((55296 + (p - 65536) / 1024) / 256), Pl.by8 ((55296 + (p - 65536) / 1024) % 256), Pl.by8 ((56320 + (p - 65536) % 1024) / 256), Pl.by8 ((56320 + (p - 65536) % 1024) % 256)] _ (by simp only [byteCells, List.map, Pl.by8_val ((55296 + (p - 65536) / 1024) / 256) (by omega) (by omega), Pl.by8_val ((55296 + (p - 65536) / 1024) % 256) (by omega) (by omega), Pl.by8_val ((56320 + (p - 65536) % 1024) / 256) (by omega) (by omega), Pl.by8_val ((56320 + (p - 65536) % 1024) % 256) (by omega) (by omega)]) (by simp), (Below.refl _ _).alloc (Nat.le_refl _) _⟩
set_option maxRecDepth 40000 in
set_option maxHeartbeats 2000000 in
theorem specForm4 (p : Int) (w : World) (h : Pl.isPt p = true) : Calls Tryz.prog 20 #[.int .i64 4, .int .i64 p] w fun e w' => ∃ v, e = .returned v ∧ Own w.heap.size v (Pl.form 4 p) w' ∧ Below w.heap.size w w' := by
  have hP := specPoint p w
  have hr := isPt_range h
  rw [h] at hP
  unfold Pl.form
  rw [if_neg (by rw [h]; simp), if_neg (by decide), if_neg (by decide), if_neg (by decide), if_pos rfl]
  clear h
  by_cases h1 : p < 128
  · rw [if_pos h1]
    go_enter Tryz.func20, Tryz.ntmps20
    go_wp2_with fail
    refine hP.mono ?_
    rintro e w2 ⟨rfl, rfl⟩
    go_wp2
    go_ret
    exact ⟨_, rfl, Own.lit w2 [Pl.by8 p] _ (by simp [byteCells, Pl.by8_val p (by omega) (by omega)]) (by simp), (Below.refl _ _).alloc (Nat.le_refl _) _⟩
  · rw [if_neg h1]
    by_cases h2 : p < 2048
    · rw [if_pos h2]
      go_enter Tryz.func20, Tryz.ntmps20
      go_wp2_with fail
      refine hP.mono ?_
      rintro e w2 ⟨rfl, rfl⟩
      go_wp2
      go_ret
      exact ⟨_, rfl, Own.lit w2 [Pl.by8 (192 + p / 64), Pl.by8 (128 + p % 64)] _ (by simp only [byteCells, List.map, Pl.by8_val (192 + p / 64) (by omega) (by omega), Pl.by8_val (128 + p % 64) (by omega) (by omega)]) (by simp), (Below.refl _ _).alloc (Nat.le_refl _) _⟩
    · rw [if_neg h2]
      by_cases h3 : p < 65536
      · rw [if_pos h3]
        go_enter Tryz.func20, Tryz.ntmps20
        go_wp2_with fail
        refine hP.mono ?_
        rintro e w2 ⟨rfl, rfl⟩
        go_wp2
        go_ret
        exact ⟨_, rfl, Own.lit w2 [Pl.by8 (224 + p / 4096), Pl.by8 (128 + p / 64 % 64), Pl.by8 (128 + p % 64)] _ (by simp only [byteCells, List.map, Pl.by8_val (224 + p / 4096) (by omega) (by omega), Pl.by8_val (128 + p / 64 % 64) (by omega) (by omega), Pl.by8_val (128 + p % 64) (by omega) (by omega)]) (by simp), (Below.refl _ _).alloc (Nat.le_refl _) _⟩
      · rw [if_neg h3]
        go_enter Tryz.func20, Tryz.ntmps20
        go_wp2_with fail
        refine hP.mono ?_
        rintro e w2 ⟨rfl, rfl⟩
        go_wp2
        go_ret
        exact ⟨_, rfl, Own.lit w2 [Pl.by8 (240 + p / 262144), Pl.by8 (128 + p / 4096 % 64), Pl.by8 (128 + p / 64 % 64), Pl.by8 (128 + p % 64)] _ (by simp only [byteCells, List.map, Pl.by8_val (240 + p / 262144) (by omega) (by omega), Pl.by8_val (128 + p / 4096 % 64) (by omega) (by omega), Pl.by8_val (128 + p / 64 % 64) (by omega) (by omega), Pl.by8_val (128 + p % 64) (by omega) (by omega)]) (by simp), (Below.refl _ _).alloc (Nat.le_refl _) _⟩
set_option maxRecDepth 20000 in
theorem specForm (set p : Int) (hs : 1 ≤ set ∧ set ≤ 5) (w : World) : Calls Tryz.prog 20 #[.int .i64 set, .int .i64 p] w fun e w' => ∃ v, e = .returned v ∧ Own w.heap.size v (Pl.form set p) w' ∧ Below w.heap.size w w' := by
  cases h : Pl.isPt p
  · exact specFormNo set p w h
  · have hset : set = 1 ∨ set = 2 ∨ set = 3 ∨ set = 4 ∨ set = 5 := by omega
    rcases hset with rfl | rfl | rfl | rfl | rfl
    · exact specForm12 1 128 (.inl ⟨rfl, rfl⟩) p w h
    · exact specForm12 2 256 (.inr ⟨rfl, rfl⟩) p w h
    · exact specForm3 p w h
    · exact specForm4 p w h
    · exact specForm5 p w h
end Go.Proofs.YtbppdfjigcelkaaGreatDoor
