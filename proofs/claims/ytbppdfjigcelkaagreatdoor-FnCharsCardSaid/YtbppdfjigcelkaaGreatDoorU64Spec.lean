
/- The walks of the two CharsetOf. -/

/- Plain mathematics of taking base 64: lists of bytes alone; no program. -/

/- The walks of a digit and its value in the model; the room for an answer. -/

/- The walk of UnBase64 in the model. -/
import Derived.Test.YtbppdfjigcelkaaGreatDoorCsName
import Derived.Test.YtbppdfjigcelkaaGreatDoorWildPlain
import Derived.WalkKit
import Derived.WalkSmall
import Derived.WalkLawsBesides
import Derived.WalkSpells
import Derived.Laws.Strings
import Derived.RegionTactic
import Derived.Outline
namespace Go.Proofs.YtbppdfjigcelkaaGreatDoor
open Go.RowKit
/-- The number of a name, from a row on. -/
def setFrom (k : Nat) (x : List UInt8) : Int := match (tab.drop k).find? (fun r => r.1 == x) with | some r => r.2 | none => 0
set_option maxRecDepth 20000 in
theorem setFrom_step (k : Nat) (x : List UInt8) (h : k < tab.length) : setFrom k x = if tab[k].1 = x then tab[k].2 else setFrom (k + 1) x := by
  unfold setFrom
  rw [List.drop_eq_getElem_cons h, List.find?_cons]
  by_cases e : tab[k].1 = x
  · rw [if_pos e, beq_iff_eq.2 e]
  · rw [if_neg e, beq_eq_false_iff_ne.2 e]
set_option maxRecDepth 20000 in
theorem setFrom_long (x : List UInt8) (h : 20 < x.length) : setFrom 0 x = 0 := by
  have e : (tab.drop 0).find? (fun r => r.1 == x) = none := by
    rw [List.find?_eq_none]
    intro r hr e
    have e := beq_iff_eq.1 e
    have hall : ∀ r ∈ tab, r.1.length ≤ 20 := by decide
    have := hall r hr
    rw [e] at this
    omega
  unfold setFrom
  rw [e]
set_option maxRecDepth 20000 in
set_option maxHeartbeats 1000000 in
theorem implOf (s : ByteArray) (w : World) (hs : s.size ≤ 1048576) (t : TypeId) (fr : Nat × Nat) (h0 : w.heap[0]? = some (.cells arr t fr)) (hz : 0 < w.heap.size) :
    Calls Tryz.prog 49 #[.string s] w fun e w' => e = .returned (.int .i64 (setFrom 0 (lower s.data.toList))) ∧ Below w.heap.size w w' := by
  by_cases hlong : 100000 < s.size
  · rw [setFrom_long _ (by simp [lower]; omega)]
    go_enter Tryz.func49, Tryz.ntmps49
    go_wp2
    go_ret
    exact ⟨rfl, Below.refl _ _⟩
  have hlw := mkH (implLowered s w (by omega))
  generalize lower s.data.toList = x at *
  have hc0 : decide ((100000 : Int) < (s.size : Int)) = false := by simp; omega
  go_enter Tryz.func49, Tryz.ntmps49
  go_wp2_with (first | (go_at_call 23; go_in) | fail)
  refine hlw.out.mono ?_
  rintro e w1 ⟨rfl, hb1⟩
  have h01 : w1.heap[0]? = some (.cells arr t fr) := (hb1.block 0 hz).trans h0
  clear h0
  go_wp2_with (refine wpList_load_row rfl 104 _ rfl 0 rfl t arr fr _ h01 Tryz.underlying104 rfl (by kernel_rfl) ?_)
  clear h01
  go_loopw [10] (fun i wr => ∃ k : Nat, k ≤ 9 ∧ i = .int .i64 k ∧ Hid (setFrom k x = setFrom 0 x) ∧ Below w.heap.size w wr) (fun i _ => 9 - (RowKit.intOf i).toNat)
  case atStart => exact ⟨0, by omega, rfl, rfl, hb1⟩
  case round =>
    obtain ⟨k, hk, rfl, hp, hb⟩ := hrel
    have hbs := hb.size
    by_cases hlt : k < 9
    · obtain rfl | rfl | rfl | rfl | rfl | rfl | rfl | rfl | rfl : k = 0 ∨ k = 1 ∨ k = 2 ∨ k = 3 ∨ k = 4 ∨ k = 5 ∨ k = 6 ∨ k = 7 ∨ k = 8 := by omega
      · have hst : setFrom 0 x = if [117, 115, 45, 97, 115, 99, 105, 105] = x then (1 : Int) else setFrom 1 x := setFrom_step 0 x (by decide)
        have hidx := idx0 wr
        by_cases e : [117, 115, 45, 97, 115, 99, 105, 105] = x
        · rw [if_pos e] at hst
          have hq : ([117, 115, 45, 97, 115, 99, 105, 105] == x) = true := beq_iff_eq.2 e
          have Hr : Hid (setFrom 0 x = 1) := hp.out.symm.trans hst
          clear hst e hp
          go_wp2
          go_ret
          rw [Hr.out]
          exact ⟨rfl, hb.alloc hbs _⟩
        · rw [if_neg e] at hst
          have hq : ([117, 115, 45, 97, 115, 99, 105, 105] == x) = false := beq_eq_false_iff_ne.2 e
          have Hr : Hid (setFrom 1 x = setFrom 0 x) := hst.symm.trans hp.out
          clear hst e hp
          go_wp2
          go_roundw
          case rel => exact ⟨1, by omega, by go_num, Hr, hb.alloc hbs _⟩
          case measure => simp [RowKit.intOf]
      · have hst : setFrom 1 x = if [97, 115, 99, 105, 105] = x then (1 : Int) else setFrom 2 x := setFrom_step 1 x (by decide)
        have hidx := idx1 wr
        by_cases e : [97, 115, 99, 105, 105] = x
        · rw [if_pos e] at hst
          have hq : ([97, 115, 99, 105, 105] == x) = true := beq_iff_eq.2 e
          have Hr : Hid (setFrom 0 x = 1) := hp.out.symm.trans hst
          clear hst e hp
          go_wp2
          go_ret
          rw [Hr.out]
          exact ⟨rfl, hb.alloc hbs _⟩
        · rw [if_neg e] at hst
          have hq : ([97, 115, 99, 105, 105] == x) = false := beq_eq_false_iff_ne.2 e
          have Hr : Hid (setFrom 2 x = setFrom 0 x) := hst.symm.trans hp.out
          clear hst e hp
          go_wp2
          go_roundw
          case rel => exact ⟨2, by omega, by go_num, Hr, hb.alloc hbs _⟩
          case measure => simp [RowKit.intOf]
      · have hst : setFrom 2 x = if [105, 115, 111, 45, 56, 56, 53, 57, 45, 49] = x then (2 : Int) else setFrom 3 x := setFrom_step 2 x (by decide)
        have hidx := idx2 wr
        by_cases e : [105, 115, 111, 45, 56, 56, 53, 57, 45, 49] = x
        · rw [if_pos e] at hst
          have hq : ([105, 115, 111, 45, 56, 56, 53, 57, 45, 49] == x) = true := beq_iff_eq.2 e
          have Hr : Hid (setFrom 0 x = 2) := hp.out.symm.trans hst
          clear hst e hp
          go_wp2
          go_ret
          rw [Hr.out]
          exact ⟨rfl, hb.alloc hbs _⟩
        · rw [if_neg e] at hst
          have hq : ([105, 115, 111, 45, 56, 56, 53, 57, 45, 49] == x) = false := beq_eq_false_iff_ne.2 e
          have Hr : Hid (setFrom 3 x = setFrom 0 x) := hst.symm.trans hp.out
          clear hst e hp
          go_wp2
          go_roundw
          case rel => exact ⟨3, by omega, by go_num, Hr, hb.alloc hbs _⟩
          case measure => simp [RowKit.intOf]
      · have hst : setFrom 3 x = if [108, 97, 116, 105, 110, 49] = x then (2 : Int) else setFrom 4 x := setFrom_step 3 x (by decide)
        have hidx := idx3 wr
        by_cases e : [108, 97, 116, 105, 110, 49] = x
        · rw [if_pos e] at hst
          have hq : ([108, 97, 116, 105, 110, 49] == x) = true := beq_iff_eq.2 e
          have Hr : Hid (setFrom 0 x = 2) := hp.out.symm.trans hst
          clear hst e hp
          go_wp2
          go_ret
          rw [Hr.out]
          exact ⟨rfl, hb.alloc hbs _⟩
        · rw [if_neg e] at hst
          have hq : ([108, 97, 116, 105, 110, 49] == x) = false := beq_eq_false_iff_ne.2 e
          have Hr : Hid (setFrom 4 x = setFrom 0 x) := hst.symm.trans hp.out
          clear hst e hp
          go_wp2
          go_roundw
          case rel => exact ⟨4, by omega, by go_num, Hr, hb.alloc hbs _⟩
          case measure => simp [RowKit.intOf]
      · have hst : setFrom 4 x = if [105, 115, 111, 45, 56, 56, 53, 57, 45, 49, 53] = x then (3 : Int) else setFrom 5 x := setFrom_step 4 x (by decide)
        have hidx := idx4 wr
        by_cases e : [105, 115, 111, 45, 56, 56, 53, 57, 45, 49, 53] = x
        · rw [if_pos e] at hst
          have hq : ([105, 115, 111, 45, 56, 56, 53, 57, 45, 49, 53] == x) = true := beq_iff_eq.2 e
          have Hr : Hid (setFrom 0 x = 3) := hp.out.symm.trans hst
          clear hst e hp
          go_wp2
          go_ret
          rw [Hr.out]
          exact ⟨rfl, hb.alloc hbs _⟩
        · rw [if_neg e] at hst
          have hq : ([105, 115, 111, 45, 56, 56, 53, 57, 45, 49, 53] == x) = false := beq_eq_false_iff_ne.2 e
          have Hr : Hid (setFrom 5 x = setFrom 0 x) := hst.symm.trans hp.out
          clear hst e hp
          go_wp2
          go_roundw
          case rel => exact ⟨5, by omega, by go_num, Hr, hb.alloc hbs _⟩
          case measure => simp [RowKit.intOf]
      · have hst : setFrom 5 x = if [108, 97, 116, 105, 110, 57] = x then (3 : Int) else setFrom 6 x := setFrom_step 5 x (by decide)
        have hidx := idx5 wr
        by_cases e : [108, 97, 116, 105, 110, 57] = x
        · rw [if_pos e] at hst
          have hq : ([108, 97, 116, 105, 110, 57] == x) = true := beq_iff_eq.2 e
          have Hr : Hid (setFrom 0 x = 3) := hp.out.symm.trans hst
          clear hst e hp
          go_wp2
          go_ret
          rw [Hr.out]
          exact ⟨rfl, hb.alloc hbs _⟩
        · rw [if_neg e] at hst
          have hq : ([108, 97, 116, 105, 110, 57] == x) = false := beq_eq_false_iff_ne.2 e
          have Hr : Hid (setFrom 6 x = setFrom 0 x) := hst.symm.trans hp.out
          clear hst e hp
          go_wp2
          go_roundw
          case rel => exact ⟨6, by omega, by go_num, Hr, hb.alloc hbs _⟩
          case measure => simp [RowKit.intOf]
      · have hst : setFrom 6 x = if [117, 116, 102, 45, 56] = x then (4 : Int) else setFrom 7 x := setFrom_step 6 x (by decide)
        have hidx := idx6 wr
        by_cases e : [117, 116, 102, 45, 56] = x
        · rw [if_pos e] at hst
          have hq : ([117, 116, 102, 45, 56] == x) = true := beq_iff_eq.2 e
          have Hr : Hid (setFrom 0 x = 4) := hp.out.symm.trans hst
          clear hst e hp
          go_wp2
          go_ret
          rw [Hr.out]
          exact ⟨rfl, hb.alloc hbs _⟩
        · rw [if_neg e] at hst
          have hq : ([117, 116, 102, 45, 56] == x) = false := beq_eq_false_iff_ne.2 e
          have Hr : Hid (setFrom 7 x = setFrom 0 x) := hst.symm.trans hp.out
          clear hst e hp
          go_wp2
          go_roundw
          case rel => exact ⟨7, by omega, by go_num, Hr, hb.alloc hbs _⟩
          case measure => simp [RowKit.intOf]
      · have hst : setFrom 7 x = if [117, 116, 102, 56] = x then (4 : Int) else setFrom 8 x := setFrom_step 7 x (by decide)
        have hidx := idx7 wr
        by_cases e : [117, 116, 102, 56] = x
        · rw [if_pos e] at hst
          have hq : ([117, 116, 102, 56] == x) = true := beq_iff_eq.2 e
          have Hr : Hid (setFrom 0 x = 4) := hp.out.symm.trans hst
          clear hst e hp
          go_wp2
          go_ret
          rw [Hr.out]
          exact ⟨rfl, hb.alloc hbs _⟩
        · rw [if_neg e] at hst
          have hq : ([117, 116, 102, 56] == x) = false := beq_eq_false_iff_ne.2 e
          have Hr : Hid (setFrom 8 x = setFrom 0 x) := hst.symm.trans hp.out
          clear hst e hp
          go_wp2
          go_roundw
          case rel => exact ⟨8, by omega, by go_num, Hr, hb.alloc hbs _⟩
          case measure => simp [RowKit.intOf]
      · have hst : setFrom 8 x = if [117, 116, 102, 45, 49, 54, 98, 101] = x then (5 : Int) else setFrom 9 x := setFrom_step 8 x (by decide)
        have hidx := idx8 wr
        by_cases e : [117, 116, 102, 45, 49, 54, 98, 101] = x
        · rw [if_pos e] at hst
          have hq : ([117, 116, 102, 45, 49, 54, 98, 101] == x) = true := beq_iff_eq.2 e
          have Hr : Hid (setFrom 0 x = 5) := hp.out.symm.trans hst
          clear hst e hp
          go_wp2
          go_ret
          rw [Hr.out]
          exact ⟨rfl, hb.alloc hbs _⟩
        · rw [if_neg e] at hst
          have hq : ([117, 116, 102, 45, 49, 54, 98, 101] == x) = false := beq_eq_false_iff_ne.2 e
          have Hr : Hid (setFrom 9 x = setFrom 0 x) := hst.symm.trans hp.out
          clear hst e hp
          go_wp2
          go_roundw
          case rel => exact ⟨9, by omega, by go_num, Hr, hb.alloc hbs _⟩
          case measure => simp [RowKit.intOf]
    · have hk' : k = 9 := by omega
      subst hk'
      have Hr : Hid (setFrom 0 x = 0) := hp.out.symm
      clear hp
      go_wp2
      go_ret
      rw [Hr.out]
      exact ⟨rfl, hb⟩
end Go.Proofs.YtbppdfjigcelkaaGreatDoor
namespace Go.Proofs.YtbppdfjigcelkaaGreatDoor
namespace Pu

/-- The digit of a number of six bits. -/
def d64 (n : Nat) : UInt8 := if n < 26 then UInt8.ofNat (65 + n) else if n < 52 then UInt8.ofNat (71 + n) else if n < 62 then UInt8.ofNat (n - 4) else if n = 62 then 43 else 47

set_option maxRecDepth 20000 in
theorem d64_a (n : Nat) (h : n < 26) : ((d64 n).toNat : Int) = 65 + n := by
  unfold d64
  rw [if_pos h, UInt8.toNat_ofNat_of_lt' (by simp [UInt8.size]; omega)]
  omega
set_option maxRecDepth 20000 in
theorem d64_b (n : Nat) (h0 : 26 ≤ n) (h : n < 52) : ((d64 n).toNat : Int) = 97 + n - 26 := by
  unfold d64
  rw [if_neg (by omega), if_pos h, UInt8.toNat_ofNat_of_lt' (by simp [UInt8.size]; omega)]
  omega
set_option maxRecDepth 20000 in
theorem d64_c (n : Nat) (h0 : 52 ≤ n) (h : n < 62) : ((d64 n).toNat : Int) = 48 + n - 52 := by
  unfold d64
  rw [if_neg (by omega), if_neg (by omega), if_pos h, UInt8.toNat_ofNat_of_lt' (by simp [UInt8.size]; omega)]
  omega

/-- The number of a digit, as the tests on a byte tell it; 64: it is none. -/
def val (c : UInt8) : Nat :=
  if 65 ≤ c.toNat ∧ c.toNat ≤ 90 then c.toNat - 65 else if 97 ≤ c.toNat ∧ c.toNat ≤ 122 then c.toNat - 71 else if 48 ≤ c.toNat ∧ c.toNat ≤ 57 then c.toNat + 4 else if c.toNat = 43 then 62 else if c.toNat = 47 then 63 else 64

set_option maxRecDepth 20000 in
theorem val_le (c : UInt8) : val c ≤ 64 := by
  unfold val
  repeat' split
  all_goals omega
set_option maxRecDepth 20000 in
theorem d64_nat (n : Nat) (h : n < 64) : (d64 n).toNat = if n < 26 then 65 + n else if n < 52 then 71 + n else if n < 62 then n - 4 else if n = 62 then 43 else 47 := by
  unfold d64
  repeat' split
  all_goals first | rfl | (rw [UInt8.toNat_ofNat_of_lt' (by simp [UInt8.size]; omega)])
set_option maxRecDepth 20000 in
/-- A byte is the digit n just if its number is n. -/
theorem d64_val (c : UInt8) (n : Nat) (h : n < 64) : (d64 n).toNat = c.toNat ↔ val c = n := by
  have h8 : c.toNat < 256 := UInt8.toNat_lt _
  rw [d64_nat n h]
  unfold val
  constructor
  · intro e
    repeat' split at e
    all_goals (repeat' split) <;> omega
  · intro e
    repeat' split at e
    all_goals (repeat' split) <;> omega

def isSpace (c : UInt8) : Bool := c.toNat == 32 || c.toNat == 9 || c.toNat == 13 || c.toNat == 10
def strip (l : List UInt8) : List UInt8 := l.filter fun c => !isSpace c

set_option maxRecDepth 20000 in
theorem strip_take (l : List UInt8) (k : Nat) (h : k < l.length) : strip (l.take (k + 1)) = strip (l.take k) ++ (if isSpace l[k] then [] else [l[k]]) := by
  unfold strip
  rw [List.take_succ_eq_append_getElem h, List.filter_append]
  by_cases e : isSpace l[k] = true <;> simp [e]
set_option maxRecDepth 20000 in
theorem strip_len (l : List UInt8) (k : Nat) : (strip (l.take k)).length ≤ k := by
  unfold strip
  exact Nat.le_trans (List.length_filter_le _ _) (List.length_take_le _ _)

/-- What one group of four says; the flag: it is the last one. -/
def quad (last : Bool) (a b c e : UInt8) : Option (List UInt8) :=
  if val a < 64 ∧ val b < 64 ∧ val c < 64 ∧ val e < 64 then
    some [UInt8.ofNat (val a * 4 + val b / 16), UInt8.ofNat (val b % 16 * 16 + val c / 4), UInt8.ofNat (val c % 4 * 64 + val e)]
  else if last = true ∧ val a < 64 ∧ val b < 64 ∧ val b % 16 = 0 ∧ c = 61 ∧ e = 61 then some [UInt8.ofNat (val a * 4 + val b / 16)]
  else if last = true ∧ val a < 64 ∧ val b < 64 ∧ val c < 64 ∧ val c % 4 = 0 ∧ e = 61 then some [UInt8.ofNat (val a * 4 + val b / 16), UInt8.ofNat (val b % 16 * 16 + val c / 4)]
  else none

/-- The groups, one by one. -/
def quads : List UInt8 → Option (List UInt8)
  | [] => some []
  | a :: b :: c :: e :: r => (quad r.isEmpty a b c e).bind fun x => (quads r).map fun y => x ++ y
  | _ => none

def un64 (l : List UInt8) : Option (List UInt8) := if (strip l).length % 4 = 0 then quads (strip l) else none
end Pu
end Go.Proofs.YtbppdfjigcelkaaGreatDoor
namespace Go.Proofs.YtbppdfjigcelkaaGreatDoor
open Go.RowKit Go.Lib
set_option maxRecDepth 20000 in
set_option maxHeartbeats 400000 in
theorem specDigitU (n : Nat) (w : World) (hn : n < 64) :
    Calls Tryz.prog 42 #[.int .i64 n] w fun e w' => e = .returned (.int .u8 ((Pu.d64 n).toNat : Int)) ∧ w = w' := by
  by_cases h1 : n < 26
  · rw [Pu.d64_a n h1]
    go_enter Tryz.func42, Tryz.ntmps42
    go_wp2
    go_ret
    exact ⟨rfl, rfl⟩
  by_cases h2 : n < 52
  · rw [Pu.d64_b n (by omega) h2]
    go_enter Tryz.func42, Tryz.ntmps42
    go_wp2
    go_ret
    exact ⟨rfl, rfl⟩
  by_cases h3 : n < 62
  · rw [Pu.d64_c n (by omega) h3]
    go_enter Tryz.func42, Tryz.ntmps42
    go_wp2
    go_ret
    exact ⟨rfl, rfl⟩
  by_cases h4 : n = 62
  · subst h4
    go_enter Tryz.func42, Tryz.ntmps42
    go_wp2
    go_ret
    exact ⟨rfl, rfl⟩
  · have h5 : n = 63 := by omega
    subst h5
    go_enter Tryz.func42, Tryz.ntmps42
    go_wp2
    go_ret
    exact ⟨rfl, rfl⟩
def valI (c : UInt8) : Int := if Pu.val c < 64 then (Pu.val c : Int) else -1
def bytesV : Option (List UInt8) → Value
  | none => .agg #[.bool false, .string ⟨#[]⟩]
  | some l => .agg #[.bool true, .string ⟨l.toArray⟩]
/-- The world with the room for the answer. -/
structure Room (w W : World) : Prop where
  size : W.heap.size = w.heap.size + 1
  below : Below w.heap.size w W
  c0 : W.cell? ⟨w.heap.size, 0, none⟩ = some (.bool false)
  c1 : W.cell? ⟨w.heap.size, 1, none⟩ = some (.string ⟨#[]⟩)
  f0 : W.frozen? ⟨w.heap.size, 0, none⟩ = false
  f1 : W.frozen? ⟨w.heap.size, 1, none⟩ = false
set_option maxRecDepth 20000 in
theorem room (w : World) : Room w (w.alloc (.cells #[.bool false, .string ⟨#[]⟩] 27)) :=
  ⟨by simp, (Below.refl _ _).alloc (Nat.le_refl _) _, by simp, by simp, by simp, by simp⟩
set_option maxRecDepth 20000 in
theorem Room.on {w W W' : World} (h : Room w W) (hb : Below W.heap.size W W') :
    W'.cell? ⟨w.heap.size, 0, none⟩ = some (.bool false) ∧ W'.cell? ⟨w.heap.size, 1, none⟩ = some (.string ⟨#[]⟩) ∧
    W'.frozen? ⟨w.heap.size, 0, none⟩ = false ∧ W'.frozen? ⟨w.heap.size, 1, none⟩ = false := by
  have hs := h.size
  exact ⟨(hb.cell (p := ⟨w.heap.size, 0, none⟩) (by simp; omega)).trans h.c0, (hb.cell (p := ⟨w.heap.size, 1, none⟩) (by simp; omega)).trans h.c1,
    (hb.frozen (p := ⟨w.heap.size, 0, none⟩) (by simp; omega)).trans h.f0, (hb.frozen (p := ⟨w.heap.size, 1, none⟩) (by simp; omega)).trans h.f1⟩
end Go.Proofs.YtbppdfjigcelkaaGreatDoor
namespace Go.Proofs.YtbppdfjigcelkaaGreatDoor
open Go.RowKit Go.Lib
set_option maxRecDepth 20000 in
theorem bc1 (x : Int) (a : UInt8) (h1 : x = (a.toNat : Int)) : (#[.int .u8 x] : Array Value).toList = byteCells [a] := by subst h1; rfl
set_option maxRecDepth 20000 in
theorem bc2 (x y : Int) (a b : UInt8) (h1 : x = (a.toNat : Int)) (h2 : y = (b.toNat : Int)) : (#[.int .u8 x, .int .u8 y] : Array Value).toList = byteCells [a, b] := by subst h1; subst h2; rfl
set_option maxRecDepth 20000 in
theorem bc3 (x y z : Int) (a b c : UInt8) (h1 : x = (a.toNat : Int)) (h2 : y = (b.toNat : Int)) (h3 : z = (c.toNat : Int)) : (#[.int .u8 x, .int .u8 y, .int .u8 z] : Array Value).toList = byteCells [a, b, c] := by subst h1; subst h2; subst h3; rfl
set_option maxRecDepth 20000 in
theorem ofN (n : Nat) (h : n < 256) : (UInt8.ofNat n).toNat = n := UInt8.toNat_ofNat_of_lt' (by simpa [UInt8.size] using h)
set_option maxRecDepth 20000 in
theorem q61 (c : UInt8) (h : c.toNat = 61) : c = 61 := UInt8.toNat.inj h
set_option maxRecDepth 20000 in
theorem Own.part {B : Nat} {v : Value} {p : List UInt8} {w : World} (h : Own B v p w) :
    ∃ base cap, v = .slice base p.length cap ∧ (p = [] ∨ ∃ g, base = some ⟨g, 0, none⟩ ∧ g < w.heap.size ∧ ∀ (j : Nat) (hj : j < p.length), w.cell? ⟨g, j, none⟩ = some (.int .u8 (p[j].toNat : Int))) := by
  rcases h.form with ⟨rfl, rfl⟩ | ⟨g, cap, rfl⟩
  · exact ⟨none, 0, rfl, .inl rfl⟩
  · exact ⟨_, cap, rfl, .inr ⟨g, rfl, (World.ownsRow.lt h g rfl).2, fun j hj => h.cell j hj⟩⟩
set_option maxRecDepth 20000 in
theorem Pu.val61 : Pu.val 61 = 64 := by decide
set_option maxRecDepth 20000 in
theorem valI_good (c : UInt8) (h : Pu.val c < 64) : valI c = (Pu.val c : Int) := if_pos h
set_option maxRecDepth 20000 in
theorem valI_bad (c : UInt8) (h : ¬ Pu.val c < 64) : valI c = -1 := if_neg h
set_option maxRecDepth 20000 in
theorem Pu.quads_step (d : List UInt8) (k : Nat) (h : k + 4 ≤ d.length) :
    Pu.quads (d.drop k) = (Pu.quad (decide (k + 4 = d.length)) (d[k]'(by omega)) (d[k + 1]'(by omega)) (d[k + 2]'(by omega)) (d[k + 3]'(by omega))).bind fun x => (Pu.quads (d.drop (k + 4))).map fun y => x ++ y := by
  have e : d.drop k = d[k]'(by omega) :: d[k + 1]'(by omega) :: d[k + 2]'(by omega) :: d[k + 3]'(by omega) :: d.drop (k + 4) := by
    rw [List.drop_eq_getElem_cons (show k < d.length by omega), List.drop_eq_getElem_cons (show k + 1 < d.length by omega), List.drop_eq_getElem_cons (show k + 2 < d.length by omega), List.drop_eq_getElem_cons (show k + 3 < d.length by omega)]
  rw [e, Pu.quads]
  have e2 : (d.drop (k + 4)).isEmpty = decide (k + 4 = d.length) := by
    rw [Bool.eq_iff_iff]
    simp [List.isEmpty_iff, List.drop_eq_nil_iff]
    omega
  rw [e2]
set_option maxRecDepth 20000 in
theorem Pu.quads_some (d : List UInt8) (k : Nat) (p x : List UInt8) (h : k + 4 ≤ d.length) (hp : Pu.quads d = (Pu.quads (d.drop k)).map fun y => p ++ y)
    (hq : Pu.quad (decide (k + 4 = d.length)) (d[k]'(by omega)) (d[k + 1]'(by omega)) (d[k + 2]'(by omega)) (d[k + 3]'(by omega)) = some x) :
    Pu.quads d = (Pu.quads (d.drop (k + 4))).map fun y => (p ++ x) ++ y := by
  rw [hp, Pu.quads_step d k h, hq]
  cases Pu.quads (d.drop (k + 4)) <;> simp
set_option maxRecDepth 20000 in
theorem Pu.quads_none (d : List UInt8) (k : Nat) (p : List UInt8) (h : k + 4 ≤ d.length) (hp : Pu.quads d = (Pu.quads (d.drop k)).map fun y => p ++ y)
    (hq : Pu.quad (decide (k + 4 = d.length)) (d[k]'(by omega)) (d[k + 1]'(by omega)) (d[k + 2]'(by omega)) (d[k + 3]'(by omega)) = none) :
    Pu.quads d = none := by
  rw [hp, Pu.quads_step d k h, hq]
  simp
set_option maxRecDepth 20000 in
theorem round4 (d : List UInt8) (k : Nat) (p : List UInt8) (g : Nat) (wr : World) (h : k + 4 ≤ d.length) (hp : Pu.quads d = (Pu.quads (d.drop k)).map fun y => p ++ y)
    (hc : ∀ (j : Nat) (hj : j < d.length), wr.cell? ⟨g, j, none⟩ = some (.int .u8 (d[j].toNat : Int))) :
    ∃ a b c e : UInt8, wr.cell? ⟨g, k, none⟩ = some (.int .u8 (a.toNat : Int)) ∧ wr.cell? ⟨g, k + 1, none⟩ = some (.int .u8 (b.toNat : Int)) ∧ wr.cell? ⟨g, k + 2, none⟩ = some (.int .u8 (c.toNat : Int)) ∧ wr.cell? ⟨g, k + 3, none⟩ = some (.int .u8 (e.toNat : Int)) ∧
      (∀ x, Pu.quad (decide (k + 4 = d.length)) a b c e = some x → Pu.quads d = (Pu.quads (d.drop (k + 4))).map fun y => (p ++ x) ++ y) ∧ (Pu.quad (decide (k + 4 = d.length)) a b c e = none → Pu.quads d = none) :=
  ⟨_, _, _, _, hc k (by omega), hc (k + 1) (by omega), hc (k + 2) (by omega), hc (k + 3) (by omega), fun x => Pu.quads_some d k p x h hp, Pu.quads_none d k p h hp⟩
end Go.Proofs.YtbppdfjigcelkaaGreatDoor
