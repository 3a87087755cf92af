
/- Two digits of base 16, as the library's reader of numbers takes them. -/

/- A line of quoted bytes, the program's side. -/

/- Blanks left out ahead of a text, by the library. -/

/- Signs of hex digits and blanks, the specification's side. -/

/- A word's signs, plain: the underscores as blanks, the coded bytes. -/

/- Underscores as blanks: what the library's ReplaceAll makes. -/

/- A table of rows of a text and a number, as it lies in memory: of no program. -/

/- The walks of the two CharsetName, and what the table gives them. -/
import Derived.Test.YtbppdfjigcelkaaGreatDoorWildPlain
import Derived.Test.YtbppdfjigcelkaaGreatDoorNinePlain
import Derived.Lib.AsciiSet
import Derived.Lib.Replace
import Derived.OpenShut
import Derived.LaidLaws
import Derived.ChangeArms
import Derived.ChangeSame
import Derived.Test.YtbppdfjigcelkaaGreatDoorRows
import Derived.WalkKit
import Derived.ProofKit
import Derived.LaidMore
import Derived.Laws.Rows
import Derived.WalkSmall
import Derived.WalkLawsBesides
import Derived.WalkSpells
namespace Go.Proofs.YtbppdfjigcelkaaGreatDoor
open Go.RowKit Go.Lib
set_option maxRecDepth 20000 in
theorem isEmpty_neH (q : ByteArray) (h0 : ¬ q.size = 0) : q.toList.isEmpty = false := by
  rw [ByteArray.toList_eq, List.isEmpty_eq_false_iff]
  intro e
  exact h0 (by rw [← Pl.len_list, e]; rfl)
set_option maxRecDepth 20000 in
theorem isEmpty_ofH (q : ByteArray) (h0 : q.size = 0) : q.toList.isEmpty = true := by
  rw [ByteArray.toList_eq, List.isEmpty_iff]
  exact List.length_eq_zero_iff.1 (by rw [Pl.len_list]; exact h0)
namespace Pl
/-- A digit of base 16. -/
def hexV (c : UInt8) : Option Nat := if 48 ≤ c.toNat ∧ c.toNat ≤ 57 then some (c.toNat - 48) else if 65 ≤ c.toNat ∧ c.toNat ≤ 70 then some (c.toNat - 55) else if 97 ≤ c.toNat ∧ c.toNat ≤ 102 then some (c.toNat - 87) else none
set_option maxRecDepth 20000 in
theorem hexV_lt {c : UInt8} {d : Nat} (h : hexV c = some d) : d < 16 := by
  unfold hexV at h
  repeat' split at h
  all_goals first | (cases h; omega) | cases h
/-- What the library's reader of numbers sees of a byte: 0 a digit, 1 a letter up to f, 2 another letter, 3 neither. -/
def lowI (x : Nat) : Int := bits .or .u8 (x : Int) 32
set_option maxRecDepth 20000 in
theorem low_cases : ∀ X : Fin 256, (48 ≤ X.val ∧ X.val ≤ 57 ∧ hexV (UInt8.ofNat X.val) = some (X.val - 48)) ∨
    (¬ (48 ≤ X.val ∧ X.val ≤ 57) ∧ 97 ≤ lowI X.val ∧ lowI X.val ≤ 102 ∧ hexV (UInt8.ofNat X.val) = some (lowI X.val - 87).toNat) ∨
    (¬ (48 ≤ X.val ∧ X.val ≤ 57) ∧ 103 ≤ lowI X.val ∧ lowI X.val ≤ 122 ∧ hexV (UInt8.ofNat X.val) = none) ∨
    (¬ (48 ≤ X.val ∧ X.val ≤ 57) ∧ (lowI X.val < 97 ∨ 122 < lowI X.val) ∧ hexV (UInt8.ofNat X.val) = none) := by decide +kernel
set_option maxRecDepth 20000 in
theorem low_cases' (c : UInt8) : (48 ≤ c.toNat ∧ c.toNat ≤ 57 ∧ hexV c = some (c.toNat - 48)) ∨
    (¬ (48 ≤ c.toNat ∧ c.toNat ≤ 57) ∧ 97 ≤ lowI c.toNat ∧ lowI c.toNat ≤ 102 ∧ hexV c = some (lowI c.toNat - 87).toNat) ∨
    (¬ (48 ≤ c.toNat ∧ c.toNat ≤ 57) ∧ 103 ≤ lowI c.toNat ∧ lowI c.toNat ≤ 122 ∧ hexV c = none) ∨
    (¬ (48 ≤ c.toNat ∧ c.toNat ≤ 57) ∧ (lowI c.toNat < 97 ∨ 122 < lowI c.toNat) ∧ hexV c = none) := by
  have := low_cases ⟨c.toNat, UInt8.toNat_lt c⟩
  simpa using this
/-- The number that digits of base 16 make, as far as they are digits. -/
def hexNum : List UInt8 → Nat → Option Nat
  | [], n => some n
  | c :: r, n => match hexV c with | some d => hexNum r (n * 16 + d) | none => none
end Pl
/-- What the library's inner reader of numbers answers. -/
def puV : Option Nat → Value
  | some n => .tuple #[.int .u64 n, .nilIface]
  | none => .tuple #[.int .u64 0, .iface 152 (.int .i64 2)]
set_option maxRecDepth 20000 in
theorem low95 : Pl.lowI 95 = 127 := by decide +kernel
set_option maxRecDepth 100000 in
set_option maxHeartbeats 2000000 in
theorem libParse (s : ByteArray) (hs : s.size = 2) (w : World) : Calls Tryz.prog 103 #[.string s, .int .i64 16, .int .i64 8] w fun e w' => e = .returned (puV (Pl.hexNum s.data.toList 0)) ∧ Below w.heap.size w w' := by
  have hne : s.toList.isEmpty = false := isEmpty_neH s (by omega)
  obtain ⟨cap, W, hcv, hh, hbW⟩ := bytesOf (P := Tryz.prog) 9 22 Tryz.underlying9 Tryz.underlying22 Tryz.underlying5 s w
  go_enter Tryz.func103, Tryz.ntmps103
  go_wp2
  clear hcv
  go_loopw [12, 13, 101] (fun u n i wr => ∃ (k acc : Nat) (a : Int), u = .bool false ∧ n = .int .u64 a ∧ i = .int .i64 k ∧ k ≤ 2 ∧ Hid (a = (acc : Int) ∧ ((k = 0 → acc = 0) ∧ (k ≤ 1 → acc ≤ 15)) ∧ acc ≤ 255 ∧ Pl.hexNum (s.data.toList.drop k) acc = Pl.hexNum s.data.toList 0) ∧ wr = W) (fun _ _ i _ => 2 - (Lib.intOf i).toNat)
  case atStart => exact ⟨0, 0, 0, rfl, rfl, rfl, by omega, ⟨rfl, ⟨fun _ => rfl, fun _ => by omega⟩, by omega, rfl⟩, rfl⟩
  case round =>
    obtain ⟨k, acc, a, rfl, rfl, rfl, hk, hH, rfl⟩ := hrel
    obtain ⟨ha, hm, hm2, hp⟩ := hH.out
    clear hH
    have hll : s.data.toList.length = 2 := by rw [Pl.len_list]; exact hs
    have a0 : 0 ≤ a := by omega
    by_cases hlt : k < 2
    · obtain ⟨hc, -⟩ := hh k (by omega)
      rw [List.drop_eq_getElem_cons (by omega)] at hp
      generalize s.data.toList[k] = c at hc hp
      have h8 : c.toNat < 256 := UInt8.toNat_lt _
      have hlo := Tryz.internal_strconv_lower (c.toNat : Int) wr
      change Calls Tryz.prog 109 #[.int .u8 (c.toNat : Int)] wr fun e w' => e = .returned (.int .u8 (Pl.lowI c.toNat)) ∧ w' = wr at hlo
      have a1 : a ≤ 15 := by omega
      have hacc : acc ≤ 15 := by omega
      clear hh hll hne
      rcases Pl.low_cases' c with ⟨h1, h2, hv⟩ | ⟨h1, h2, h3, hv⟩ | ⟨h1, h2, h3, hv⟩ | ⟨h1, h2, hv⟩
      · have hE : Hid (a * 16 + ((c.toNat : Int) - 48) = ((acc * 16 + (c.toNat - 48) : Nat) : Int) ∧ ((k + 1 = 0 → acc * 16 + (c.toNat - 48) = 0) ∧ (k + 1 ≤ 1 → acc * 16 + (c.toNat - 48) ≤ 15)) ∧ acc * 16 + (c.toNat - 48) ≤ 255 ∧ Pl.hexNum (s.data.toList.drop (k + 1)) (acc * 16 + (c.toNat - 48)) = Pl.hexNum s.data.toList 0) := by
          refine ⟨by omega, ?_, by omega, ?_⟩
          · exact ⟨fun h => by omega, fun h => by have := hm.1 (by omega); omega⟩
          · rw [Pl.hexNum, hv] at hp; exact hp
        have iov : a * 16 + ((c.toNat : Int) - 48) ≤ 255 := by omega
        clear hp hv hlo ha hm hm2 hacc
        go_wp2
        go_roundw
        case rel => exact ⟨k + 1, _, a * 16 + ((c.toNat : Int) - 48), rfl, by first | rfl | (congr 1; omega), by go_num, by omega, hE, trivial⟩
        case measure => simp [Lib.intOf]; omega
      · have hE : Hid (a * 16 + (Pl.lowI c.toNat - 87) = ((acc * 16 + (Pl.lowI c.toNat - 87).toNat : Nat) : Int) ∧ ((k + 1 = 0 → acc * 16 + (Pl.lowI c.toNat - 87).toNat = 0) ∧ (k + 1 ≤ 1 → acc * 16 + (Pl.lowI c.toNat - 87).toNat ≤ 15)) ∧ acc * 16 + (Pl.lowI c.toNat - 87).toNat ≤ 255 ∧ Pl.hexNum (s.data.toList.drop (k + 1)) (acc * 16 + (Pl.lowI c.toNat - 87).toNat) = Pl.hexNum s.data.toList 0) := by
          refine ⟨by omega, ?_, by omega, ?_⟩
          · exact ⟨fun h => by omega, fun h => by have := hm.1 (by omega); omega⟩
          · rw [Pl.hexNum, hv] at hp; exact hp
        have iov : a * 16 + (Pl.lowI c.toNat - 87) ≤ 255 := by omega
        clear hp hv ha hm hm2 hacc
        have h95 : ¬ (c.toNat : Int) = 95 := fun h => by rw [show c.toNat = 95 by omega, low95] at h2 h3; omega
        generalize Pl.lowI c.toNat = lo at hlo h2 h3 hE iov
        have h1' : c.toNat < 48 ∨ 57 < c.toNat := by omega
        clear h1
        rcases h1' with h1 | h1
        all_goals
          go_wp2_with (go_at_call 109; go_must (refine hlo.mono ?_; rintro e w' ⟨rfl, rfl⟩))
          go_roundw
          case rel => exact ⟨k + 1, _, a * 16 + (lo - 87), rfl, by first | rfl | (congr 1; omega), by go_num, by omega, hE, trivial⟩
          case measure => simp [Lib.intOf]; omega
      · have hE : Hid (Pl.hexNum s.data.toList 0 = none) := show _ = _ by rw [Pl.hexNum, hv] at hp; exact hp.symm
        clear hp hv ha hm hm2 hacc
        have h95 : ¬ (c.toNat : Int) = 95 := fun h => by rw [show c.toNat = 95 by omega, low95] at h2 h3; omega
        generalize Pl.lowI c.toNat = lo at hlo h2 h3
        have h1' : c.toNat < 48 ∨ 57 < c.toNat := by omega
        have h2' : 97 ≤ lo := by omega
        clear h1
        rcases h1' with h1 | h1
        all_goals
          go_wp2_with (go_at_call 109; go_must (refine hlo.mono ?_; rintro e w' ⟨rfl, rfl⟩))
          go_ret2
          exact ⟨by rw [hE.out]; rfl, hbW⟩
      · have hE : Hid (Pl.hexNum s.data.toList 0 = none) := show _ = _ by rw [Pl.hexNum, hv] at hp; exact hp.symm
        clear hp hv ha hm hm2 hacc
        by_cases h95 : c.toNat = 95
        · rw [h95, low95] at hlo
          rw [h95] at hc
          clear h2 h1
          go_wp2_with (go_at_call 109; go_must (refine hlo.mono ?_; rintro e w' ⟨rfl, rfl⟩))
          go_ret2
          exact ⟨by rw [hE.out]; rfl, hbW⟩
        · have h95' : ¬ (c.toNat : Int) = 95 := by omega
          generalize Pl.lowI c.toNat = lo at hlo h2
          have h1' : c.toNat < 48 ∨ 57 < c.toNat := by omega
          have h2' : lo < 97 ∨ (97 ≤ lo ∧ 122 < lo) := by omega
          clear h1 h2
          rcases h1' with h1 | h1 <;> rcases h2' with h2 | ⟨h2, h3⟩
          all_goals
            go_wp2_with (go_at_call 109; go_must (refine hlo.mono ?_; rintro e w' ⟨rfl, rfl⟩))
            go_ret2
            exact ⟨by rw [hE.out]; rfl, hbW⟩
    · have hE : Hid (Pl.hexNum s.data.toList 0 = some acc) := show _ = _ by rw [List.drop_eq_nil_of_le (by omega), Pl.hexNum] at hp; exact hp.symm
      obtain rfl : k = 2 := by omega
      clear hp hm hm2 hh hll
      subst ha
      go_wp2
      go_ret2
      exact ⟨by rw [hE.out]; rfl, hbW⟩
/-- The library's variable ErrSyntax holds an error or none. -/
def ErrCell (w : World) : Prop := 5 < w.heap.size ∧ ∃ ev, w.cell? ⟨5, 0, none⟩ = some ev ∧ (ev = .nilIface ∨ ∃ te pe, ev = .iface te pe)
set_option maxRecDepth 20000 in
theorem ErrCell.below {w w' : World} (h : ErrCell w) (hb : Below w.heap.size w w') : ErrCell w' := by
  obtain ⟨h0, ev, h1, h2⟩ := h
  refine ⟨Nat.lt_of_lt_of_le h0 hb.size, ev, ?_, h2⟩
  rw [← h1]
  exact hb.cell h0
set_option maxRecDepth 40000 in
set_option maxHeartbeats 1000000 in
theorem libParseUint (s : ByteArray) (hs : s.size = 2) (w : World) (hE : ErrCell w) : Calls Tryz.prog 94 #[.string s, .int .i64 16, .int .i64 8] w fun e w' => (match Pl.hexNum s.data.toList 0 with | some n => e = .returned (.tuple #[.int .u64 n, .nilIface]) | none => ∃ N, e = .returned (.tuple #[.int .u64 0, .iface 154 (.pointer (some ⟨N, 0, none⟩))])) ∧ Below w.heap.size w w' := by
  have hP := libParse s hs w
  cases hx : Pl.hexNum s.data.toList 0 with
  | some n =>
    rw [hx] at hP
    unfold puV at hP
    dsimp only
    go_enter Tryz.func94, Tryz.ntmps94
    go_wp2_with fail
    refine hP.mono ?_
    rintro e w2 ⟨rfl, hb2⟩
    go_wp2
    go_ret2
    exact ⟨rfl, hb2⟩
  | none =>
    rw [hx] at hP
    unfold puV at hP
    dsimp only
    go_enter Tryz.func94, Tryz.ntmps94
    go_wp2_with fail
    refine hP.mono ?_
    rintro e w2 ⟨rfl, hb2⟩
    obtain ⟨-, ev, h1, h2⟩ := hE.below hb2
    go_wp2_with fail
    refine (Tryz.strconv_toError_syntax _ s 16 8 ev _ (by omega) h1 h2).mono ?_
    rintro e w3 ⟨M, rfl, -, -, hb3⟩
    have hbx := hb2.trans (hb3.mono hb2.size)
    go_wp2
    go_ret2
    exact ⟨⟨M, rfl⟩, hbx⟩
namespace Pl
/-- The byte that the two digits at a text's beginning make. -/
def hex2 : List UInt8 → Option Nat
  | a :: b :: _ => hexNum [a, b] 0
  | _ => none
set_option maxRecDepth 20000 in
theorem hexNum2_lt {a b : UInt8} {n : Nat} (h : hexNum [a, b] 0 = some n) : n < 256 := by
  unfold hexNum at h
  cases ha : hexV a with
  | none => rw [ha] at h; cases h
  | some d =>
    rw [ha] at h
    dsimp only at h
    unfold hexNum at h
    cases hb : hexV b with
    | none => rw [hb] at h; cases h
    | some e =>
      rw [hb] at h
      dsimp only at h
      unfold hexNum at h
      cases h
      have := hexV_lt ha
      have := hexV_lt hb
      omega
set_option maxRecDepth 20000 in
theorem hex2_lt {l : List UInt8} {n : Nat} (h : hex2 l = some n) : n < 256 := by
  unfold hex2 at h
  split at h
  · exact hexNum2_lt h
  · cases h
set_option maxRecDepth 20000 in
theorem hex2_short {l : List UInt8} (h : l.length < 2) : hex2 l = none := by
  match l, h with
  | [], _ => rfl
  | [a], _ => rfl
set_option maxRecDepth 20000 in
theorem hex2_take (l : List UInt8) (h : 2 ≤ l.length) : hex2 l = hexNum (l.take 2) 0 := by
  match l, h with
  | a :: b :: r, _ => rfl
end Pl
end Go.Proofs.YtbppdfjigcelkaaGreatDoor
namespace Go.Proofs.YtbppdfjigcelkaaGreatDoor
open Go.RowKit Go.Lib
set_option maxRecDepth 40000 in
set_option maxHeartbeats 1000000 in
theorem implHexByte (s : ByteArray) (w : World) (hs : s.size ≤ 1100000) (hE : ErrCell w) : Calls Tryz.prog 81 #[.string s] w fun e w' => e = .returned (match Pl.hex2 s.data.toList with | some n => .tuple #[.int .u8 n, .bool true] | none => .tuple #[.int .u8 0, .bool false]) ∧ Below w.heap.size w w' := by
  by_cases h2 : s.size < 2
  · rw [Pl.hex2_short (by rw [Pl.len_list]; exact h2)]
    dsimp only
    go_enter Tryz.func81, Tryz.ntmps81
    go_wp2
    go_ret2
    exact ⟨rfl, Below.refl _ _⟩
  · have ht : (s.extract 0 2).size = 2 := by simp; omega
    have hP := libParseUint (s.extract 0 2) ht w hE
    rw [show (s.extract 0 2).data.toList = s.data.toList.take 2 by simp] at hP
    rw [Pl.hex2_take _ (by rw [Pl.len_list]; omega)]
    cases hx : Pl.hexNum (s.data.toList.take 2) 0 with
    | some n =>
      have hn : n < 256 := by
        have := Pl.hex2_take s.data.toList (by rw [Pl.len_list]; omega)
        rw [hx] at this
        exact Pl.hex2_lt this
      rw [hx] at hP
      dsimp only at hP ⊢
      go_enter Tryz.func81, Tryz.ntmps81
      go_wp2_with fail
      refine hP.mono ?_
      rintro e w2 ⟨rfl, hb2⟩
      go_wp2
      go_region
      all_goals
        go_wp2
        go_ret2
        exact ⟨rfl, hb2.drew⟩
    | none =>
      rw [hx] at hP
      dsimp only at hP ⊢
      go_enter Tryz.func81, Tryz.ntmps81
      go_wp2_with fail
      refine hP.mono ?_
      rintro e w2 ⟨⟨M, rfl⟩, hb2⟩
      go_wp2
      go_region
      all_goals
        go_wp2
        go_ret2
        exact ⟨rfl, hb2.drew⟩
namespace Pl
/-- A line's bytes behind what is there; none: an ill sign. -/
def qb (out : List UInt8) (l : List UInt8) : Option (List UInt8) :=
  match l with
  | [] => some out
  | c :: r => if c = 61 then (match hex2 r with | some n => qb (out ++ [UInt8.ofNat n]) (r.drop 2) | none => none) else qb (out ++ [c]) r
  termination_by l.length
  decreasing_by all_goals (simp; try omega)
set_option maxRecDepth 20000 in
theorem qb_done {p : List UInt8} {x : Option (List UInt8)} {l : List UInt8} {k : Nat} (hk : l.length ≤ k) (hp : qb p (l.drop k) = x) : x = some p := by
  rw [List.drop_eq_nil_of_le hk, qb] at hp
  exact hp.symm
set_option maxRecDepth 20000 in
theorem qb_plain {p : List UInt8} {x : Option (List UInt8)} {l : List UInt8} {k : Nat} (hk : k < l.length) (h : l[k] ≠ 61) (hp : qb p (l.drop k) = x) : qb (p ++ [l[k]]) (l.drop (k + 1)) = x := by
  rw [List.drop_eq_getElem_cons hk, qb, if_neg h] at hp
  exact hp
set_option maxRecDepth 20000 in
theorem qb_hex {p : List UInt8} {x : Option (List UInt8)} {l : List UInt8} {k n : Nat} (hk : k < l.length) (h : l[k] = 61) (hn : hex2 (l.drop (k + 1)) = some n) (hp : qb p (l.drop k) = x) : qb (p ++ [UInt8.ofNat n]) (l.drop (k + 3)) = x := by
  rw [List.drop_eq_getElem_cons hk, qb, if_pos h, hn, List.drop_drop] at hp
  exact hp
set_option maxRecDepth 20000 in
theorem qb_bad {p : List UInt8} {x : Option (List UInt8)} {l : List UInt8} {k : Nat} (hk : k < l.length) (h : l[k] = 61) (hn : hex2 (l.drop (k + 1)) = none) (hp : qb p (l.drop k) = x) : x = none := by
  rw [List.drop_eq_getElem_cons hk, qb, if_pos h, hn] at hp
  exact hp.symm
set_option maxRecDepth 20000 in
theorem hex2_room {l : List UInt8} {n : Nat} (h : hex2 l = some n) : 2 ≤ l.length := by
  by_cases h2 : l.length < 2
  · rw [hex2_short h2] at h; cases h
  · omega
end Pl
set_option maxRecDepth 20000 in
theorem ext_tail (s : ByteArray) (k : Nat) : (s.extract k s.size).data.toList = s.data.toList.drop k := by
  simp only [ByteArray.data_extract, Array.toList_extract, List.extract_eq_take_drop]
  rw [List.take_of_length_le (by rw [List.length_drop, Pl.len_list]; omega)]
/-- What a line's bytes are, as they are answered. -/
def QbOut (B : Nat) (x : Option (List UInt8)) (e : Ending) (w' : World) : Prop := match x with | some p => ∃ v, e = .returned (.tuple #[v, .bool true]) ∧ Own B v p w' | none => e = .returned (.tuple #[.slice none 0 0, .bool false])
set_option maxRecDepth 20000 in
theorem QbOut.no {B : Nat} {x : Option (List UInt8)} {w' : World} (h : x = none) : QbOut B x (.returned (.tuple #[.slice none 0 0, .bool false])) w' := by subst h; rfl
set_option maxRecDepth 20000 in
theorem QbOut.yes {B : Nat} {x : Option (List UInt8)} {p : List UInt8} {v : Value} {w' : World} (h : x = some p) (ho : Own B v p w') : QbOut B x (.returned (.tuple #[v, .bool true])) w' := by subst h; exact ⟨v, rfl, ho⟩
set_option maxRecDepth 20000 in
theorem Own.keepbU {B : Nat} {v : Value} {p : List UInt8} {w w' : World} (h : Own B v p w) (hb : Below w.heap.size w w') : Own B v p w' := by
  obtain ⟨h1, h2⟩ := h
  refine ⟨h1, ?_⟩
  rcases h2 with h2 | ⟨g, cap, cur, e1, e2, e3, e4⟩
  · exact .inl h2
  · refine .inr ⟨g, cap, cur, e1, e2, ?_, e4⟩
    rw [hb.block g (by rw [Array.getElem?_eq_some_iff] at e3; exact e3.1)]
    exact e3
set_option maxRecDepth 40000 in
set_option maxHeartbeats 2000000 in
theorem implQuotedBytes (s : ByteArray) (w : World) (hs : s.size ≤ 1100000) (hE : ErrCell w) : Calls Tryz.prog 64 #[.string s] w fun e w' => QbOut w.heap.size (Pl.qb [] s.data.toList) e w' ∧ Below w.heap.size w w' := by
  obtain ⟨i0, hi, hy0, hy1, hy2⟩ := info_parts Tryz.info5
  have HE : Hid (ErrCell w) := hE
  clear hE
  obtain ⟨x, hx⟩ : ∃ x, Pl.qb [] s.data.toList = x := ⟨_, rfl⟩
  rw [hx]
  have Hx : Hid (Pl.qb [] s.data.toList = x) := hx
  clear hx
  have hll : s.data.toList.length = s.size := Pl.len_list s
  go_enter Tryz.func64, Tryz.ntmps64
  go_wp2
  go_loopw [2, 4] (fun v i wr => ∃ (k : Nat) (p : List UInt8), k ≤ s.size ∧ i = .int .i64 k ∧ p.length ≤ k ∧ Hid (Pl.qb p (s.data.toList.drop k) = x) ∧ Own w.heap.size v p wr ∧ Below w.heap.size w wr) (fun _ i _ => s.size - (Lib.intOf i).toNat)
  case atStart => exact ⟨0, [], Nat.zero_le _, rfl, by simp, Hx, Own.nil _ _, Below.refl _ _⟩
  case round =>
    obtain ⟨k, p, hk, rfl, hpl, hp, hown, hb⟩ := hrel
    by_cases hlt : k < s.size
    · have h8 : s[k].toNat < 256 := UInt8.toNat_lt _
      have hat := Pl.at_list s k hlt
      by_cases hc : s[k] = 61
      · have hpb := fun h => Pl.qb_bad (by omega) (hat.trans hc) h hp.out
        have hph := fun n h => Pl.qb_hex (n := n) (by omega) (hat.trans hc) h hp.out
        have hH := implHexByte (s.extract (k + 1) s.size) wr (by simp; omega) (HE.out.below hb)
        rw [ext_tail s (k + 1)] at hH
        have hci : (s[k].toNat : Int) = 61 := by rw [hc]; rfl
        clear hp hat
        cases hn : Pl.hex2 (s.data.toList.drop (k + 1)) with
        | none =>
          have hE : Hid (x = none) := show _ = _ from hpb hn
          rw [hn] at hH
          dsimp only at hH
          clear hpb hph hn
          go_wp2_with (go_at_call 81; go_must (refine hH.mono ?_; rintro e w2 ⟨rfl, hb2⟩))
          go_ret2
          exact ⟨QbOut.no hE.out, hb.trans (hb2.mono hb.size)⟩
        | some n =>
          have hE : Hid (Pl.qb (p ++ [UInt8.ofNat n]) (s.data.toList.drop (k + 3)) = x) := hph n hn
          have hn2 := Pl.hex2_lt hn
          have hroom := Pl.hex2_room hn
          rw [List.length_drop, hll] at hroom
          rw [hn] at hH
          dsimp only at hH
          clear hpb hph hn

          go_wp2_with (first | (go_at_call 81; go_must (refine hH.mono ?_; rintro e w2 ⟨rfl, hb2⟩; have hown2 := hown.keepbU hb2; have hbw := hb.trans (hb2.mono hb.size))) | (at_builtin; go_must (refine wp_app (W := w) rfl _ _ 22 rfl i0 Tryz.underlying22 hi hy0 hy1 hy2 w.heap.size u2 p rfl hown2 _ [UInt8.ofNat n] (by simp [byteCells]; omega) 1 1 rfl rfl (by simp; omega) (Nat.le_refl _) hbw ?_; intro v3 w3 hown3 hb3)))
          go_roundw
          case rel => exact ⟨k + 3, _, by omega, by go_num, by simp; omega, hE, hown3, hb3⟩
          case measure => simp [Lib.intOf]; omega
      · have hE : Hid (Pl.qb (p ++ [s[k]]) (s.data.toList.drop (k + 1)) = x) := show _ = _ by have := Pl.qb_plain (by omega) (by rw [hat]; exact hc) hp.out; rw [hat] at this; exact this
        have hci : ¬ (s[k].toNat : Int) = 61 := fun h => hc (UInt8.toNat_inj.1 (by simpa using (by omega : s[k].toNat = 61)))
        clear hp hat hc
        generalize hsk : s[k] = c at *
        go_wp2_with (at_builtin; go_must (refine wp_app (W := w) rfl _ _ 22 rfl i0 Tryz.underlying22 hi hy0 hy1 hy2 w.heap.size u2 p rfl hown _ [c] (by simp [byteCells]) 1 1 rfl rfl (by simp; omega) (Nat.le_refl _) hb ?_; intro v3 w3 hown3 hb3))
        go_roundw
        case rel => exact ⟨k + 1, _, by omega, by go_num, by simp; omega, hE, hown3, hb3⟩
        case measure => simp [Lib.intOf]; omega
    · have hE : Hid (x = some p) := show _ = _ from Pl.qb_done (by omega) hp.out
      clear hp
      go_wp2
      go_ret2
      exact ⟨QbOut.yes hE.out hown, hb⟩
end Go.Proofs.YtbppdfjigcelkaaGreatDoor
namespace Go.Proofs.YtbppdfjigcelkaaGreatDoor
open Go.RowKit Go.Lib
namespace Pw
def bl (c : UInt8) : Bool := c == 32 || c == 9
/-- How many blanks stand ahead. -/
def gap : List UInt8 → Nat
  | [] => 0
  | c :: r => if bl c then gap r + 1 else 0
set_option maxRecDepth 20000 in
theorem gap_le : ∀ l : List UInt8, gap l ≤ l.length
  | [] => Nat.le_refl _
  | c :: r => by
    unfold gap
    split
    · exact Nat.succ_le_succ (gap_le r)
    · exact Nat.zero_le _
end Pw
set_option maxRecDepth 20000 in
theorem ext_tail2 (s : ByteArray) (k : Nat) : (s.extract k s.size).extract 1 (s.extract k s.size).size = s.extract (k + 1) s.size := by
  apply ByteArray.ext
  apply Array.ext
  · simp; omega
  · intro i h1 h2
    simp [Nat.add_assoc]
set_option maxRecDepth 20000 in
theorem ext_head (s : ByteArray) (k : Nat) (h : k < s.size) : (s.extract k s.size)[0]'(by simp; omega) = s[k] := by
  simp [ByteArray.getElem_extract]
set_option maxRecDepth 40000 in
set_option maxHeartbeats 2000000 in
theorem libTrimLeftAscii (s : ByteArray) (b : Nat) (w : World) (hset : ∀ x : UInt8, w.cell? ⟨b, x.toNat, none⟩ = some (.bool (Pw.bl x))) :
    Calls Tryz.prog 55 #[.string s, .pointer (some ⟨b, 0, none⟩)] w fun e w' => e = .returned (.string (s.extract (Pw.gap s.data.toList) s.size)) ∧ w' = w := by
  have Hset := mkH hset
  clear hset
  go_enter Tryz.func55, Tryz.ntmps55
  go_wp2
  go_loopw [0] (fun v wr => ∃ k : Nat, k ≤ s.size ∧ v = .string (s.extract k s.size) ∧ Hid (k + Pw.gap (s.data.toList.drop k) = Pw.gap s.data.toList) ∧ wr = w) (fun v _ => match v with | .string t => t.size | _ => 0)
  case atStart => exact ⟨0, Nat.zero_le _, by rw [ByteArray.extract_zero_size], mkH (by simp), rfl⟩
  case round =>
    obtain ⟨k, hk, rfl, hp, rfl⟩ := hrel
    have hsz : (s.extract k s.size).size = s.size - k := by simp
    have hll : s.data.toList.length = s.size := by simp
    by_cases hlt : k < s.size
    · have hat := ext_head s k hlt
      have hcut := ext_tail2 s k
      have hq := hp.out
      have hg : s.data.toList[k]'(by omega) = s[k] := by simp [ByteArray.getElem_eq_getElem_data]
      rw [List.drop_eq_getElem_cons (show k < s.data.toList.length by omega), Pw.gap, hg] at hq
      have hcon := Tryz.asciiSet_contains b s[k] _ wr (Hset.out s[k])
      obtain ⟨t, ht⟩ : ∃ t, t = s.extract k s.size := ⟨_, rfl⟩
      have hat' : ∀ h, t[0]'h = s[k] := by subst ht; intro h; exact hat
      have hsz' : t.size = s.size - k := by rw [ht]; exact hsz
      have hcut' : t.extract 1 t.size = s.extract (k + 1) s.size := by rw [ht]; exact hcut
      have Ht := mkH ht
      have hpos : 0 < t.size := by omega
      have hposI : (0 : Int) < (t.size : Int) := by omega
      rw [← ht]
      clear hat hcut hsz ht hp Hset hg
      cases hb : Pw.bl s[k]
      · rw [hb] at hq hcon
        have hE : Hid (Pw.gap s.data.toList = k) := mkH (by rw [← hq]; simp)
        clear hq hb
        go_wp2_with (go_at_call 59; go_must (refine hcon.mono ?_; rintro e w2 ⟨rfl, rfl⟩))
        go_ret
        rw [hE.out, ← Ht.out]
        exact ⟨rfl, rfl⟩
      · rw [hb] at hq hcon
        have hE : Hid (k + 1 + Pw.gap (s.data.toList.drop (k + 1)) = Pw.gap s.data.toList) := mkH (by rw [← hq]; simp; omega)
        clear hq hb
        go_wp2_with (go_at_call 59; go_must (refine hcon.mono ?_; rintro e w2 ⟨rfl, rfl⟩))
        go_roundw
        case rel => exact ⟨k + 1, by omega, by first | rfl | rw [hcut'] | rw [← hsz', hcut'], hE, trivial⟩
        case measure => simp; omega
    · obtain rfl : k = s.size := by omega
      have hE : Hid (Pw.gap s.data.toList = s.size) := mkH (by have := hp.out; rw [List.drop_eq_nil_of_le (by omega)] at this; exact this.symm)
      go_wp2
      go_ret
      rw [hE.out]
      exact ⟨rfl, rfl⟩
set_option maxRecDepth 20000 in
theorem blanks_setW (x : UInt8) : ([32, 9] : List UInt8).contains x = Pw.bl x := by
  by_cases h1 : x = 32 <;> by_cases h2 : x = 9 <;> simp [Pw.bl, h1, h2]
set_option maxRecDepth 40000 in
set_option maxHeartbeats 2000000 in
theorem libTrimLeft (s : ByteArray) (w : World) :
    Calls Tryz.prog 43 #[.string s, .string ⟨#[32, 9]⟩] w fun e w' => e = .returned (.string (s.extract (Pw.gap s.data.toList) s.size)) ∧ Below w.heap.size w w' := by
  by_cases h0 : s.size = 0
  · have hE := isEmpty_ofH s h0
    have hs0 : s.extract (Pw.gap s.data.toList) s.size = s := by
      apply ByteArray.ext
      apply Array.ext
      · simp; omega
      · intro i h1 h2; simp at h1; omega
    rw [hs0]
    go_enter Tryz.func43, Tryz.ntmps43
    go_wp2
    go_ret
    exact ⟨rfl, Below.refl _ _⟩
  · have hE := isEmpty_neH s h0
    have hz : ∀ w, (zeroValue 90).run Tryz.prog w = .ok (.agg (Array.replicate 256 (.bool false))) w := fun w => by kernel_rfl
    go_enter Tryz.func43, Tryz.ntmps43
    go_wp2_with fail
    refine (Tryz.strings_makeASCIISet hz ⟨#[32, 9]⟩ _ (by decide) (by intro j b hj; match j, hj with | 0, hj => cases hj; decide | 1, hj => cases hj; decide)).mono ?_
    rintro e w2 ⟨rfl, rfl⟩
    obtain ⟨W, hW⟩ : ∃ W, W = (w.alloc (.cells (setCells [32, 9]) 90)).alloc (.cells (Array.replicate 256 (.bool false)) 90) := ⟨_, rfl⟩
    have hbW : Below w.heap.size w W := by rw [hW]; exact ((Below.refl _ _).alloc (Nat.le_refl _) _).alloc (by simp) _
    have hgW : ((w.alloc (.cells (setCells [32, 9]) 90)).alloc (.cells (Array.replicate 256 (.bool false)) 90)).heap[w.heap.size + 1]? = some (.cells (Array.replicate 256 (.bool false)) 90 (0, 0)) := by
      have := heap_alloc_at (w.alloc (.cells (setCells [32, 9]) 90)) (.cells (Array.replicate 256 (.bool false)) 90)
      simpa using this
    have hgs := grown_setRow W (w.heap.size + 1) (setCells [32, 9])
    have hb2 := hbW.grown hgs hbW.size (fun j hj => by cases hj; exact Nat.le_succ _)
    have hset : ∀ x : UInt8, (W.setRow (w.heap.size + 1) (setCells [32, 9])).cell? ⟨w.heap.size + 1, x.toNat, none⟩ = some (.bool (Pw.bl x)) := by
      intro x
      rw [cell_setRow_same W _ _ _ _ 90 (0, 0) (by rw [hW]; exact hgW), setCells_at, blanks_setW]
    have hT := libTrimLeftAscii s (w.heap.size + 1) _ hset
    rw [hW] at hT hb2
    go_wp2_with (first | (refine wpL_store_row rfl 90 _ _ rfl (w.heap.size + 1) (setCells [32, 9]) rfl rfl 90 _ hgW (by rw [setCells_size]; kernel_rfl) (by rw [setCells_size]; simp) (setCells_one _) ?_) | (go_at_call 55; go_must (refine hT.mono ?_; rintro e w3 ⟨rfl, rfl⟩)))
    go_ret
    exact ⟨rfl, hb2⟩
end Go.Proofs.YtbppdfjigcelkaaGreatDoor
namespace Go.Proofs.YtbppdfjigcelkaaGreatDoor
open Go.RowKit Go.Lib
namespace Pl
def hexI (c : UInt8) : Int := match hexV c with | some d => (d : Int) | none => -1
set_option maxRecDepth 20000 in
theorem hexI_some {c : UInt8} {d : Nat} (h : hexV c = some d) : hexI c = d := by unfold hexI; rw [h]
set_option maxRecDepth 20000 in
theorem hexI_none {c : UInt8} (h : hexV c = none) : hexI c = -1 := by unfold hexI; rw [h]
set_option maxRecDepth 20000 in
theorem hex2_at (l : List UInt8) (i : Nat) (h : i + 2 < l.length) : hex2 (l.drop (i + 1)) = match hexV l[i + 1], hexV l[i + 2] with | some d, some e => some (d * 16 + e) | _, _ => none := by
  rw [List.drop_eq_getElem_cons (by omega), List.drop_eq_getElem_cons (by omega)]
  show hexNum [l[i + 1], l[i + 2]] 0 = _
  simp only [hexNum]
  cases hexV l[i + 1] <;> cases hexV l[i + 2] <;> simp
end Pl
end Go.Proofs.YtbppdfjigcelkaaGreatDoor
namespace Go.Proofs.YtbppdfjigcelkaaGreatDoor
open Go.Lib
namespace Pw
def und (c : UInt8) : UInt8 := if c = 95 then 32 else c
/-- A word's bytes behind those that are there, as the specification takes them. -/
def wq (out : List UInt8) (l : List UInt8) : Option (List UInt8) :=
  match l with
  | [] => some out
  | c :: r => if c = 95 then wq (out ++ [32]) r else if c = 61 then (match Pl.hex2 r with | some n => wq (out ++ [UInt8.ofNat n]) (r.drop 2) | none => none) else wq (out ++ [c]) r
  termination_by l.length
  decreasing_by all_goals (simp; try omega)
set_option maxRecDepth 20000 in
theorem hexV_und (c : UInt8) : Pl.hexV (und c) = Pl.hexV c := by
  unfold und
  split
  · rename_i h
    subst h
    decide
  · rfl
set_option maxRecDepth 20000 in
theorem hex2_und (l : List UInt8) : Pl.hex2 (l.map und) = Pl.hex2 l := by
  match l with
  | [] => rfl
  | [a] => rfl
  | a :: b :: r =>
    show Pl.hexNum [und a, und b] 0 = Pl.hexNum [a, b] 0
    simp only [Pl.hexNum, hexV_und]
set_option maxRecDepth 20000 in
theorem und_eq (c : UInt8) (h : c ≠ 95) : und c = c := if_neg h
set_option maxRecDepth 20000 in
theorem qb_und (out : List UInt8) (l : List UInt8) : Pl.qb out (l.map und) = wq out l := by
  match l with
  | [] => rw [List.map_nil, Pl.qb, wq]
  | c :: r =>
    rw [List.map_cons, Pl.qb, wq]
    by_cases h1 : c = 95
    · subst h1
      rw [if_pos rfl, show und 95 = 32 from rfl, if_neg (by decide)]
      exact qb_und _ r
    · rw [if_neg h1, und_eq c h1]
      by_cases h2 : c = 61
      · rw [if_pos h2, if_pos h2, hex2_und]
        cases Pl.hex2 r with
        | none => rfl
        | some n =>
          dsimp only
          rw [← List.map_drop]
          exact qb_und _ (r.drop 2)
      · rw [if_neg h2, if_neg h2]
        exact qb_und _ r
  termination_by l.length
  decreasing_by all_goals (simp; try omega)
set_option maxRecDepth 20000 in
theorem wq_done {p : List UInt8} {x : Option (List UInt8)} {l : List UInt8} {k : Nat} (hk : l.length ≤ k) (hp : wq p (l.drop k) = x) : x = some p := by
  rw [List.drop_eq_nil_of_le hk, wq] at hp
  exact hp.symm
set_option maxRecDepth 20000 in
theorem wq_und {p : List UInt8} {x : Option (List UInt8)} {l : List UInt8} {k : Nat} (hk : k < l.length) (h : l[k] = 95) (hp : wq p (l.drop k) = x) : wq (p ++ [32]) (l.drop (k + 1)) = x := by
  rw [List.drop_eq_getElem_cons hk, wq, if_pos h] at hp
  exact hp
set_option maxRecDepth 20000 in
theorem wq_plain {p : List UInt8} {x : Option (List UInt8)} {l : List UInt8} {k : Nat} (hk : k < l.length) (h1 : l[k] ≠ 95) (h2 : l[k] ≠ 61) (hp : wq p (l.drop k) = x) : wq (p ++ [l[k]]) (l.drop (k + 1)) = x := by
  rw [List.drop_eq_getElem_cons hk, wq, if_neg h1, if_neg h2] at hp
  exact hp
set_option maxRecDepth 20000 in
theorem wq_hex {p : List UInt8} {x : Option (List UInt8)} {l : List UInt8} {k n : Nat} (hk : k < l.length) (h : l[k] = 61) (hn : Pl.hex2 (l.drop (k + 1)) = some n) (hp : wq p (l.drop k) = x) : wq (p ++ [UInt8.ofNat n]) (l.drop (k + 3)) = x := by
  rw [List.drop_eq_getElem_cons hk, wq, if_neg (by rw [h]; decide), if_pos h, hn] at hp
  dsimp only at hp
  rw [List.drop_drop] at hp
  exact hp
set_option maxRecDepth 20000 in
theorem wq_bad {p : List UInt8} {x : Option (List UInt8)} {l : List UInt8} {k : Nat} (hk : k < l.length) (h : l[k] = 61) (hn : Pl.hex2 (l.drop (k + 1)) = none) (hp : wq p (l.drop k) = x) : x = none := by
  rw [List.drop_eq_getElem_cons hk, wq, if_neg (by rw [h]; decide), if_pos h, hn] at hp
  exact hp.symm
end Pw
end Go.Proofs.YtbppdfjigcelkaaGreatDoor
namespace Go.Proofs.YtbppdfjigcelkaaGreatDoor
open Go.Lib
namespace Pw
set_option maxRecDepth 20000 in
theorem index_no : ∀ l : List UInt8, (95 : UInt8) ∉ l → index l [95] = -1
  | [], _ => rfl
  | b :: l, h => by
    have hb : ¬ b = 95 := fun e => h (by rw [e]; exact List.mem_cons_self)
    have hl := index_no l (fun e => h (List.mem_cons_of_mem _ e))
    have hp : List.isPrefixOf [95] (b :: l) = false := by simp [List.isPrefixOf, Ne.symm hb]
    rw [index, hp, hl]
    rfl
set_option maxRecDepth 20000 in
theorem index_at : ∀ (p r : List UInt8), (95 : UInt8) ∉ p → index (p ++ 95 :: r) [95] = (p.length : Int)
  | [], r, _ => by
    rw [List.nil_append, index, if_pos (by simp [List.isPrefixOf])]
    rfl
  | b :: p, r, h => by
    have hb : ¬ b = 95 := fun e => h (by rw [e]; exact List.mem_cons_self)
    have hl := index_at p r (fun e => h (List.mem_cons_of_mem _ e))
    have hp : List.isPrefixOf [95] (b :: (p ++ 95 :: r)) = false := by simp [List.isPrefixOf, Ne.symm hb]
    rw [List.cons_append, index, hp, hl, if_neg (by simp), if_neg (by rw [beq_iff_eq]; omega)]
    simp
set_option maxRecDepth 20000 in
theorem und_none (l : List UInt8) (h : (95 : UInt8) ∉ l) : l.map und = l := by
  have : l.map und = l.map id := List.map_congr_left fun c hc => und_eq c (fun e => h (by rw [← e]; exact hc))
  rw [this, List.map_id]
set_option maxRecDepth 20000 in
theorem repK : ∀ (k : Nat) (l : List UInt8), l.count 95 ≤ k → replaceK [95] [32] k l = l.map und
  | 0, l, h => by
    rw [und_none l (List.count_eq_zero.1 (by omega))]
    rfl
  | k + 1, l, h => by
    by_cases hm : (95 : UInt8) ∈ l
    · obtain ⟨p, r, rfl, hp⟩ := List.eq_append_cons_of_mem hm
      rw [replaceK_hit [95] [32] k _ p.length (index_at p r hp)]
      have hc : r.count 95 ≤ k := by
        rw [List.count_append, List.count_cons_self] at h
        omega
      have e1 : (p ++ 95 :: r).take p.length = p := List.take_left
      have e2 : (p ++ 95 :: r).drop (p.length + [(95 : UInt8)].length) = r := by
        rw [show p ++ 95 :: r = (p ++ [95]) ++ r by simp, show p.length + [(95 : UInt8)].length = (p ++ [95]).length by simp]
        exact List.drop_left
      rw [e1, e2, repK k r hc, List.map_append, List.map_cons, und_none p hp]
      simp [und]
    · rw [replaceK, index_no l hm, und_none l hm]
      rfl
set_option maxRecDepth 20000 in
theorem replace_und (l : List UInt8) : replaceAll l [95] [32] = l.map und := by
  have e : replaceAll l [95] [32] = replaceK [95] [32] (count l [95]) l := by
    unfold replaceAll replace replaceNum
    rw [if_neg (by decide), if_pos (.inl (by decide))]
  rw [e, count_one]
  exact repK _ l (Nat.le_refl _)
end Pw
end Go.Proofs.YtbppdfjigcelkaaGreatDoor
namespace Go.Proofs.YtbppdfjigcelkaaGreatDoor
open Go.ChangeShapes

def pairData {H : Type} (k : IntKind) (zs : List (List UInt8 × Int)) : DataW H := .agg (zs.map fun z => .agg [.lit (.string z.1), .lit (.int k z.2)])
def pairCell (k : IntKind) (z : List UInt8 × Int) : List Value := [.string ⟨z.1.toArray⟩, .int k z.2]

set_option maxRecDepth 20000 in
theorem cells_join (k : IntKind) : ∀ (zs : List (List UInt8 × Int)) (cs : List Value), cs.length = zs.length * 2 → (∀ (i : Nat) (hi : i < zs.length), (cs.drop (i * 2)).take 2 = pairCell k zs[i]) → cs = zs.flatMap (pairCell k) := by
  intro zs
  induction zs with
  | nil => intro cs h _; exact List.length_eq_zero_iff.1 (by simpa using h)
  | cons z r ih =>
    intro cs h hz
    have h0 := hz 0 (by simp)
    have e := ih (cs.drop 2) (by simp at h ⊢; omega) (fun i hi => by
      have := hz (i + 1) (by simpa using hi)
      rw [show (i + 1) * 2 = 2 + i * 2 by omega, ← List.drop_drop] at this
      simpa using this)
    rw [List.flatMap_cons, ← e]
    simp only [Nat.zero_mul, List.drop_zero, List.getElem_cons_zero] at h0
    rw [← h0, List.take_append_drop]

set_option maxRecDepth 20000 in
theorem cells_of_pairs {H : Type} {enc : TypeId × Value → H} {P : Program} {w : World} {base : Nat} {sp : Nat → Bool} {held : Bool} {fuel : Nat} {t e : TypeId} {n : Nat} {k : IntKind} {f0 f1 : Field} {cs : List Value} {zs : List (List UInt8 × Int)} {p : List MemPlace}
    (ht : P.underlying t = some (.array n e)) (he : P.underlying e = some (.struct #[f0, f1])) (h0 : P.underlying f0.type = some .string) (h1 : P.underlying f1.type = some (.int k))
    (o0 : f0.offset = 0) (o1 : f1.offset = 1) (c0 : P.cellsOf f0.type = 1) (c1 : P.cellsOf f1.type = 1) (ce : P.cellsOf e = 2) (ct : P.cellsOf t = zs.length * 2)
    (h : DataW.trod enc P w base sp held fuel t cs = some (pairData k zs, p)) : cs = zs.flatMap (pairCell k) := by
  obtain ⟨xs, m, rfl, hx, hl, hn, hel⟩ := DataW.trod_array ht h
  have hx1 : zs.map (fun z => (DataW.agg [.lit (.string z.1), .lit (.int k z.2)] : DataW H)) = xs.map (·.1) := by
    have := congrArg Prod.fst hx
    simpa [pairData] using this
  have hxl : xs.length = zs.length := by
    have := congrArg List.length hx1
    simpa using this.symm
  refine cells_join k zs cs (by omega) fun i hi => ?_
  have hi' := hel i (by omega)
  rw [ce] at hi'
  rw [List.getElem?_eq_getElem (by omega)] at hi'
  obtain ⟨y0, y1, n', hy, hl', e0, e1⟩ := trod_struct2 he hi'
  rw [o0, c0] at e0
  rw [o1, c1] at e1
  obtain ⟨s, es, rfl, _⟩ := DataW.trod_string h0 e0
  obtain ⟨z, ez, rfl, _⟩ := DataW.trod_int h1 e1
  have hxi : (xs.map (·.1))[i]? = some (DataW.agg [.lit (.string zs[i].1), .lit (.int k zs[i].2)] : DataW H) := by
    rw [← hx1]
    simp [hi]
  rw [List.getElem?_map, List.getElem?_eq_getElem (by omega), hy] at hxi
  simp only [Option.map_some, Option.some.injEq, DataW.agg.injEq, List.cons.injEq, DataW.lit.injEq, Lit.string.injEq, Lit.int.injEq, true_and, and_true] at hxi
  obtain ⟨hs, rfl⟩ := hxi
  have hlen : ((cs.drop (i * 2)).take 2).length = 2 := by rw [hl', ce]
  generalize (cs.drop (i * 2)).take 2 = l at *
  match l, hlen with
  | [a, b], _ =>
    simp at es ez
    subst es ez
    have : s = ⟨zs[i].1.toArray⟩ := by
      apply ByteArray.ext
      apply Array.toList_inj.1
      rw [hs]
    rw [this]
    rfl
end Go.Proofs.YtbppdfjigcelkaaGreatDoor
namespace Go.Proofs.YtbppdfjigcelkaaGreatDoor
open Go.RowKit
def tab : List (List UInt8 × Int) := [([117, 115, 45, 97, 115, 99, 105, 105], 1), ([97, 115, 99, 105, 105], 1), ([105, 115, 111, 45, 56, 56, 53, 57, 45, 49], 2), ([108, 97, 116, 105, 110, 49], 2), ([105, 115, 111, 45, 56, 56, 53, 57, 45, 49, 53], 3), ([108, 97, 116, 105, 110, 57], 3), ([117, 116, 102, 45, 56], 4), ([117, 116, 102, 56], 4), ([117, 116, 102, 45, 49, 54, 98, 101], 5)]
def arr : Array Value := #[.string ⟨#[117, 115, 45, 97, 115, 99, 105, 105]⟩, .int .i64 1, .string ⟨#[97, 115, 99, 105, 105]⟩, .int .i64 1, .string ⟨#[105, 115, 111, 45, 56, 56, 53, 57, 45, 49]⟩, .int .i64 2, .string ⟨#[108, 97, 116, 105, 110, 49]⟩, .int .i64 2, .string ⟨#[105, 115, 111, 45, 56, 56, 53, 57, 45, 49, 53]⟩, .int .i64 3, .string ⟨#[108, 97, 116, 105, 110, 57]⟩, .int .i64 3, .string ⟨#[117, 116, 102, 45, 56]⟩, .int .i64 4, .string ⟨#[117, 116, 102, 56]⟩, .int .i64 4, .string ⟨#[117, 116, 102, 45, 49, 54, 98, 101]⟩, .int .i64 5]
set_option maxRecDepth 20000 in
theorem idx0 (w : World) : (Instr.index 104 (.agg arr) (.int .i64 0)).run Tryz.prog w = .ok (.agg #[.string ⟨#[117, 115, 45, 97, 115, 99, 105, 105]⟩, .int .i64 1]) w := by kernel_rfl
set_option maxRecDepth 20000 in
theorem idx1 (w : World) : (Instr.index 104 (.agg arr) (.int .i64 1)).run Tryz.prog w = .ok (.agg #[.string ⟨#[97, 115, 99, 105, 105]⟩, .int .i64 1]) w := by kernel_rfl
set_option maxRecDepth 20000 in
theorem idx2 (w : World) : (Instr.index 104 (.agg arr) (.int .i64 2)).run Tryz.prog w = .ok (.agg #[.string ⟨#[105, 115, 111, 45, 56, 56, 53, 57, 45, 49]⟩, .int .i64 2]) w := by kernel_rfl
set_option maxRecDepth 20000 in
theorem idx3 (w : World) : (Instr.index 104 (.agg arr) (.int .i64 3)).run Tryz.prog w = .ok (.agg #[.string ⟨#[108, 97, 116, 105, 110, 49]⟩, .int .i64 2]) w := by kernel_rfl
set_option maxRecDepth 20000 in
theorem idx4 (w : World) : (Instr.index 104 (.agg arr) (.int .i64 4)).run Tryz.prog w = .ok (.agg #[.string ⟨#[105, 115, 111, 45, 56, 56, 53, 57, 45, 49, 53]⟩, .int .i64 3]) w := by kernel_rfl
set_option maxRecDepth 20000 in
theorem idx5 (w : World) : (Instr.index 104 (.agg arr) (.int .i64 5)).run Tryz.prog w = .ok (.agg #[.string ⟨#[108, 97, 116, 105, 110, 57]⟩, .int .i64 3]) w := by kernel_rfl
set_option maxRecDepth 20000 in
theorem idx6 (w : World) : (Instr.index 104 (.agg arr) (.int .i64 6)).run Tryz.prog w = .ok (.agg #[.string ⟨#[117, 116, 102, 45, 56]⟩, .int .i64 4]) w := by kernel_rfl
set_option maxRecDepth 20000 in
theorem idx7 (w : World) : (Instr.index 104 (.agg arr) (.int .i64 7)).run Tryz.prog w = .ok (.agg #[.string ⟨#[117, 116, 102, 56]⟩, .int .i64 4]) w := by kernel_rfl
set_option maxRecDepth 20000 in
theorem idx8 (w : World) : (Instr.index 104 (.agg arr) (.int .i64 8)).run Tryz.prog w = .ok (.agg #[.string ⟨#[117, 116, 102, 45, 49, 54, 98, 101]⟩, .int .i64 5]) w := by kernel_rfl
set_option maxRecDepth 20000 in
theorem gNames : Tryz.prog.globalNamed "loop.example/g00013/impl.charsetNames" = some 0 := by kernel_rfl
set_option maxRecDepth 20000 in
theorem tNames : (Tryz.prog.globals[0]?).map (·.type) = some 104 := by kernel_rfl
/-- The name of a number, from a row on. -/
def nameFrom (k : Nat) (n : Int) : List UInt8 := match (tab.drop k).find? (fun r => r.2 == n) with | some r => r.1 | none => []
set_option maxRecDepth 20000 in
theorem nameFrom_step (k : Nat) (n : Int) (h : k < tab.length) : nameFrom k n = if tab[k].2 = n then tab[k].1 else nameFrom (k + 1) n := by
  unfold nameFrom
  rw [List.drop_eq_getElem_cons h, List.find?_cons]
  by_cases e : tab[k].2 = n
  · rw [if_pos e, beq_iff_eq.2 e]
  · rw [if_neg e, beq_eq_false_iff_ne.2 e]
set_option maxRecDepth 20000 in
set_option maxHeartbeats 400000 in
theorem specName (n : Int) (w : World) :
    Calls Tryz.prog 19 #[.int .i64 n] w fun e w' => e = .returned (.string ⟨(nameFrom 0 n).toArray⟩) ∧ w = w' := by
  by_cases h1 : n = 1
  · subst h1
    go_enter Tryz.func19, Tryz.ntmps19
    go_wp2
    go_ret
    exact ⟨rfl, rfl⟩
  by_cases h2 : n = 2
  · subst h2
    go_enter Tryz.func19, Tryz.ntmps19
    go_wp2
    go_ret
    exact ⟨rfl, rfl⟩
  by_cases h3 : n = 3
  · subst h3
    go_enter Tryz.func19, Tryz.ntmps19
    go_wp2
    go_ret
    exact ⟨rfl, rfl⟩
  by_cases h4 : n = 4
  · subst h4
    go_enter Tryz.func19, Tryz.ntmps19
    go_wp2
    go_ret
    exact ⟨rfl, rfl⟩
  by_cases h5 : n = 5
  · subst h5
    go_enter Tryz.func19, Tryz.ntmps19
    go_wp2
    go_ret
    exact ⟨rfl, rfl⟩
  have e : nameFrom 0 n = [] := by
    simp [nameFrom, tab, Ne.symm h1, Ne.symm h2, Ne.symm h3, Ne.symm h4, Ne.symm h5]
  have b1 : (n == 1) = false := beq_eq_false_iff_ne.2 h1
  have b2 : (n == 2) = false := beq_eq_false_iff_ne.2 h2
  have b3 : (n == 3) = false := beq_eq_false_iff_ne.2 h3
  have b4 : (n == 4) = false := beq_eq_false_iff_ne.2 h4
  have b5 : (n == 5) = false := beq_eq_false_iff_ne.2 h5
  rw [e]
  clear e h1 h2 h3 h4 h5
  go_enter Tryz.func19, Tryz.ntmps19
  go_wp2
  go_ret
  exact ⟨rfl, rfl⟩
set_option maxRecDepth 20000 in
theorem block_of_var {w : World} {cs : Array Value} (h : w.var? Tryz.prog "loop.example/g00013/impl.charsetNames" = some cs) : ∃ t fr, w.heap[0]? = some (.cells cs t fr) := by
  unfold World.var? at h
  rw [gNames] at h
  simp only [Option.bind_some] at h
  split at h
  · rename_i c t fr e
    cases h
    exact ⟨t, fr, e⟩
  · cases h
set_option maxRecDepth 20000 in
theorem names_of_laid {W : World} (h : laidMetH Tryz.prog [("loop.example/g00013/impl.charsetNames", Rows.laid_loop_example_g00013_impl_charsetNames)] W) : ∃ t fr, W.heap[0]? = some (.cells arr t fr) := by
  rw [MakeChecks.laidMetH_plain _ _ _ (by kernel_rfl)] at h
  obtain ⟨ps, ⟨g0, t0, cs0, f0, p0, q0, hg0, ht0, hv0, hd0, _, _⟩, _, _⟩ := h
  obtain rfl := Option.some.inj (gNames.symm.trans hg0)
  obtain rfl := Option.some.inj (tNames.symm.trans ht0)
  have hcs := cells_of_pairs (zs := tab) Tryz.underlying104 Tryz.underlying103 Tryz.underlying9 Tryz.underlying2 rfl rfl (by kernel_rfl) (by kernel_rfl) (by kernel_rfl) (by kernel_rfl) hd0
  obtain ⟨t, fr, hb⟩ := block_of_var hv0
  have e : cs0 = arr := Array.toList_inj.1 (hcs.trans rfl)
  rw [e] at hb
  exact ⟨t, fr, hb⟩
end Go.Proofs.YtbppdfjigcelkaaGreatDoor
