/- Two digits of base 16, as the library's reader of numbers takes them. -/
import Derived.Test.YtkchnlfedkfpjaaDoorLow
namespace Go.Proofs.YtkchnlfedkfpjaaDoor
open Go.RowKit Go.Lib
theorem isEmpty_ne (q : ByteArray) (h0 : ¬ q.size = 0) : q.toList.isEmpty = false := by
  rw [ByteArray.toList_eq, List.isEmpty_eq_false_iff]
  intro e
  exact h0 (by rw [← Pl.len_list, e]; rfl)
theorem isEmpty_of (q : ByteArray) (h0 : q.size = 0) : q.toList.isEmpty = true := by
  rw [ByteArray.toList_eq, List.isEmpty_iff]
  exact List.length_eq_zero_iff.1 (by rw [Pl.len_list]; exact h0)
namespace Pl
/-- A digit of base 16. -/
def hexV (c : UInt8) : Option Nat := if 48 ≤ c.toNat ∧ c.toNat ≤ 57 then some (c.toNat - 48) else if 65 ≤ c.toNat ∧ c.toNat ≤ 70 then some (c.toNat - 55) else if 97 ≤ c.toNat ∧ c.toNat ≤ 102 then some (c.toNat - 87) else none
theorem hexV_lt {c : UInt8} {d : Nat} (h : hexV c = some d) : d < 16 := by
  unfold hexV at h
  repeat' split at h
  all_goals first | (cases h; omega) | cases h
/-- What the library's reader of numbers sees of a byte: 0 a digit, 1 a letter up to f, 2 another letter, 3 neither. -/
def lowI (x : Nat) : Int := bits .or .u8 (x : Int) 32
theorem low_cases : ∀ X : Fin 256, (48 ≤ X.val ∧ X.val ≤ 57 ∧ hexV (UInt8.ofNat X.val) = some (X.val - 48)) ∨
    (¬ (48 ≤ X.val ∧ X.val ≤ 57) ∧ 97 ≤ lowI X.val ∧ lowI X.val ≤ 102 ∧ hexV (UInt8.ofNat X.val) = some (lowI X.val - 87).toNat) ∨
    (¬ (48 ≤ X.val ∧ X.val ≤ 57) ∧ 103 ≤ lowI X.val ∧ lowI X.val ≤ 122 ∧ hexV (UInt8.ofNat X.val) = none) ∨
    (¬ (48 ≤ X.val ∧ X.val ≤ 57) ∧ (lowI X.val < 97 ∨ 122 < lowI X.val) ∧ hexV (UInt8.ofNat X.val) = none) := by decide +kernel
theorem low_cases' (c : UInt8) : (48 ≤ c.toNat ∧ c.toNat ≤ 57 ∧ hexV c = some (c.toNat - 48)) ∨
    (¬ (48 ≤ c.toNat ∧ c.toNat ≤ 57) ∧ 97 ≤ lowI c.toNat ∧ lowI c.toNat ≤ 102 ∧ hexV c = some (lowI c.toNat - 87).toNat) ∨
    (¬ (48 ≤ c.toNat ∧ c.toNat ≤ 57) ∧ 103 ≤ lowI c.toNat ∧ lowI c.toNat ≤ 122 ∧ hexV c = none) ∨
    (¬ (48 ≤ c.toNat ∧ c.toNat ≤ 57) ∧ (lowI c.toNat < 97 ∨ 122 < lowI c.toNat) ∧ hexV c = none) := by
  have := low_cases ⟨c.toNat, UInt8.toNat_lt c⟩
  simpa using this
/-- The number that digits of base 16 make, as far as they are digits. -/
def hexNum : List UInt8 → Nat → Option Nat
  | [], n => some n
  | c :: r, n => match hexV c with | some d => hexNum r (n * 16 + d) | none => none
end Pl
/-- What the library's inner reader of numbers answers. -/
def puV : Option Nat → Value
  | some n => .tuple #[.int .u64 n, .nilIface]
  | none => .tuple #[.int .u64 0, .iface 66 (.int .i64 2)]
theorem low95 : Pl.lowI 95 = 127 := by decide +kernel
set_option maxRecDepth 100000 in
set_option maxHeartbeats 2000000 in
theorem libParse (s : ByteArray) (hs : s.size = 2) (w : World) : Calls Tryd.prog 35 #[.string s, .int .i64 16, .int .i64 8] w fun e w' => e = .returned (puV (Pl.hexNum s.data.toList 0)) ∧ Below w.heap.size w w' := by
  have hne : s.toList.isEmpty = false := isEmpty_ne s (by omega)
  obtain ⟨cap, W, hcv, hh, hbW⟩ := bytesOf (P := Tryd.prog) 9 27 Tryd.underlying9 Tryd.underlying27 Tryd.underlying5 s w
  go_enter Tryd.func35, Tryd.ntmps35
  go_wp2
  clear hcv
  go_loopw [12, 13, 101] (fun u n i wr => ∃ (k acc : Nat) (a : Int), u = .bool false ∧ n = .int .u64 a ∧ i = .int .i64 k ∧ k ≤ 2 ∧ Hid (a = (acc : Int) ∧ ((k = 0 → acc = 0) ∧ (k ≤ 1 → acc ≤ 15)) ∧ acc ≤ 255 ∧ Pl.hexNum (s.data.toList.drop k) acc = Pl.hexNum s.data.toList 0) ∧ wr = W) (fun _ _ i _ => 2 - (Lib.intOf i).toNat)
  case atStart => exact ⟨0, 0, 0, rfl, rfl, rfl, by omega, ⟨rfl, ⟨fun _ => rfl, fun _ => by omega⟩, by omega, rfl⟩, rfl⟩
  case round =>
    obtain ⟨k, acc, a, rfl, rfl, rfl, hk, hH, rfl⟩ := hrel
    obtain ⟨ha, hm, hm2, hp⟩ := hH.out
    clear hH
    have hll : s.data.toList.length = 2 := by rw [Pl.len_list]; exact hs
    have a0 : 0 ≤ a := by omega
    by_cases hlt : k < 2
    · obtain ⟨hc, -⟩ := hh k (by omega)
      rw [List.drop_eq_getElem_cons (by omega)] at hp
      generalize s.data.toList[k] = c at hc hp
      have h8 : c.toNat < 256 := UInt8.toNat_lt _
      have hlo := Tryd.internal_strconv_lower (c.toNat : Int) wr
      change Calls Tryd.prog 42 #[.int .u8 (c.toNat : Int)] wr fun e w' => e = .returned (.int .u8 (Pl.lowI c.toNat)) ∧ w' = wr at hlo
      have a1 : a ≤ 15 := by omega
      have hacc : acc ≤ 15 := by omega
      clear hh hll hne
      rcases Pl.low_cases' c with ⟨h1, h2, hv⟩ | ⟨h1, h2, h3, hv⟩ | ⟨h1, h2, h3, hv⟩ | ⟨h1, h2, hv⟩
      · have hE : Hid (a * 16 + ((c.toNat : Int) - 48) = ((acc * 16 + (c.toNat - 48) : Nat) : Int) ∧ ((k + 1 = 0 → acc * 16 + (c.toNat - 48) = 0) ∧ (k + 1 ≤ 1 → acc * 16 + (c.toNat - 48) ≤ 15)) ∧ acc * 16 + (c.toNat - 48) ≤ 255 ∧ Pl.hexNum (s.data.toList.drop (k + 1)) (acc * 16 + (c.toNat - 48)) = Pl.hexNum s.data.toList 0) := by
          refine ⟨by omega, ?_, by omega, ?_⟩
          · exact ⟨fun h => by omega, fun h => by have := hm.1 (by omega); omega⟩
          · rw [Pl.hexNum, hv] at hp; exact hp
        have iov : a * 16 + ((c.toNat : Int) - 48) ≤ 255 := by omega
        clear hp hv hlo ha hm hm2 hacc
        go_wp2
        go_roundw
        case rel => exact ⟨k + 1, _, a * 16 + ((c.toNat : Int) - 48), rfl, by first | rfl | (congr 1; omega), by go_num, by omega, hE, trivial⟩
        case measure => simp [Lib.intOf]; omega
      · have hE : Hid (a * 16 + (Pl.lowI c.toNat - 87) = ((acc * 16 + (Pl.lowI c.toNat - 87).toNat : Nat) : Int) ∧ ((k + 1 = 0 → acc * 16 + (Pl.lowI c.toNat - 87).toNat = 0) ∧ (k + 1 ≤ 1 → acc * 16 + (Pl.lowI c.toNat - 87).toNat ≤ 15)) ∧ acc * 16 + (Pl.lowI c.toNat - 87).toNat ≤ 255 ∧ Pl.hexNum (s.data.toList.drop (k + 1)) (acc * 16 + (Pl.lowI c.toNat - 87).toNat) = Pl.hexNum s.data.toList 0) := by
          refine ⟨by omega, ?_, by omega, ?_⟩
          · exact ⟨fun h => by omega, fun h => by have := hm.1 (by omega); omega⟩
          · rw [Pl.hexNum, hv] at hp; exact hp
        have iov : a * 16 + (Pl.lowI c.toNat - 87) ≤ 255 := by omega
        clear hp hv ha hm hm2 hacc
        have h95 : ¬ (c.toNat : Int) = 95 := fun h => by rw [show c.toNat = 95 by omega, low95] at h2 h3; omega
        generalize Pl.lowI c.toNat = lo at hlo h2 h3 hE iov
        have h1' : c.toNat < 48 ∨ 57 < c.toNat := by omega
        clear h1
        rcases h1' with h1 | h1
        all_goals
          go_wp2_with (go_at_call 42; go_must (refine hlo.mono ?_; rintro e w' ⟨rfl, rfl⟩))
          go_roundw
          case rel => exact ⟨k + 1, _, a * 16 + (lo - 87), rfl, by first | rfl | (congr 1; omega), by go_num, by omega, hE, trivial⟩
          case measure => simp [Lib.intOf]; omega
      · have hE : Hid (Pl.hexNum s.data.toList 0 = none) := show _ = _ by rw [Pl.hexNum, hv] at hp; exact hp.symm
        clear hp hv ha hm hm2 hacc
        have h95 : ¬ (c.toNat : Int) = 95 := fun h => by rw [show c.toNat = 95 by omega, low95] at h2 h3; omega
        generalize Pl.lowI c.toNat = lo at hlo h2 h3
        have h1' : c.toNat < 48 ∨ 57 < c.toNat := by omega
        have h2' : 97 ≤ lo := by omega
        clear h1
        rcases h1' with h1 | h1
        all_goals
          go_wp2_with (go_at_call 42; go_must (refine hlo.mono ?_; rintro e w' ⟨rfl, rfl⟩))
          go_ret2
          exact ⟨by rw [hE.out]; rfl, hbW⟩
      · have hE : Hid (Pl.hexNum s.data.toList 0 = none) := show _ = _ by rw [Pl.hexNum, hv] at hp; exact hp.symm
        clear hp hv ha hm hm2 hacc
        by_cases h95 : c.toNat = 95
        · rw [h95, low95] at hlo
          rw [h95] at hc
          clear h2 h1
          go_wp2_with (go_at_call 42; go_must (refine hlo.mono ?_; rintro e w' ⟨rfl, rfl⟩))
          go_ret2
          exact ⟨by rw [hE.out]; rfl, hbW⟩
        · have h95' : ¬ (c.toNat : Int) = 95 := by omega
          generalize Pl.lowI c.toNat = lo at hlo h2
          have h1' : c.toNat < 48 ∨ 57 < c.toNat := by omega
          have h2' : lo < 97 ∨ (97 ≤ lo ∧ 122 < lo) := by omega
          clear h1 h2
          rcases h1' with h1 | h1 <;> rcases h2' with h2 | ⟨h2, h3⟩
          all_goals
            go_wp2_with (go_at_call 42; go_must (refine hlo.mono ?_; rintro e w' ⟨rfl, rfl⟩))
            go_ret2
            exact ⟨by rw [hE.out]; rfl, hbW⟩
    · have hE : Hid (Pl.hexNum s.data.toList 0 = some acc) := show _ = _ by rw [List.drop_eq_nil_of_le (by omega), Pl.hexNum] at hp; exact hp.symm
      obtain rfl : k = 2 := by omega
      clear hp hm hm2 hh hll
      subst ha
      go_wp2
      go_ret2
      exact ⟨by rw [hE.out]; rfl, hbW⟩
/-- The library's variable ErrSyntax holds an error or none. -/
def ErrCell (w : World) : Prop := 3 < w.heap.size ∧ ∃ ev, w.cell? ⟨3, 0, none⟩ = some ev ∧ (ev = .nilIface ∨ ∃ te pe, ev = .iface te pe)
theorem ErrCell.below {w w' : World} (h : ErrCell w) (hb : Below w.heap.size w w') : ErrCell w' := by
  obtain ⟨h0, ev, h1, h2⟩ := h
  refine ⟨Nat.lt_of_lt_of_le h0 hb.size, ev, ?_, h2⟩
  rw [← h1]
  exact hb.cell h0
set_option maxRecDepth 40000 in
set_option maxHeartbeats 1000000 in
theorem libParseUint (s : ByteArray) (hs : s.size = 2) (w : World) (hE : ErrCell w) : Calls Tryd.prog 27 #[.string s, .int .i64 16, .int .i64 8] w fun e w' => (match Pl.hexNum s.data.toList 0 with | some n => e = .returned (.tuple #[.int .u64 n, .nilIface]) | none => ∃ N, e = .returned (.tuple #[.int .u64 0, .iface 68 (.pointer (some ⟨N, 0, none⟩))])) ∧ Below w.heap.size w w' := by
  have hP := libParse s hs w
  cases hx : Pl.hexNum s.data.toList 0 with
  | some n =>
    rw [hx] at hP
    unfold puV at hP
    dsimp only
    go_enter Tryd.func27, Tryd.ntmps27
    go_wp2_with fail
    refine hP.mono ?_
    rintro e w2 ⟨rfl, hb2⟩
    go_wp2
    go_ret2
    exact ⟨rfl, hb2⟩
  | none =>
    rw [hx] at hP
    unfold puV at hP
    dsimp only
    go_enter Tryd.func27, Tryd.ntmps27
    go_wp2_with fail
    refine hP.mono ?_
    rintro e w2 ⟨rfl, hb2⟩
    obtain ⟨-, ev, h1, h2⟩ := hE.below hb2
    go_wp2_with fail
    refine (Tryd.strconv_toError_syntax _ s 16 8 ev _ (by omega) h1 h2).mono ?_
    rintro e w3 ⟨M, rfl, -, -, hb3⟩
    have hbx := hb2.trans (hb3.mono hb2.size)
    go_wp2
    go_ret2
    exact ⟨⟨M, rfl⟩, hbx⟩
namespace Pl
/-- The byte that the two digits at a text's beginning make. -/
def hex2 : List UInt8 → Option Nat
  | a :: b :: _ => hexNum [a, b] 0
  | _ => none
theorem hexNum2_lt {a b : UInt8} {n : Nat} (h : hexNum [a, b] 0 = some n) : n < 256 := by
  unfold hexNum at h
  cases ha : hexV a with
  | none => rw [ha] at h; cases h
  | some d =>
    rw [ha] at h
    dsimp only at h
    unfold hexNum at h
    cases hb : hexV b with
    | none => rw [hb] at h; cases h
    | some e =>
      rw [hb] at h
      dsimp only at h
      unfold hexNum at h
      cases h
      have := hexV_lt ha
      have := hexV_lt hb
      omega
theorem hex2_lt {l : List UInt8} {n : Nat} (h : hex2 l = some n) : n < 256 := by
  unfold hex2 at h
  split at h
  · exact hexNum2_lt h
  · cases h
theorem hex2_short {l : List UInt8} (h : l.length < 2) : hex2 l = none := by
  match l, h with
  | [], _ => rfl
  | [a], _ => rfl
theorem hex2_take (l : List UInt8) (h : 2 ≤ l.length) : hex2 l = hexNum (l.take 2) 0 := by
  match l, h with
  | a :: b :: r, _ => rfl
end Pl
end Go.Proofs.YtkchnlfedkfpjaaDoor
