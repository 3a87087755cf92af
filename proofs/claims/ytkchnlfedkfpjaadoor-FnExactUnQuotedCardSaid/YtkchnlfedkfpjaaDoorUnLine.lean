/- A line of quoted bytes, the program's side. -/
import Derived.Test.YtkchnlfedkfpjaaDoorUnHex
namespace Go.Proofs.YtkchnlfedkfpjaaDoor
open Go.RowKit Go.Lib
set_option maxRecDepth 40000 in
set_option maxHeartbeats 1000000 in
theorem implHexByte (s : ByteArray) (w : World) (hs : s.size ≤ 1100000) (hE : ErrCell w) : Calls Tryd.prog 21 #[.string s] w fun e w' => e = .returned (match Pl.hex2 s.data.toList with | some n => .tuple #[.int .u8 n, .bool true] | none => .tuple #[.int .u8 0, .bool false]) ∧ Below w.heap.size w w' := by
  by_cases h2 : s.size < 2
  · rw [Pl.hex2_short (by rw [Pl.len_list]; exact h2)]
    dsimp only
    go_enter Tryd.func21, Tryd.ntmps21
    go_wp2
    go_ret2
    exact ⟨rfl, Below.refl _ _⟩
  · have ht : (s.extract 0 2).size = 2 := by simp; omega
    have hP := libParseUint (s.extract 0 2) ht w hE
    rw [show (s.extract 0 2).data.toList = s.data.toList.take 2 by simp] at hP
    rw [Pl.hex2_take _ (by rw [Pl.len_list]; omega)]
    cases hx : Pl.hexNum (s.data.toList.take 2) 0 with
    | some n =>
      have hn : n < 256 := by
        have := Pl.hex2_take s.data.toList (by rw [Pl.len_list]; omega)
        rw [hx] at this
        exact Pl.hex2_lt this
      rw [hx] at hP
      dsimp only at hP ⊢
      go_enter Tryd.func21, Tryd.ntmps21
      go_wp2_with fail
      refine hP.mono ?_
      rintro e w2 ⟨rfl, hb2⟩
      go_wp2
      go_region
      all_goals
        go_wp2
        go_ret2
        exact ⟨rfl, hb2.drew⟩
    | none =>
      rw [hx] at hP
      dsimp only at hP ⊢
      go_enter Tryd.func21, Tryd.ntmps21
      go_wp2_with fail
      refine hP.mono ?_
      rintro e w2 ⟨⟨M, rfl⟩, hb2⟩
      go_wp2
      go_region
      all_goals
        go_wp2
        go_ret2
        exact ⟨rfl, hb2.drew⟩
namespace Pl
/-- A line's bytes behind what is there; none: an ill sign. -/
def qb (out : List UInt8) (l : List UInt8) : Option (List UInt8) :=
  match l with
  | [] => some out
  | c :: r => if c = 61 then (match hex2 r with | some n => qb (out ++ [UInt8.ofNat n]) (r.drop 2) | none => none) else qb (out ++ [c]) r
  termination_by l.length
  decreasing_by all_goals (simp; try omega)
theorem qb_done {p : List UInt8} {x : Option (List UInt8)} {l : List UInt8} {k : Nat} (hk : l.length ≤ k) (hp : qb p (l.drop k) = x) : x = some p := by
  rw [List.drop_eq_nil_of_le hk, qb] at hp
  exact hp.symm
theorem qb_plain {p : List UInt8} {x : Option (List UInt8)} {l : List UInt8} {k : Nat} (hk : k < l.length) (h : l[k] ≠ 61) (hp : qb p (l.drop k) = x) : qb (p ++ [l[k]]) (l.drop (k + 1)) = x := by
  rw [List.drop_eq_getElem_cons hk, qb, if_neg h] at hp
  exact hp
theorem qb_hex {p : List UInt8} {x : Option (List UInt8)} {l : List UInt8} {k n : Nat} (hk : k < l.length) (h : l[k] = 61) (hn : hex2 (l.drop (k + 1)) = some n) (hp : qb p (l.drop k) = x) : qb (p ++ [UInt8.ofNat n]) (l.drop (k + 3)) = x := by
  rw [List.drop_eq_getElem_cons hk, qb, if_pos h, hn, List.drop_drop] at hp
  exact hp
theorem qb_bad {p : List UInt8} {x : Option (List UInt8)} {l : List UInt8} {k : Nat} (hk : k < l.length) (h : l[k] = 61) (hn : hex2 (l.drop (k + 1)) = none) (hp : qb p (l.drop k) = x) : x = none := by
  rw [List.drop_eq_getElem_cons hk, qb, if_pos h, hn] at hp
  exact hp.symm
theorem hex2_room {l : List UInt8} {n : Nat} (h : hex2 l = some n) : 2 ≤ l.length := by
  by_cases h2 : l.length < 2
  · rw [hex2_short h2] at h; cases h
  · omega
end Pl
theorem ext_tail (s : ByteArray) (k : Nat) : (s.extract k s.size).data.toList = s.data.toList.drop k := by
  simp only [ByteArray.data_extract, Array.toList_extract, List.extract_eq_take_drop]
  rw [List.take_of_length_le (by rw [List.length_drop, Pl.len_list]; omega)]
/-- What a line's bytes are, as they are answered. -/
def QbOut (B : Nat) (x : Option (List UInt8)) (e : Ending) (w' : World) : Prop := match x with | some p => ∃ v, e = .returned (.tuple #[v, .bool true]) ∧ Own B v p w' | none => e = .returned (.tuple #[.slice none 0 0, .bool false])
theorem QbOut.no {B : Nat} {x : Option (List UInt8)} {w' : World} (h : x = none) : QbOut B x (.returned (.tuple #[.slice none 0 0, .bool false])) w' := by subst h; rfl
theorem QbOut.yes {B : Nat} {x : Option (List UInt8)} {p : List UInt8} {v : Value} {w' : World} (h : x = some p) (ho : Own B v p w') : QbOut B x (.returned (.tuple #[v, .bool true])) w' := by subst h; exact ⟨v, rfl, ho⟩
theorem Own.keepb {B : Nat} {v : Value} {p : List UInt8} {w w' : World} (h : Own B v p w) (hb : Below w.heap.size w w') : Own B v p w' := by
  obtain ⟨h1, h2⟩ := h
  refine ⟨h1, ?_⟩
  rcases h2 with h2 | ⟨g, cap, cur, e1, e2, e3, e4⟩
  · exact .inl h2
  · refine .inr ⟨g, cap, cur, e1, e2, ?_, e4⟩
    rw [hb.block g (by rw [Array.getElem?_eq_some_iff] at e3; exact e3.1)]
    exact e3
set_option maxRecDepth 40000 in
set_option maxHeartbeats 2000000 in
theorem implQuotedBytes (s : ByteArray) (w : World) (hs : s.size ≤ 1100000) (hE : ErrCell w) : Calls Tryd.prog 14 #[.string s] w fun e w' => QbOut w.heap.size (Pl.qb [] s.data.toList) e w' ∧ Below w.heap.size w w' := by
  obtain ⟨i0, hi, hy0, hy1, hy2⟩ := info_parts Tryd.info5
  have HE : Hid (ErrCell w) := hE
  clear hE
  obtain ⟨x, hx⟩ : ∃ x, Pl.qb [] s.data.toList = x := ⟨_, rfl⟩
  rw [hx]
  have Hx : Hid (Pl.qb [] s.data.toList = x) := hx
  clear hx
  have hll : s.data.toList.length = s.size := Pl.len_list s
  go_enter Tryd.func14, Tryd.ntmps14
  go_wp2
  go_loopw [2, 4] (fun v i wr => ∃ (k : Nat) (p : List UInt8), k ≤ s.size ∧ i = .int .i64 k ∧ p.length ≤ k ∧ Hid (Pl.qb p (s.data.toList.drop k) = x) ∧ Own w.heap.size v p wr ∧ Below w.heap.size w wr) (fun _ i _ => s.size - (Lib.intOf i).toNat)
  case atStart => exact ⟨0, [], Nat.zero_le _, rfl, by simp, Hx, Own.nil _ _, Below.refl _ _⟩
  case round =>
    obtain ⟨k, p, hk, rfl, hpl, hp, hown, hb⟩ := hrel
    by_cases hlt : k < s.size
    · have h8 : s[k].toNat < 256 := UInt8.toNat_lt _
      have hat := Pl.at_list s k hlt
      by_cases hc : s[k] = 61
      · have hpb := fun h => Pl.qb_bad (by omega) (hat.trans hc) h hp.out
        have hph := fun n h => Pl.qb_hex (n := n) (by omega) (hat.trans hc) h hp.out
        have hH := implHexByte (s.extract (k + 1) s.size) wr (by simp; omega) (HE.out.below hb)
        rw [ext_tail s (k + 1)] at hH
        have hci : (s[k].toNat : Int) = 61 := by rw [hc]; rfl
        clear hp hat
        cases hn : Pl.hex2 (s.data.toList.drop (k + 1)) with
        | none =>
          have hE : Hid (x = none) := show _ = _ from hpb hn
          rw [hn] at hH
          dsimp only at hH
          clear hpb hph hn
          go_wp2_with (go_at_call 21; go_must (refine hH.mono ?_; rintro e w2 ⟨rfl, hb2⟩))
          go_ret2
          exact ⟨QbOut.no hE.out, hb.trans (hb2.mono hb.size)⟩
        | some n =>
          have hE : Hid (Pl.qb (p ++ [UInt8.ofNat n]) (s.data.toList.drop (k + 3)) = x) := hph n hn
          have hn2 := Pl.hex2_lt hn
          have hroom := Pl.hex2_room hn
          rw [List.length_drop, hll] at hroom
          rw [hn] at hH
          dsimp only at hH
          clear hpb hph hn

          go_wp2_with (first | (go_at_call 21; go_must (refine hH.mono ?_; rintro e w2 ⟨rfl, hb2⟩; have hown2 := hown.keepb hb2; have hbw := hb.trans (hb2.mono hb.size))) | (at_builtin; go_must (refine wp_app (W := w) rfl _ _ 27 rfl i0 Tryd.underlying27 hi hy0 hy1 hy2 w.heap.size u2 p rfl hown2 _ [UInt8.ofNat n] (by simp [byteCells]; omega) 1 1 rfl rfl (by simp; omega) (Nat.le_refl _) hbw ?_; intro v3 w3 hown3 hb3)))
          go_roundw
          case rel => exact ⟨k + 3, _, by omega, by go_num, by simp; omega, hE, hown3, hb3⟩
          case measure => simp [Lib.intOf]; omega
      · have hE : Hid (Pl.qb (p ++ [s[k]]) (s.data.toList.drop (k + 1)) = x) := show _ = _ by have := Pl.qb_plain (by omega) (by rw [hat]; exact hc) hp.out; rw [hat] at this; exact this
        have hci : ¬ (s[k].toNat : Int) = 61 := fun h => hc (UInt8.toNat_inj.1 (by simpa using (by omega : s[k].toNat = 61)))
        clear hp hat hc
        generalize hsk : s[k] = c at *
        go_wp2_with (at_builtin; go_must (refine wp_app (W := w) rfl _ _ 27 rfl i0 Tryd.underlying27 hi hy0 hy1 hy2 w.heap.size u2 p rfl hown _ [c] (by simp [byteCells]) 1 1 rfl rfl (by simp; omega) (Nat.le_refl _) hb ?_; intro v3 w3 hown3 hb3))
        go_roundw
        case rel => exact ⟨k + 1, _, by omega, by go_num, by simp; omega, hE, hown3, hb3⟩
        case measure => simp [Lib.intOf]; omega
    · have hE : Hid (x = some p) := show _ = _ from Pl.qb_done (by omega) hp.out
      clear hp
      go_wp2
      go_ret2
      exact ⟨QbOut.yes hE.out hown, hb⟩
end Go.Proofs.YtkchnlfedkfpjaaDoor
