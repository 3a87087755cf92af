/- A text that stands for itself; a word of a header. -/
import Derived.Test.YtgbhckokdjhpjaaDoorWordsSpec
import Derived.Test.YtgbhckokdjhpjaaDoorB64Append
import Derived.Test.YtgbhckokdjhpjaaDoorFoldPlain
import Derived.Lib.OthersKept
namespace Go.Proofs.YtgbhckokdjhpjaaDoor
open Go.RowKit Go.Lib
def MaxL (w : World) : Prop := ∃ m : Int, w.cell? ⟨1, 0, none⟩ = some (.int .i64 m)
theorem prt_cases (c : UInt8) : (c.toNat < 32 ∧ Pl.prt c = false) ∨ (126 < c.toNat ∧ Pl.prt c = false) ∨ (32 ≤ c.toNat ∧ c.toNat ≤ 126 ∧ Pl.prt c = true) := by
  unfold Pl.prt
  by_cases h1 : 32 ≤ c.toNat
  · by_cases h2 : c.toNat ≤ 126
    · exact .inr (.inr ⟨h1, h2, by rw [decide_eq_true h1, decide_eq_true h2]; rfl⟩)
    · exact .inr (.inl ⟨by omega, by rw [decide_eq_false h2, Bool.and_false]⟩)
  · exact .inl ⟨by omega, by rw [decide_eq_false h1, Bool.false_and]⟩
set_option maxHeartbeats 1000000 in
theorem implStands (s : ByteArray) (w : World) (hs : s.size ≤ 100000) (hM : MaxL w) :
    Calls Tryd.prog 13 #[.string s] w fun e w' => e = .returned (.bool (s.data.toList.all Pl.prt && !contains s.data.toList [61, 63])) ∧ w' = w := by
  obtain ⟨m, hm⟩ := hM
  have hC := Tryd.strings_Contains s ⟨#[61, 63]⟩ m w (by omega) hm
  have HC : Hid (Calls Tryd.prog 20 #[.string s, .string ⟨#[61, 63]⟩] w fun e w' => e = .returned (.bool (contains s.data.toList [61, 63])) ∧ w' = w) := hC
  clear hC hm
  obtain ⟨T, hT⟩ : ∃ T, (s.data.toList.all Pl.prt && !contains s.data.toList [61, 63]) = T := ⟨_, rfl⟩
  have HT : Hid ((s.data.toList.all Pl.prt && !contains s.data.toList [61, 63]) = T) := hT
  rw [hT]
  clear hT
  obtain ⟨C, hCC⟩ : ∃ C, contains s.data.toList [61, 63] = C := ⟨_, rfl⟩
  rw [hCC] at HC HT
  clear hCC
  go_enter Tryd.func13, Tryd.ntmps13
  go_wp2
  go_loopw [3, 6] (fun _ i wr => ∃ k : Nat, k ≤ s.size ∧ i = .int .i64 k ∧ Hid ((s.data.toList.drop k).all Pl.prt = s.data.toList.all Pl.prt) ∧ wr = w) (fun _ i _ => s.size - (Lib.intOf i).toNat)
  case atStart => exact ⟨0, Nat.zero_le _, rfl, rfl, rfl⟩
  case round =>
    obtain ⟨k, hk, rfl, hp, rfl⟩ := hrel
    by_cases hlt : k < s.size
    · have hst := Pl.all_step Pl.prt s.data.toList k (by simpa using hlt)
      rw [Pl.at_list s k hlt] at hst
      have Hst : Hid ((s.data.toList.drop k).all Pl.prt = (Pl.prt s[k] && (s.data.toList.drop (k + 1)).all Pl.prt)) := hst
      have h8 : s[k].toNat < 256 := UInt8.toNat_lt _
      clear hst
      generalize hsk : s[k] = c at *
      rcases prt_cases c with ⟨hc, hq⟩ | ⟨hc, hq⟩ | ⟨hc, hc2, hq⟩
      · have Hno : Hid (s.data.toList.all Pl.prt = false) := by
          show _ = _
          rw [← hp.out, Hst.out, hq, Bool.false_and]
        clear hp Hst hq HC
        go_wp2
        go_ret
        exact ⟨by rw [← HT.out, Hno.out]; rfl, rfl⟩
      · have Hno : Hid (s.data.toList.all Pl.prt = false) := by
          show _ = _
          rw [← hp.out, Hst.out, hq, Bool.false_and]
        clear hp Hst hq HC
        go_wp2
        go_ret
        exact ⟨by rw [← HT.out, Hno.out]; rfl, rfl⟩
      · have Hn : Hid ((s.data.toList.drop (k + 1)).all Pl.prt = s.data.toList.all Pl.prt) := by
          show _ = _
          rw [← hp.out, Hst.out, hq, Bool.true_and]
        clear hp Hst hq
        go_wp2
        go_roundw
        case rel => exact ⟨k + 1, by omega, by go_num, Hn, trivial⟩
        case measure => simp [Lib.intOf]; omega
    · have Hall : Hid (s.data.toList.all Pl.prt = true) := by
        show _ = _
        rw [← hp.out]; exact Pl.all_done _ _ k (by simp; omega)
      clear hp
      go_wp2_with fail
      refine HC.out.mono ?_
      rintro e w2 ⟨rfl, rfl⟩
      go_wp2
      go_ret
      exact ⟨by rw [← HT.out, Hall.out, Bool.true_and]; rfl, rfl⟩
set_option maxHeartbeats 1000000 in
theorem implWord (B : Nat) (v : Value) (p l : List UInt8) (W w : World) (hown : Own B v p w) (hT : Tab W) (hB0 : 0 < B) (hBW : B ≤ W.heap.size) (hb : Below B W w) (hl : p.length + 2 * l.length ≤ 800000) :
    Calls Tryd.prog 15 #[v, .string ⟨l.toArray⟩] w fun e w' => ∃ v', e = .returned v' ∧ Own B v' (p ++ Pl.word l) w' ∧ Below B W w' := by
  obtain ⟨i0, hi, hy0, hy1, hy2⟩ := info_parts Tryd.info5
  have hbl : (Pb.bare l).length ≤ 4 * l.length + 4 := by
    have := Pb.bare_len (l.length / 3 + 1) l (by omega)
    omega
  have hA := fun v w hown hb hl => implAppend B v (p ++ [61, 63, 117, 116, 102, 45, 56, 63, 66, 63]) l W w hown hT hB0 hBW hb hl
  go_enter Tryd.func15, Tryd.ntmps15
  go_wp2_with (at_builtin; go_must (refine wp_apps (W := W) rfl _ _ 27 9 rfl i0 Tryd.underlying27 Tryd.underlying9 hi hy0 hy1 hy2 B v p rfl hown ⟨#[61, 63, 117, 116, 102, 45, 56, 63, 66, 63]⟩ rfl (by show p.length + 10 ≤ _; omega) hBW hb ?_; intro v' w' hown' hb'))
  refine (hA _ _ hown' hb' (by simp; omega)).mono ?_
  rintro e w2 ⟨v2, rfl, hown2, hb2⟩
  go_wp2_with (at_builtin; go_must (refine wp_apps (W := W) rfl _ _ 27 9 rfl i0 Tryd.underlying27 Tryd.underlying9 hi hy0 hy1 hy2 B v2 _ rfl hown2 ⟨#[63, 61]⟩ rfl (by have : (⟨#[63, 61]⟩ : ByteArray).size = 2 := rfl; rw [this]; simp; omega) hBW hb2 ?_; intro v3 w3 hown3 hb3))
  go_ret
  refine ⟨_, rfl, ?_, hb3⟩
  have e : p ++ Pl.word l = ((p ++ [61, 63, 117, 116, 102, 45, 56, 63, 66, 63]) ++ Pb.bare l) ++ (⟨#[63, 61]⟩ : ByteArray).data.toList := by simp [Pl.word]
  rw [e]
  exact hown3
end Go.Proofs.YtgbhckokdjhpjaaDoor
