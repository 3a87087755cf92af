/- WriteWords, the specification's side. -/
import Derived.Test.YtgbhckokdjhpjaaDoorWordsPlain
import Derived.Test.YtgbhckokdjhpjaaDoorPlain
import Derived.Test.YtgbhckokdjhpjaaDoorB64Bare
import Derived.Test.YtgbhckokdjhpjaaDoorEncSpec
import Derived.WalkSpells
import Derived.WalkLawsBesides
namespace Go.Proofs.YtgbhckokdjhpjaaDoor
open Go.RowKit Go.Lib
theorem contains_cons (a : UInt8) (l : List UInt8) (sub : List UInt8) : contains (a :: l) sub = (sub.isPrefixOf (a :: l) || contains l sub) := by
  unfold contains
  rw [index]
  cases h : sub.isPrefixOf (a :: l)
  · simp only [Bool.false_eq_true, if_false, Bool.false_or]
    cases h2 : (index l sub == -1)
    · simp only [Bool.false_eq_true, if_false]
      have : -1 ≤ index l sub := index_ge l sub
      have h3 : index l sub ≠ -1 := by simpa using h2
      congr 1
      exact propext (by omega)
    · simp only [if_true]
      have h3 : index l sub = -1 := by simpa using h2
      rw [h3]
  · simp
theorem two_prefix (l : List UInt8) : ([61, 63] : List UInt8).isPrefixOf l = (l.take 2 == [61, 63]) := by
  match l with
  | [] => rfl
  | [a] => simp [List.isPrefixOf]
  | a :: b :: l => simp [List.isPrefixOf, eq_comm, Bool.beq_eq_decide_eq]
theorem two_hit (s : ByteArray) (k : Nat) (hk : k + 2 ≤ s.size) (h : ((s.extract k (k + 2)).toList == [61, 63]) = true) (hp : Hid (contains (s.data.toList.drop k) [61, 63] = contains s.data.toList [61, 63])) : contains s.data.toList [61, 63] = true := by
  rw [← hp.out, List.drop_eq_getElem_cons (by simp; omega), contains_cons, ← List.drop_eq_getElem_cons, two_prefix]
  rw [Pl.ext_list, show k + 2 - k = 2 from by omega] at h
  rw [h, Bool.true_or]
theorem two_miss (s : ByteArray) (k : Nat) (hk : k + 2 ≤ s.size) (h : ((s.extract k (k + 2)).toList == [61, 63]) = false) (hp : Hid (contains (s.data.toList.drop k) [61, 63] = contains s.data.toList [61, 63])) : Hid (contains (s.data.toList.drop (k + 1)) [61, 63] = contains s.data.toList [61, 63]) := by
  show _ = _
  rw [← hp.out, List.drop_eq_getElem_cons (show k < s.data.toList.length by simp; omega), contains_cons, ← List.drop_eq_getElem_cons, two_prefix]
  rw [Pl.ext_list, show k + 2 - k = 2 from by omega] at h
  rw [h, Bool.false_or]
theorem two_end (s : ByteArray) (k : Nat) (hk : ¬ k + 2 ≤ s.size) (hp : Hid (contains (s.data.toList.drop k) [61, 63] = contains s.data.toList [61, 63])) : contains s.data.toList [61, 63] = false := by
  rw [← hp.out]
  have hl : (s.data.toList.drop k).length < 2 := by simp; omega
  match s.data.toList.drop k, hl with
  | [], _ => rfl
  | [a], _ => rw [contains_cons]; simp [List.isPrefixOf]; rfl
set_option maxHeartbeats 1000000 in
theorem specIndex2 (s : ByteArray) (w : World) (hs : s.size ≤ 100000) :
    Calls Tryd.prog 9 #[.string s, .string ⟨#[61, 63]⟩, .int .i64 0] w fun e w' => ∃ i : Int, e = .returned (.int .i64 i) ∧ decide (i < 0) = !contains s.data.toList [61, 63] ∧ w' = w := by
  have h2 : (⟨#[61, 63]⟩ : ByteArray).size = 2 := rfl
  go_enter Tryd.func9, Tryd.ntmps9
  go_wp2
  go_loopw [7] (fun i wr => ∃ k : Nat, k ≤ s.size ∧ i = .int .i64 k ∧ Hid (contains (s.data.toList.drop k) [61, 63] = contains s.data.toList [61, 63]) ∧ wr = w) (fun i _ => s.size + 1 - (Lib.intOf i).toNat)
  case atStart => exact ⟨0, Nat.zero_le _, rfl, rfl, rfl⟩
  case round =>
    obtain ⟨k, hk, rfl, hp, rfl⟩ := hrel
    by_cases hlt : k + 2 ≤ s.size
    · cases hc : ((s.extract k (k + 2)).toList == [61, 63])
      · have hn := two_miss s k hlt hc hp
        clear hp
        go_wp2
        go_roundw
        case rel => exact ⟨k + 1, by omega, by go_num, hn, trivial⟩
        case measure => simp [Lib.intOf]; omega
      · have hn := two_hit s k hlt hc hp
        have Hn := (show Hid _ from hn)
        clear hp hn
        go_wp2
        go_ret
        exact ⟨_, rfl, by rw [Hn.out, decide_eq_false (by omega)]; rfl, rfl⟩
    · have hn := two_end s k hlt hp
      have Hn := (show Hid _ from hn)
      clear hp hn
      go_wp2
      go_ret
      exact ⟨_, rfl, by rw [Hn.out]; rfl, rfl⟩
end Go.Proofs.YtgbhckokdjhpjaaDoor
