/- Words, on both sides. -/
import Derived.Test.YtpjpnjbegjiegaaDoorPhraseQuote
import Derived.Test.YtpjpnjbegjiegaaDoorContPlain
namespace Go.Proofs.YtpjpnjbegjiegaaDoor
open Go.RowKit Go.Lib
theorem eq_yes (c : UInt8) (n : Nat) (h : c.toNat = n) : ((c.toNat : Int) == (n : Int)) = true := by simp [h]
theorem eq_no (c : UInt8) (n : Nat) (h : c.toNat ≠ n) : ((c.toNat : Int) == (n : Int)) = false := by simp; omega
theorem wb_cases (c : UInt8) : (97 ≤ c.toNat ∧ c.toNat ≤ 122 ∧ Pl.wb c = true) ∨ (48 ≤ c.toNat ∧ c.toNat ≤ 57 ∧ Pl.wb c = true) ∨
    ((c.toNat < 48 ∨ 58 ≤ c.toNat ∧ c.toNat < 97 ∨ 123 ≤ c.toNat) ∧ Pl.wb c = (c == 45 || (c == 43 || (c == 46 || c == 95)))) := by
  unfold Pl.wb
  by_cases h1 : 97 ≤ c.toNat ∧ c.toNat ≤ 122
  · exact .inl ⟨h1.1, h1.2, by rw [decide_eq_true h1, Bool.true_or]⟩
  · by_cases h2 : 48 ≤ c.toNat ∧ c.toNat ≤ 57
    · exact .inr (.inl ⟨h2.1, h2.2, by rw [decide_eq_true h2, Bool.true_or, Bool.or_true]⟩)
    · exact .inr (.inr ⟨by omega, by rw [decide_eq_false h1, decide_eq_false h2, Bool.false_or, Bool.false_or]⟩)
theorem wb_last (c : UInt8) (h : Pl.wb c = (c == 45 || (c == 43 || (c == 46 || c == 95)))) :
    (c.toNat = 45 ∧ Pl.wb c = true) ∨ (c.toNat = 43 ∧ Pl.wb c = true) ∨ (c.toNat = 46 ∧ Pl.wb c = true) ∨ (c.toNat = 95 ∧ Pl.wb c = true) ∨ (c.toNat ≠ 45 ∧ c.toNat ≠ 43 ∧ c.toNat ≠ 46 ∧ c.toNat ≠ 95 ∧ Pl.wb c = false) := by
  rw [h]
  by_cases d1 : c.toNat = 45
  · obtain rfl : c = 45 := UInt8.toNat_inj.1 d1
    simp
  by_cases d2 : c.toNat = 43
  · obtain rfl : c = 43 := UInt8.toNat_inj.1 d2
    simp
  by_cases d3 : c.toNat = 46
  · obtain rfl : c = 46 := UInt8.toNat_inj.1 d3
    simp
  by_cases d4 : c.toNat = 95
  · obtain rfl : c = 95 := UInt8.toNat_inj.1 d4
    simp
  · refine .inr (.inr (.inr (.inr ⟨d1, d2, d3, d4, ?_⟩)))
    simp only [Bool.or_eq_false_iff, beq_eq_false_iff_ne, ne_eq]
    refine ⟨fun e => d1 (by rw [e]; rfl), fun e => d2 (by rw [e]; rfl), fun e => d3 (by rw [e]; rfl), fun e => d4 (by rw [e]; rfl)⟩
theorem mkH2 {p : Prop} (h : p) : Hid p := h
def wsigns : List UInt8 := [45, 43, 46, 95]
theorem wsigns_all : ∀ n, n < 256 → decide (0 ≤ indexByte wsigns (UInt8.ofNat n)) = (UInt8.ofNat n == 45 || (UInt8.ofNat n == 43 || (UInt8.ofNat n == 46 || UInt8.ofNat n == 95))) := by decide +kernel
theorem wsigns_eq (c : UInt8) : decide (0 ≤ indexByte wsigns c) = (c == 45 || (c == 43 || (c == 46 || c == 95))) := by
  have := wsigns_all c.toNat (UInt8.toNat_lt c)
  rw [UInt8.ofNat_toNat] at this
  exact this
theorem libIndexW (c : UInt8) (w : World) : Calls Tryd.prog 43 #[.string ⟨#[45, 43, 46, 95]⟩, .int .u8 (c.toNat : Int)] w fun e w' => e = .returned (.int .i64 (indexByte wsigns c)) ∧ w = w' := by
  refine (Tryd.strings_IndexByte _ _ w).mono ?_
  rintro e w' ⟨rfl, rfl⟩
  refine ⟨?_, rfl⟩
  have : (c.toNat : Int).toNat.toUInt8 = c := by simp
  rw [this]
  rfl
set_option maxRecDepth 20000 in
set_option maxHeartbeats 1000000 in
theorem implWordByte (c : UInt8) (w : World) : Calls Tryd.prog 26 #[.int .u8 (c.toNat : Int)] w fun e w' => e = .returned (.bool (Pl.wb c)) ∧ w = w' := by
  have h8 : c.toNat < 256 := UInt8.toNat_lt _
  have hx := fun w => libIndexW c w
  have hD := fun w => implDigit c w
  rcases wb_cases c with ⟨h0, h1, ha⟩ | ⟨h0, h1, ha⟩ | ⟨h0, ha⟩ <;> rw [ha] <;> clear ha
  · go_enter Tryd.func26, Tryd.ntmps26
    go_wp2
    go_ret
    exact ⟨rfl, rfl⟩
  · simp only [show Pl.digit c = true from by simp [Pl.digit]; omega] at hD
    go_enter Tryd.func26, Tryd.ntmps26
    go_wp2_with (go_at_call 42; go_must (refine (hD _).mono ?_; rintro e w2 ⟨rfl, rfl⟩))
    go_ret
    exact ⟨rfl, rfl⟩
  · rw [← wsigns_eq]
    simp only [show Pl.digit c = false from by simp [Pl.digit]; omega] at hD
    generalize indexByte wsigns c = i at hx
    rcases h0 with h0 | ⟨h0, h1⟩ | h0
    all_goals
      go_enter Tryd.func26, Tryd.ntmps26
      go_wp2_with first | (go_at_call 42; go_must (refine (hD _).mono ?_; rintro e w2 ⟨rfl, rfl⟩)) | (go_at_call 43; go_must (refine (hx _).mono ?_; rintro e w2 ⟨rfl, rfl⟩))
      go_ret
      first | exact ⟨rfl, rfl⟩ | exact ⟨congrArg (fun b => Ending.returned (.bool b)) (by simp; omega), rfl⟩
theorem kindWord : Kind 26 Pl.wb := ⟨Go.Proofs.enters_of Tryd.func26 (by kernel_rfl) rfl, implWordByte⟩
theorem size_empty (s : ByteArray) (h : s.size = 0) : s = ⟨#[]⟩ := by
  obtain ⟨⟨l⟩⟩ := s
  cases l with
  | nil => rfl
  | cons a r => simp [ByteArray.size] at h
theorem isEmpty_of (q : ByteArray) (h0 : q.size = 0) : q.toList.isEmpty = true := by
  rw [ByteArray.toList_eq, List.isEmpty_iff]
  exact List.length_eq_zero_iff.1 (by simpa using h0)
theorem isEmpty_ne (q : ByteArray) (h0 : ¬ q.size = 0) : q.toList.isEmpty = false := by
  rw [ByteArray.toList_eq, List.isEmpty_eq_false_iff]
  intro h
  have : q.data.toList.length = 0 := by rw [h]; rfl
  exact h0 (by simpa using this)
set_option maxHeartbeats 1000000 in
theorem implWord (s : ByteArray) (w : World) (hs : s.size ≤ 1100000) : Calls Tryd.prog 16 #[.string s] w fun e w' => e = .returned (.bool (Pl.word s)) ∧ w = w' := by
  have hA := fun w => implAllOf kindWord s w hs
  unfold Pl.word
  by_cases h0 : 1 ≤ s.size
  · have hne := isEmpty_ne s (by omega)
    generalize s.data.toList.all Pl.wb = b at hA ⊢
    rw [decide_eq_true h0, Bool.true_and]
    by_cases h1 : s.size ≤ 60
    · rw [decide_eq_true h1, Bool.true_and]
      go_enter Tryd.func16, Tryd.ntmps16
      go_wp2_with (go_at_call 25; go_must (refine (hA _).mono ?_; rintro e w2 ⟨rfl, rfl⟩))
      go_ret
      exact ⟨rfl, rfl⟩
    · rw [decide_eq_false h1, Bool.false_and]
      go_enter Tryd.func16, Tryd.ntmps16
      go_wp2
      go_ret
      exact ⟨rfl, rfl⟩
  · obtain rfl := size_empty s (by omega)
    rw [decide_eq_false h0, Bool.false_and]
    go_enter Tryd.func16, Tryd.ntmps16
    go_wp2
    go_ret
    exact ⟨rfl, rfl⟩
set_option maxHeartbeats 2000000 in
theorem specWord (s : ByteArray) (w : World) (hs : s.size ≤ 1100000) : Calls Tryd.prog 13 #[.string s] w fun e w' => e = .returned (.bool (Pl.word s)) ∧ w = w' := by
  unfold Pl.word
  by_cases h0 : 1 ≤ s.size
  · by_cases h1 : s.size ≤ 60
    · rw [decide_eq_true h0, Bool.true_and, decide_eq_true h1, Bool.true_and]
      obtain ⟨A, HA⟩ : ∃ A, Hid (s.data.toList.all Pl.wb = A) := ⟨_, rfl⟩
      rw [HA.out]
      go_enter Tryd.func13, Tryd.ntmps13
      go_wp2
      go_loopw [3] (fun i wr => ∃ k : Nat, k ≤ s.size ∧ i = .int .i64 k ∧ Hid ((s.data.toList.drop k).all Pl.wb = A) ∧ wr = w) (fun i _ => s.size - (Lib.intOf i).toNat)
      case atStart => exact ⟨0, Nat.zero_le _, rfl, HA.out, rfl⟩
      case round =>
        obtain ⟨k, hk, rfl, hp, rfl⟩ := hrel
        by_cases hlt : k < s.size
        · have h8 : s[k].toNat < 256 := UInt8.toNat_lt _
          have hst := Pl.all_step Pl.wb s.data.toList k (by simpa using hlt)
          rw [Pl.at_list s k hlt] at hst
          have Hst : Hid ((s.data.toList.drop k).all Pl.wb = (Pl.wb s[k] && (s.data.toList.drop (k + 1)).all Pl.wb)) := hst
          clear hst
          have hcs := wb_cases s[k]
          generalize hc : s[k] = c at *
          have Hc : Hid (s[k] = c) := hc
          have next : Pl.wb c = true → Hid ((s.data.toList.drop (k + 1)).all Pl.wb = A) := by
            intro h
            have := Hst.out
            rw [h, Bool.true_and, hp.out] at this
            exact this.symm
          have stop : Pl.wb c = false → A = false := by
            intro h
            have := Hst.out
            rw [h, Bool.false_and, hp.out] at this
            exact this
          rcases hcs with ⟨c0, c1, ha⟩ | ⟨c0, c1, ha⟩ | ⟨c0, ha⟩
          · replace next := next ha
            clear stop Hst ha hp
            go_wp2
            go_roundw
            case rel => exact ⟨k + 1, by omega, by go_num, next, trivial⟩
            case measure => simp [Lib.intOf]; omega
          · replace next := next ha
            clear stop Hst ha hp
            go_wp2
            go_roundw
            case rel => exact ⟨k + 1, by omega, by go_num, next, trivial⟩
            case measure => simp [Lib.intOf]; omega
          · rcases wb_last c ha with ⟨d, hw⟩ | ⟨d, hw⟩ | ⟨d, hw⟩ | ⟨d, hw⟩ | ⟨d1, d2, d3, d4, hw⟩
            case inr.inr.inr.inr =>
              have hf := mkH2 (stop hw)
              clear stop next Hst ha hp hw
              have y1 := eq_no c 45 d1
              have y2 := eq_no c 43 d2
              have y3 := eq_no c 46 d3
              have y4 := eq_no c 95 d4
              rcases c0 with c0 | ⟨c0, c1⟩ | c0
              all_goals
                go_wp2
                all_goals first | (go_ret; exact ⟨by have := hf.out; subst this; rfl, rfl⟩) | (exfalso; simp at *; omega)
            all_goals
              replace next := next hw
              have y0 := eq_yes c _ d
              first | have y1 := eq_no c 45 (by omega) | skip
              first | have y2 := eq_no c 43 (by omega) | skip
              first | have y3 := eq_no c 46 (by omega) | skip
              clear stop Hst ha hp hw
              go_wp2
              go_roundw
              case rel => exact ⟨k + 1, by omega, by go_num, next, trivial⟩
              case measure => simp [Lib.intOf]; omega
        · have h0 : A = true := by rw [← hp.out]; exact Pl.all_done Pl.wb _ k (by simp; omega)
          have H0 : Hid (A = true) := h0
          clear h0 hp
          go_wp2
          go_ret
          exact ⟨by have := H0.out; subst this; rfl, rfl⟩
    · rw [decide_eq_true h0, Bool.true_and, decide_eq_false h1, Bool.false_and]
      go_enter Tryd.func13, Tryd.ntmps13
      go_wp2
      go_ret
      exact ⟨rfl, rfl⟩
  · rw [decide_eq_false h0, Bool.false_and]
    go_enter Tryd.func13, Tryd.ntmps13
    go_wp2
    go_ret
    exact ⟨rfl, rfl⟩
end Go.Proofs.YtpjpnjbegjiegaaDoor
