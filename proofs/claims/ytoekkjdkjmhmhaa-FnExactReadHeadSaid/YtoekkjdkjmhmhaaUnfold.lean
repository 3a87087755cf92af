
/- The walks of the two Unfold. -/
import Derived.Test.YtoekkjdkjmhmhaaBlank
namespace Go.Proofs.Ytoekkjdkjmhmhaa
open Go.RowKit Go.Lib
set_option maxHeartbeats 400000 in
theorem implLineEndAt (s : ByteArray) (k : Nat) (w : World) (_hs : s.size ≤ 1100000) (hk : k ≤ s.size) :
    Calls Try.prog 28 #[.string s, .int .i64 k] w fun e w' => e = .returned (.bool (Pl.crlf s.data.toList k)) ∧ w = w' := by
  by_cases h : s.size < k + 2
  · rw [Pl.crlf_short _ _ (by simp; omega)]
    go_enter Try.func28, Try.ntmps28
    go_wp2
    go_ret
    exact ⟨rfl, rfl⟩
  · rw [← Pl.crlf_long]
    go_enter Try.func28, Try.ntmps28
    go_wp2
    go_ret
    exact ⟨rfl, rfl⟩
set_option maxHeartbeats 400000 in
theorem implFoldAt (s : ByteArray) (k : Nat) (w : World) (hs : s.size ≤ 1100000) (hk : k ≤ s.size) :
    Calls Try.prog 42 #[.string s, .int .i64 k] w fun e w' => e = .returned (.bool (Pl.fold s.data.toList k)) ∧ w = w' := by
  have hc := implLineEndAt s k w hs hk
  by_cases hcr : Pl.crlf s.data.toList k = true
  · by_cases h2 : k + 2 < s.size
    · rw [hcr] at hc
      rw [show Pl.fold s.data.toList k = Pl.blank s[k + 2] from by rw [Pl.fold, hcr, Pl.blankAt_lt _ _ (by simpa using h2)]; rfl]
      clear hcr
      go_enter Try.func42, Try.ntmps42
      go_wp2_with (first | (go_at_call 28; go_must (refine hc.mono ?_; rintro e w2 ⟨rfl, rfl⟩)) | (go_at_call 31; go_must (refine (implBlank s[k + 2] _).mono ?_; rintro e w2 ⟨rfl, rfl⟩)))
      go_ret
      exact ⟨rfl, rfl⟩
    · rw [hcr] at hc
      rw [show Pl.fold s.data.toList k = false from by rw [Pl.fold, Pl.blankAt_ge _ (k + 2) (by simp; omega), Bool.and_false]]
      clear hcr
      go_enter Try.func42, Try.ntmps42
      go_wp2_with (go_at_call 28; go_must (refine hc.mono ?_; rintro e w2 ⟨rfl, rfl⟩))
      go_ret
      exact ⟨rfl, rfl⟩
  · rw [Bool.not_eq_true] at hcr
    rw [hcr] at hc
    rw [show Pl.fold s.data.toList k = false from by rw [Pl.fold, hcr]; rfl]
    clear hcr
    go_enter Try.func42, Try.ntmps42
    go_wp2_with (go_at_call 28; go_must (refine hc.mono ?_; rintro e w2 ⟨rfl, rfl⟩))
    go_ret
    exact ⟨rfl, rfl⟩
set_option maxHeartbeats 400000 in
theorem specFold3 (s : ByteArray) (k : Nat) (w : World) (_hs : s.size ≤ 1100000) (_hk : k ≤ s.size) :
    Calls Try.prog 21 #[.string s, .int .i64 k] w fun e w' => e = .returned (.bool (Pl.fold s.data.toList k)) ∧ w = w' := by
  by_cases h2 : k + 2 < s.size
  · by_cases h0 : ((s[k].toNat : Int) == 13) = true
    · by_cases h1 : ((s[k + 1].toNat : Int) == 10) = true
      · rw [show Pl.fold s.data.toList k = Pl.blank s[k + 2] from by
          rw [Pl.fold, (Pl.crlf_iff _ _).2 ⟨by simp; omega, Pl.byte_eq _ 13 _ rfl h0, Pl.byte_eq _ 10 _ rfl h1⟩, Pl.blankAt_lt _ _ (by simpa using h2)]; rfl]
        go_enter Try.func21, Try.ntmps21
        go_wp2_with (go_at_call 10; go_must (refine (specBlank s[k + 2] _).mono ?_; rintro e w2 ⟨rfl, rfl⟩))
        go_ret
        exact ⟨rfl, rfl⟩
      · rw [Bool.not_eq_true] at h1
        rw [show Pl.fold s.data.toList k = false from by
          rw [Bool.eq_false_iff]; intro e; obtain ⟨h, -, e1, -⟩ := (Pl.fold_iff _ _).1 e; exact Pl.byte_ne _ 10 _ rfl h1 e1]
        go_enter Try.func21, Try.ntmps21
        go_wp2
        go_ret
        exact ⟨rfl, rfl⟩
    · rw [Bool.not_eq_true] at h0
      rw [show Pl.fold s.data.toList k = false from by
        rw [Bool.eq_false_iff]; intro e; obtain ⟨h, e0, -, -⟩ := (Pl.fold_iff _ _).1 e; exact Pl.byte_ne _ 13 _ rfl h0 e0]
      go_enter Try.func21, Try.ntmps21
      go_wp2
      go_ret
      exact ⟨rfl, rfl⟩
  · rw [show Pl.fold s.data.toList k = false from by rw [Pl.fold, Pl.blankAt_ge _ (k + 2) (by simp; omega), Bool.and_false]]
    go_enter Try.func21, Try.ntmps21
    go_wp2
    go_ret
    exact ⟨rfl, rfl⟩
end Go.Proofs.Ytoekkjdkjmhmhaa
