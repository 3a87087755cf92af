
/- The walks of the two Unfold. -/
import Derived.Test.YtacmhofekdjobaaGreatDoorBlank
namespace Go.Proofs.YtacmhofekdjobaaGreatDoor
open Go.RowKit Go.Lib
set_option maxRecDepth 20000 in
set_option maxHeartbeats 400000 in
theorem implLineEndAt (s : ByteArray) (k : Nat) (w : World) (_hs : s.size ≤ 1100000) (hk : k ≤ s.size) :
    Calls Tryz.prog 92 #[.string s, .int .i64 k] w fun e w' => e = .returned (.bool (Pl.crlf s.data.toList k)) ∧ w = w' := by
  by_cases h : s.size < k + 2
  · rw [Pl.crlf_short _ _ (by simp; omega)]
    go_enter Tryz.func92, Tryz.ntmps92
    go_wp2
    go_ret
    exact ⟨rfl, rfl⟩
  · rw [← Pl.crlf_long]
    go_enter Tryz.func92, Tryz.ntmps92
    go_wp2
    go_ret
    exact ⟨rfl, rfl⟩
set_option maxRecDepth 20000 in
set_option maxHeartbeats 400000 in
theorem implFoldAt (s : ByteArray) (k : Nat) (w : World) (hs : s.size ≤ 1100000) (hk : k ≤ s.size) :
    Calls Tryz.prog 77 #[.string s, .int .i64 k] w fun e w' => e = .returned (.bool (Pl.fold s.data.toList k)) ∧ w = w' := by
  have hc := implLineEndAt s k w hs hk
  by_cases hcr : Pl.crlf s.data.toList k = true
  · by_cases h2 : k + 2 < s.size
    · rw [hcr] at hc
      rw [show Pl.fold s.data.toList k = Pl.blank s[k + 2] from by rw [Pl.fold, hcr, Pl.blankAt_lt _ _ (by simpa using h2)]; rfl]
      clear hcr
      go_enter Tryz.func77, Tryz.ntmps77
      go_wp2_with (first | (go_at_call 92; go_must (refine hc.mono ?_; rintro e w2 ⟨rfl, rfl⟩)) | (go_at_call 48; go_must (refine (implBlank s[k + 2] _).mono ?_; rintro e w2 ⟨rfl, rfl⟩)))
      go_ret
      exact ⟨rfl, rfl⟩
    · rw [hcr] at hc
      rw [show Pl.fold s.data.toList k = false from by rw [Pl.fold, Pl.blankAt_ge _ (k + 2) (by simp; omega), Bool.and_false]]
      clear hcr
      go_enter Tryz.func77, Tryz.ntmps77
      go_wp2_with (go_at_call 92; go_must (refine hc.mono ?_; rintro e w2 ⟨rfl, rfl⟩))
      go_ret
      exact ⟨rfl, rfl⟩
  · rw [Bool.not_eq_true] at hcr
    rw [hcr] at hc
    rw [show Pl.fold s.data.toList k = false from by rw [Pl.fold, hcr]; rfl]
    clear hcr
    go_enter Tryz.func77, Tryz.ntmps77
    go_wp2_with (go_at_call 92; go_must (refine hc.mono ?_; rintro e w2 ⟨rfl, rfl⟩))
    go_ret
    exact ⟨rfl, rfl⟩
end Go.Proofs.YtacmhofekdjobaaGreatDoor
