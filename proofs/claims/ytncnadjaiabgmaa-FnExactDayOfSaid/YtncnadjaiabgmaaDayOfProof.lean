/- FnExactDayOf. -/
import Derived.Test.YtncnadjaiabgmaaRows
import Derived.WalkKit
import Derived.ProofKit
import Derived.OpenShut
import Derived.ShutString
import Derived.ChangeOld
import Derived.Below
import Derived.Test.YtncnadjaiabgmaaChecked
import Derived.WalkLawsBesides
import Derived.WalkSpells
namespace Go.Proofs.Ytncnadjaiabgmaa.fnExactDayOf
open Go.ChangeShapes Go.WideShapes Go.ChangeAt Go.RowKit
open Go.ChangeMaps (open_string shut_string)
set_option linter.unusedVariables false

theorem own : ownKnob Try.prog.godebug = none := by kernel_rfl

theorem implIsTime (x : Int) (w : World) : Calls Try.prog 6 #[.int .i64 x] w fun e w' => e = .returned (.bool (decide (0 ≤ x) && decide (x ≤ 253402300799))) ∧ w = w' := by
  by_cases h : 0 ≤ x
  · rw [decide_eq_true h, Bool.true_and]
    go_enter Try.func6, Try.ntmps6
    go_wp2
    go_ret
    exact ⟨rfl, rfl⟩
  · rw [decide_eq_false h, Bool.false_and]
    go_enter Try.func6, Try.ntmps6
    go_wp2
    go_ret
    exact ⟨rfl, rfl⟩
def dayOf (x : Int) : Int := if x < 0 ∨ 253402300799 < x then 0 else x / 86400
theorem specDayOf (x : Int) (w : World) : Calls Try.prog 4 #[.int .i64 x] w fun e w' => e = .returned (.int .i64 (dayOf x)) ∧ w = w' := by
  unfold dayOf
  rcases Int.lt_or_le x 0 with h1 | h1
  · rw [if_pos (.inl h1)]
    go_enter Try.func4, Try.ntmps4
    go_wp2
    go_ret
    exact ⟨rfl, rfl⟩
  · rcases Int.lt_or_le 253402300799 x with h2 | h2
    · rw [if_pos (.inr h2)]
      go_enter Try.func4, Try.ntmps4
      go_wp2
      go_ret
      exact ⟨rfl, rfl⟩
    · rw [if_neg (by omega)]
      go_enter Try.func4, Try.ntmps4
      go_wp2
      go_ret
      exact ⟨rfl, rfl⟩
theorem implDayOf (x : Int) (w : World) : Calls Try.prog 5 #[.int .i64 x] w fun e w' => e = .returned (.int .i64 (dayOf x)) ∧ w = w' := by
  have ht := fun w => implIsTime x w
  unfold dayOf
  by_cases h : x < 0 ∨ 253402300799 < x
  · rw [if_pos h]
    have hf : (decide (0 ≤ x) && decide (x ≤ 253402300799)) = false := by simp; omega
    simp only [hf] at ht
    clear hf h
    go_enter Try.func5, Try.ntmps5
    go_wp2_with (go_at_call 6; go_must (refine (ht _).mono ?_; rintro e w2 ⟨rfl, rfl⟩))
    go_ret
    exact ⟨rfl, rfl⟩
  · rw [if_neg h]
    have hf : (decide (0 ≤ x) && decide (x ≤ 253402300799)) = true := by simp; omega
    simp only [hf] at ht
    have h1 : 0 ≤ x := by omega
    have h2 : x ≤ 253402300799 := by omega
    clear hf h
    go_enter Try.func5, Try.ntmps5
    go_wp2_with (go_at_call 6; go_must (refine (ht _).mono ?_; rintro e w2 ⟨rfl, rfl⟩))
    go_ret
    exact ⟨rfl, rfl⟩
set_option maxHeartbeats 400000 in
theorem walk (x : Int) (w : World) :
    Calls Try.prog 3 #[.int .i64 x] w fun e w' => e = .returned (.bool true) ∧ Below w.heap.size w w' := by
  have hs := fun w => specDayOf x w
  have hi := fun w => implDayOf x w
  generalize dayOf x = r at *
  go_enter Try.func3, Try.ntmps3
  go_wp2_with first | (go_at_call 4; go_must (refine (hs _).mono ?_; rintro e w2 ⟨rfl, rfl⟩)) | (go_at_call 5; go_must (refine (hi _).mono ?_; rintro e w2 ⟨rfl, rfl⟩))
  go_ret
  exact ⟨rfl, Below.refl _ _⟩

set_option maxRecDepth 100000 in
theorem lifted (os : Os) (started : os.Started) (H : Type) (enc : TypeId × Value → H) :
    ReturnsInHanded {} Try.checked os 3 .any (Rows.fnExactDayOfSpec.pre6 enc Try.prog Try.f3 Rows.fnExactDayOfRow.domain false) (Rows.fnExactDayOfSpec.post enc Try.prog Try.f3 false true false false) := by
  refine returnsInHanded_of_change (C := Try.checked) own started (by kernel_rfl) Try.func3
    (ChangeSpec.witness6 (enc := enc) (C := Try.checked) false ⟨#[], #[.int .i64 0], []⟩ 8 (by kernel_rfl) (by kernel_rfl) (by kernel_rfl) (by kernel_rfl)) ?_
  intro W base args ds gs before hval0 hW hcnd _
  have hval : ∀ (j : Nat) t v, Try.f3.params[j]? = some t → args[j]? = some v → Value.okWide Try.prog W .any base t v := hval0
  have hW' := hW
  obtain ⟨p, q, hA0, hV, rfl, hfz, hnd⟩ := hW
  have hA : DataW.TrodAll enc Try.prog W 0 (fun _ => true) true Try.f3.params.toList args.toList ds p := hA0
  rw [Try.params3] at hA hval
  obtain ⟨v0, vs0, d0, ds0, p0, q0, hargs, rfl, rfl, h0, r0⟩ := trodAll_cons hA
  obtain ⟨rfl, rfl, rfl⟩ := trodAll_nil r0
  obtain rfl : args = #[v0] := by cases args; simp_all
  obtain ⟨rfl, rfl⟩ := trodVars_none hV
  obtain ⟨x, rfl, rfl, rfl, wx⟩ := open_int Try.underlying2 (hval 0 2 v0 rfl rfl) h0
  clear hA0 hval0
  simp only [List.append_nil] at hW'
  refine (walk x W).mono fun e W' ⟨he, bel⟩ => ?_
  subst he
  exact ⟨_, rfl, _, _, _, [], _, [], hW', trodAll_mk1 (shut_bool Try.underlying4 _), trodAll_mk1 (shut_int Try.underlying2 wx), rfl, bel.frame _, fun h => by cases h⟩

theorem over : Rows.fnExactDayOfRow.holds Try.pinned (OpenSpec.ofChange Rows.fnExactDayOfSpec) :=
  OpenClaim.holds_of_wide 3 Try.f3 rfl rfl rfl rfl rfl rfl rfl ⟨rfl, rfl, rfl, rfl, rfl⟩ rfl rfl rfl rfl rfl (by kernel_rfl) Try.func3 (by kernel_rfl)
    (of_decide_eq_true (by kernel_rfl)) (by unfold Func.isWrapper; first | (rw [if_pos (by decide +kernel)]; kernel_rfl) | (rw [if_neg (by decide +kernel)]; exact ⟨rfl, rfl⟩))
    (fun os started H enc _ => lifted os started H enc)

theorem proved : Rows.FnExactDayOfSaid :=
  over
end Go.Proofs.Ytncnadjaiabgmaa.fnExactDayOf
namespace Go.Proofs.Ytncnadjaiabgmaa
theorem dayOf_holds : Rows.FnExactDayOfSaid := fnExactDayOf.proved
#print axioms dayOf_holds
end Go.Proofs.Ytncnadjaiabgmaa
