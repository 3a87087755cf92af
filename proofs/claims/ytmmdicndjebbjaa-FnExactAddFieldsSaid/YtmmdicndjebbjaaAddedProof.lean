/- FnExactAddFields. -/
import Derived.Test.YtmmdicndjebbjaaRows
import Derived.WalkKit
import Derived.ProofKit
import Derived.OpenShut
import Derived.ShutString
import Derived.ChangeOld
import Derived.Below
import Derived.Test.YtmmdicndjebbjaaAdded
import Derived.Test.YtmmdicndjebbjaaFieldsArg
namespace Go.Proofs.Ytmmdicndjebbjaa
theorem Pl.hd_le : ∀ (F : List (ByteArray × ByteArray)) (p : List UInt8), p.length ≤ 100000 → (Pl.hd p F).length ≤ 100000
  | [], p, h => h
  | f :: r, p, h => by
    unfold Pl.hd
    split
    · split
      · simp
      · exact Pl.hd_le r _ (by omega)
    · simp
theorem Pl.hd_len (F : List (ByteArray × ByteArray)) : (⟨(Pl.hd [] F).toArray⟩ : ByteArray).size ≤ 100000 := by
  have := Pl.hd_le F [] (by simp)
  simpa [ByteArray.size] using this
end Go.Proofs.Ytmmdicndjebbjaa
namespace Go.Proofs.Ytmmdicndjebbjaa.fnExactAddFields
open Go.ChangeShapes Go.WideShapes Go.ChangeAt Go.RowKit
open Go.ChangeMaps (open_string shut_string)
set_option linter.unusedVariables false

theorem own : ownKnob Try.prog.godebug = none := by kernel_rfl
theorem laidOut : laidOutB Try.prog = true := by kernel_rfl

set_option maxHeartbeats 400000 in
theorem specMany (o : Option Addr) (n cap : Nat) (w : World) (h : 200 < n) (hn : n ≤ 1048576) :
    Calls Try.prog 10 #[.slice o n cap] w fun e w' => e = .returned (.string ⟨#[]⟩) ∧ w = w' := by
  go_enter Try.func10, Try.ntmps10
  go_wp2
  go_ret
  exact ⟨rfl, rfl⟩
set_option maxHeartbeats 400000 in
theorem implMany (o : Option Addr) (n cap : Nat) (w : World) (h : 200 < n) (hn : n ≤ 1048576) :
    Calls Try.prog 12 #[.slice o n cap] w fun e w' => e = .returned (.string ⟨#[]⟩) ∧ w = w' := by
  go_enter Try.func12, Try.ntmps12
  go_wp2
  go_ret
  exact ⟨rfl, rfl⟩
/-- Both write the same text. -/
theorem both (F : List Fd) (hlen : F.length ≤ 1048576) (hsz : ∀ f ∈ F, f.1.size ≤ 1048576 ∧ f.2.size ≤ 1048576) :
    ∃ t : ByteArray, t.size ≤ 100000 ∧ (∀ (o : Option Addr) (cap : Nat) (w : World), Fld w.heap.size w o F → Calls Try.prog 10 #[.slice o F.length cap] w fun e w' => e = .returned (.string t) ∧ Below w.heap.size w w') ∧
      (∀ (o : Option Addr) (cap : Nat) (w : World), Fld w.heap.size w o F → Calls Try.prog 12 #[.slice o F.length cap] w fun e w' => e = .returned (.string t) ∧ Below w.heap.size w w') := by
  by_cases h : 200 < F.length
  · exact ⟨⟨#[]⟩, by decide, fun o cap w _ => (specMany o F.length cap w h hlen).mono (by rintro e w' ⟨rfl, rfl⟩; exact ⟨rfl, Below.refl _ _⟩),
      fun o cap w _ => (implMany o F.length cap w h hlen).mono (by rintro e w' ⟨rfl, rfl⟩; exact ⟨rfl, Below.refl _ _⟩)⟩
  · exact ⟨_, Pl.hd_len F, fun o cap w hF => specWriteHead o F cap w hF (by omega) hsz, fun o cap w hF => implWriteHead o F cap w hF (by omega) hsz⟩

set_option maxHeartbeats 1000000 in
theorem walk (m : ByteArray) (hm0 : m.size ≤ maxLen) (o : Option Addr) (F : List Fd) (cap : Nat) (w : World) (hF : Fld w.heap.size w o F) (hlen : F.length ≤ maxLen) (hsz : ∀ f ∈ F, f.1.size ≤ maxLen ∧ f.2.size ≤ maxLen) :
    Calls Try.prog 3 #[.string m, .slice o F.length cap] w fun e w' => e = .returned (.bool true) ∧ Below w.heap.size w w' := by
  unfold maxLen at hm0
  by_cases hm : 1048576 < m.size
  · clear hF hlen hsz
    go_enter Try.func3, Try.ntmps3
    go_wp2
    go_ret
    exact ⟨rfl, Below.refl _ _⟩
  have HF := mkHid hF
  have h1 := lawSzFieldS o F cap w hF hlen hsz
  clear hF hlen hsz
  go_enter Try.func3, Try.ntmps3
  go_wp2_with fail
  refine h1.mono ?_
  rintro e w1 ⟨r, rfl, hr, hb1⟩
  clear h1
  rcases hr.out with rfl | ⟨hr0, hlen, hsz⟩
  · go_wp2
    go_ret
    exact ⟨rfl, hb1⟩
  · obtain ⟨t, ht, hS, hI⟩ := both F hlen hsz
    have HS := mkHid hS
    have HI := mkHid hI
    clear hS hI hsz hr
    have hF1 := mkHid ((HF.out.below hb1).mono hb1.size)
    go_wp2_with fail
    refine (lawToFieldS o F cap _ hF1.out hlen).mono ?_
    rintro e w2 ⟨rfl, hF2, hb2⟩
    go_wp2_with fail
    refine (specAdd m t _ _ (by omega) ht (by rintro w1 rfl; exact HS.out _ _ _ hF2.out)).mono ?_
    rintro e w3 ⟨rfl, hb3⟩
    have hb13 := hb2.trans (hb3.mono hb2.size)
    have hF3 := mkHid ((hF1.out.below hb13).mono hb13.size)
    go_wp2_with fail
    refine (lawToFieldS o F cap _ hF3.out hlen).mono ?_
    rintro e w4 ⟨rfl, hF4, hb4⟩
    go_wp2_with fail
    refine (implAdd m t _ _ (by omega) ht (by rintro w1 rfl; exact HI.out _ _ _ hF4.out)).mono ?_
    rintro e w5 ⟨rfl, hb5⟩
    have hb35 := hb4.trans (hb5.mono hb4.size)
    have hF5 := mkHid ((hF3.out.below hb35).mono hb35.size)
    go_wp2_with fail
    refine (lawToFieldS o F cap _ hF5.out hlen).mono ?_
    rintro e w6 ⟨rfl, hF6, hb6⟩
    have hF46 := mkHid ((hF4.out.below (hb5.trans (hb6.mono hb5.size))).mono (hb5.trans (hb6.mono hb5.size)).size)
    go_wp2_with fail
    refine (lawEqFieldS _ _ F _ _ _ hF46.out hF6.out hlen).mono ?_
    rintro e w7 ⟨rfl, hb7⟩
    go_wp2
    go_ret
    have a1 := hb1.trans (hb13.mono hb1.size)
    have a2 := a1.trans (hb35.mono a1.size)
    have a3 := a2.trans (hb6.mono a2.size)
    exact ⟨rfl, a3.trans (hb7.mono a3.size)⟩

set_option maxRecDepth 100000 in
theorem lifted (os : Os) (started : os.Started) (H : Type) (enc : TypeId × Value → H) :
    ReturnsInHanded {} Try.checked os 3 .any (Rows.fnExactAddFieldsSpec.pre6 enc Try.prog Try.f3 Rows.fnExactAddFieldsRow.domain false) (Rows.fnExactAddFieldsSpec.post enc Try.prog Try.f3 false true false false) := by
  refine returnsInHanded_of_change (C := Try.checked) own started (by kernel_rfl) Try.func3
    (ChangeSpec.witness6 (enc := enc) (C := Try.checked) false ⟨#[], #[.string ByteArray.empty, .slice none 0 0], []⟩ 8 (by kernel_rfl) (by kernel_rfl) (by kernel_rfl) (by kernel_rfl)) ?_
  intro W base args ds gs before hval0 hW hcnd _
  have hval : ∀ (j : Nat) t v, Try.f3.params[j]? = some t → args[j]? = some v → Value.okWide Try.prog W .any base t v := hval0
  have hW' := hW
  obtain ⟨p, q, hA0, hV, rfl, hfz, hnd⟩ := hW
  have hA : DataW.TrodAll enc Try.prog W 0 (fun _ => true) true Try.f3.params.toList args.toList ds p := hA0
  rw [Try.params3] at hA hval
  obtain ⟨v0, vs0, d0, ds0, p0, q0, hargs, rfl, rfl, h0, r0⟩ := trodAll_cons hA
  obtain ⟨v1, vs1, d1, ds1, p1, q1, hargs1, rfl, rfl, h1, r1⟩ := trodAll_cons r0
  obtain ⟨rfl, rfl, rfl⟩ := trodAll_nil r1
  obtain rfl : args = #[v0, v1] := by cases args; simp_all
  obtain ⟨rfl, rfl⟩ := trodVars_none hV
  obtain ⟨a0, rfl, rfl, rfl, wm⟩ := open_string Try.underlying9 (hval 0 9 v0 rfl rfl) h0
  have hlt : ∀ x ∈ p1, x.block < W.heap.size := by obtain ⟨fuel, hx⟩ := h1; exact DataW.trod_lt fuel _ _ _ hx
  obtain ⟨o, F, cap, rfl, hF, hlen, hsz⟩ := open_fields Try.underlying22 Try.underlying31 (by kernel_rfl) rfl rfl rfl rfl (by kernel_rfl) Try.underlying9 (hval 1 22 v1 rfl rfl) h1
  clear hA0 hval0
  simp only [List.append_nil] at hW'
  refine (walk a0 wm o F cap W hF hlen hsz).mono fun e W' ⟨he, bel⟩ => ?_
  subst he
  exact ⟨_, rfl, _, _, _, [], _, [], hW', trodAll_mk1 (shut_bool Try.underlying4 _), (trodAll_cons_mk (shut_string Try.underlying9 wm) (trodAll_cons_mk (Below.trod laidOut (by kernel_rfl) (of_decide_eq_true (by kernel_rfl)) h1 bel hlt) trodAll_mk0)), rfl, bel.frame _, fun h => by cases h⟩

theorem over : Rows.fnExactAddFieldsRow.holds Try.pinned (OpenSpec.ofChange Rows.fnExactAddFieldsSpec) :=
  OpenClaim.holds_of_wide 3 Try.f3 rfl rfl rfl rfl rfl rfl rfl ⟨rfl, rfl, rfl, rfl, rfl⟩ rfl rfl rfl rfl rfl (by kernel_rfl) Try.func3 (by kernel_rfl)
    (of_decide_eq_true (by kernel_rfl)) (by unfold Func.isWrapper; first | (rw [if_pos (by decide +kernel)]; kernel_rfl) | (rw [if_neg (by decide +kernel)]; exact ⟨rfl, rfl⟩))
    (fun os started H enc _ => lifted os started H enc)

theorem proved : Rows.FnExactAddFieldsSaid :=
  over
end Go.Proofs.Ytmmdicndjebbjaa.fnExactAddFields
namespace Go.Proofs.Ytmmdicndjebbjaa
theorem addFields_holds : Rows.FnExactAddFieldsSaid := fnExactAddFields.proved
#print axioms addFields_holds
end Go.Proofs.Ytmmdicndjebbjaa
