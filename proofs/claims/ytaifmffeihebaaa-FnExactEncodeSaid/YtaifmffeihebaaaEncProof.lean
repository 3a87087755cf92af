/- FnExactEncode. -/
import Derived.Test.YtaifmffeihebaaaRows
import Derived.WalkKit
import Derived.ProofKit
import Derived.OpenShut
import Derived.ShutString
import Derived.ChangeOld
import Derived.Below
import Derived.Test.YtaifmffeihebaaaEncSpec
import Derived.Test.YtaifmffeihebaaaPointsLaw
import Derived.Test.YtaifmffeihebaaaPointsArg
namespace Go.Proofs.Ytaifmffeihebaaa.fnExactEncode
open Go.ChangeShapes Go.WideShapes Go.ChangeAt Go.RowKit
open Go.ChangeMaps (open_string shut_string)
set_option linter.unusedVariables false

theorem own : ownKnob Try.prog.godebug = none := by kernel_rfl
theorem laidOut : laidOutB Try.prog = true := by kernel_rfl

theorem encV_shape (x : Option (List UInt8)) : ∃ (b : Bool) (t : ByteArray), encV x = .agg #[.bool b, .string t] := by
  cases x with
  | none => exact ⟨false, _, rfl⟩
  | some l => exact ⟨true, _, rfl⟩
set_option maxHeartbeats 400000 in
theorem lawEqBytes (b : Bool) (t : ByteArray) (w : World) : Calls Try.prog 7 #[.agg #[.bool b, .string t], .agg #[.bool b, .string t]] w fun e w' => e = .returned (.bool true) ∧ Below w.heap.size w w' := by
  go_enter Try.func7, Try.ntmps7
  go_wp2
  go_ret
  exact ⟨rfl, ((Below.refl _ _).alloc (Nat.le_refl _) _).alloc (by simp) _⟩

set_option maxHeartbeats 1000000 in
theorem walk (set : Int) (o : Option Addr) (F : List Int) (cap : Nat) (w : World) (hF : Ints w.heap.size w o F) (hlen : F.length ≤ maxLen) :
    Calls Try.prog 3 #[.int .i64 set, .slice o F.length cap] w fun e w' => e = .returned (.bool true) ∧ Below w.heap.size w w' := by
  unfold maxLen at hlen
  by_cases hm : 1048576 < F.length
  · clear hF
    go_enter Try.func3, Try.ntmps3
    go_wp2
    go_ret
    exact ⟨rfl, Below.refl _ _⟩
  have hl : F.length ≤ 1048576 := by omega
  have HF := mkHid hF
  clear hF
  have hS := fun o cap w hF => specEncode set o F cap w hF hl
  have hI := fun o cap w hF => implEncode set o F cap w hF hl
  obtain ⟨b, t, hx⟩ := encV_shape (encA set F)
  rw [hx] at hS hI
  have hQ := lawEqBytes b t
  have HS := mkHid hS
  have HI := mkHid hI
  have HQ := mkHid hQ
  clear hS hI hQ
  go_enter Try.func3, Try.ntmps3
  go_wp2_with fail
  refine (lawToInts o F cap _ HF.out hl).mono ?_
  rintro e w2 ⟨rfl, hF2, hb2⟩
  go_wp2_with fail
  refine (HS.out _ _ _ hF2.out).mono ?_
  rintro e w3 ⟨rfl, hb3⟩
  have hb13 := (hb2.trans (hb3.mono hb2.size)).alloc (hb2.trans (hb3.mono hb2.size)).size (.cells #[.bool b, .string t] 24)
  have hv3 : (w3.alloc (.cells #[.bool b, .string t] 24)).heap[w3.heap.size]? = some (.cells #[.bool b, .string t] 24 (0, 0)) := heap_alloc_at _ _
  have hs3 : (w3.alloc (.cells #[.bool b, .string t] 24)).heap.size = w3.heap.size + 1 := by simp
  go_wp2_with fail
  have hF3 := mkHid ((HF.out.below hb13).mono hb13.size)
  refine (lawToInts o F cap _ hF3.out hl).mono ?_
  rintro e w4 ⟨rfl, hF4, hb4⟩
  rw [hs3] at hF4
  go_wp2_with fail
  refine (HI.out _ _ _ hF4.out).mono ?_
  rintro e w5 ⟨rfl, hb5⟩
  have hb35 := hb4.trans (hb5.mono hb4.size)
  have hv5 := (hb35.block w3.heap.size (by omega)).trans hv3
  have hs5 := hb35.size
  have hb35' := hb35.alloc hb35.size (.cells #[.bool b, .string t] 24)
  have hv5' : (w5.alloc (.cells #[.bool b, .string t] 24)).heap[w3.heap.size]? = some (.cells #[.bool b, .string t] 24 (0, 0)) := (heap_alloc_old _ _ _ (by omega)).trans hv5
  have hg5 : (w5.alloc (.cells #[.bool b, .string t] 24)).heap[w5.heap.size]? = some (.cells #[.bool b, .string t] 24 (0, 0)) := heap_alloc_at _ _
  obtain ⟨k0, k1⟩ := two_cells hv5'
  obtain ⟨l0, l1⟩ := two_cells hg5
  have hF5 := mkHid ((hF3.out.below hb35').mono hb35'.size)
  go_wp2_with fail
  refine (HQ.out _).mono ?_
  rintro e w6 ⟨rfl, hb6⟩
  have hF6 := mkHid ((hF5.out.below hb6).mono hb6.size)
  go_wp2_with fail
  refine (lawToInts o F cap _ hF6.out hl).mono ?_
  rintro e w7 ⟨rfl, hF7, hb7⟩
  have hb57 := (hb5.alloc hb5.size (.cells #[.bool b, .string t] 24)).trans ((hb6.trans (hb7.mono hb6.size)).mono (by have := hb5.size; simp; omega))
  have hF47 := mkHid ((hF4.out.below hb57).mono hb57.size)
  go_wp2_with fail
  refine (lawEqInts _ _ F _ _ _ hF47.out hF7.out hl).mono ?_
  rintro e w8 ⟨rfl, hb8⟩
  go_wp2
  go_ret
  have a2 := hb13.trans (hb35'.mono hb13.size)
  have a3 := a2.trans (hb6.mono a2.size)
  have a4 := a3.trans (hb7.mono a3.size)
  exact ⟨rfl, a4.trans (hb8.mono a4.size)⟩

set_option maxRecDepth 100000 in
theorem lifted (os : Os) (started : os.Started) (H : Type) (enc : TypeId × Value → H) :
    ReturnsInHanded {} Try.checked os 3 .any (Rows.fnExactEncodeSpec.pre6 enc Try.prog Try.f3 Rows.fnExactEncodeRow.domain false) (Rows.fnExactEncodeSpec.post enc Try.prog Try.f3 false true false false) := by
  refine returnsInHanded_of_change (C := Try.checked) own started (by kernel_rfl) Try.func3
    (ChangeSpec.witness6 (enc := enc) (C := Try.checked) false ⟨#[], #[.int .i64 0, .slice none 0 0], []⟩ 8 (by kernel_rfl) (by kernel_rfl) (by kernel_rfl) (by kernel_rfl)) ?_
  intro W base args ds gs before hval0 hW hcnd _
  have hval : ∀ (j : Nat) t v, Try.f3.params[j]? = some t → args[j]? = some v → Value.okWide Try.prog W .any base t v := hval0
  have hW' := hW
  obtain ⟨p, q, hA0, hV, rfl, hfz, hnd⟩ := hW
  have hA : DataW.TrodAll enc Try.prog W 0 (fun _ => true) true Try.f3.params.toList args.toList ds p := hA0
  rw [Try.params3] at hA hval
  obtain ⟨v0, vs0, d0, ds0, p0, q0, hargs, rfl, rfl, h0, r0⟩ := trodAll_cons hA
  obtain ⟨v1, vs1, d1, ds1, p1, q1, hargs1, rfl, rfl, h1, r1⟩ := trodAll_cons r0
  obtain ⟨rfl, rfl, rfl⟩ := trodAll_nil r1
  obtain rfl : args = #[v0, v1] := by cases args; simp_all
  obtain ⟨rfl, rfl⟩ := trodVars_none hV
  obtain ⟨x, rfl, rfl, rfl, wx⟩ := open_int Try.underlying2 (hval 0 2 v0 rfl rfl) h0
  have hlt : ∀ x ∈ p1, x.block < W.heap.size := by obtain ⟨fuel, hx⟩ := h1; exact DataW.trod_lt fuel _ _ _ hx
  obtain ⟨o, F, cap, rfl, hF, hlen⟩ := open_points Try.underlying22 Try.underlying2 (by kernel_rfl) (hval 1 22 v1 rfl rfl) h1
  clear hA0 hval0
  simp only [List.append_nil] at hW'
  refine (walk x o F cap W hF hlen).mono fun e W' ⟨he, bel⟩ => ?_
  subst he
  exact ⟨_, rfl, _, _, _, [], _, [], hW', trodAll_mk1 (shut_bool Try.underlying4 _), (trodAll_cons_mk (shut_int Try.underlying2 wx) (trodAll_cons_mk (Below.trod laidOut (by kernel_rfl) (of_decide_eq_true (by kernel_rfl)) h1 bel hlt) trodAll_mk0)), rfl, bel.frame _, fun h => by cases h⟩

theorem over : Rows.fnExactEncodeRow.holds Try.pinned (OpenSpec.ofChange Rows.fnExactEncodeSpec) :=
  OpenClaim.holds_of_wide 3 Try.f3 rfl rfl rfl rfl rfl rfl rfl ⟨rfl, rfl, rfl, rfl, rfl⟩ rfl rfl rfl rfl rfl (by kernel_rfl) Try.func3 (by kernel_rfl)
    (of_decide_eq_true (by kernel_rfl)) (by unfold Func.isWrapper; first | (rw [if_pos (by decide +kernel)]; kernel_rfl) | (rw [if_neg (by decide +kernel)]; exact ⟨rfl, rfl⟩))
    (fun os started H enc _ => lifted os started H enc)

theorem proved : Rows.FnExactEncodeSaid :=
  over
end Go.Proofs.Ytaifmffeihebaaa.fnExactEncode
namespace Go.Proofs.Ytaifmffeihebaaa
theorem encode_holds : Rows.FnExactEncodeSaid := fnExactEncode.proved
#print axioms encode_holds
end Go.Proofs.Ytaifmffeihebaaa
