/- FnExactCanonBody (wants implCanonBody: the program's side, in YtifnndegpeggpaaCanonImpl; laysM219: the shelf's laying of a function that reads MaxLen). -/
import Derived.Test.YtifnndegpeggpaaRows
import Derived.Test.YtifnndegpeggpaaCanonBodySpec
import Derived.Test.YtifnndegpeggpaaCanonImpl
import Derived.WalkKit
import Derived.ProofKit
import Derived.OpenShut
import Derived.ShutString
import Derived.ChangeOld
import Derived.Below
import Derived.HandedShaped
namespace Go.Proofs.Ytifnndegpeggpaa
open Go.ChangeShapes Go.WideShapes Go.ChangeAt Go.RowKit Go.Lib
open Go.ChangeMaps (open_string shut_string)
theorem specCanonNo (s : ByteArray) (x : Int) (w : World) (hs : s.size ≤ 1100000) (h : 100000 < s.size ∨ (¬ x = 0 ∧ ¬ x = 1)) :
    Calls Try.prog 4 #[.string s, .int .i64 x] w fun e w' => e = .returned (.string ⟨#[]⟩) ∧ Below w.heap.size w w' := by
  by_cases hl : 100000 < s.size
  · clear h
    go_enter Try.func4, Try.ntmps4
    go_wp2
    go_ret
    exact ⟨rfl, Below.refl _ _⟩
  · have h0 : (x != 0) = true := by rcases h with h | h; omega; simp; exact h.1
    have h1 : (x != 1) = true := by rcases h with h | h; omega; simp; exact h.2
    clear h
    go_enter Try.func4, Try.ntmps4
    go_wp2
    go_ret
    exact ⟨rfl, Below.refl _ _⟩
theorem specCanonAny (s : ByteArray) (x : Int) (w : World) (hs : s.size ≤ 1100000) :
    Calls Try.prog 4 #[.string s, .int .i64 x] w fun e w' => e = .returned (.string (canonAny s x)) ∧ Below w.heap.size w w' := by
  unfold canonAny
  by_cases h : 100000 < s.size ∨ (¬ x = 0 ∧ ¬ x = 1)
  · rw [if_pos h]; exact specCanonNo s x w hs h
  · rw [if_neg h]
    have hx : x = 0 ∨ x = 1 := by omega
    rcases hx with rfl | rfl
    · exact specCanonBody0 s w (by omega)
    · exact specCanonBody1 s w (by omega)
namespace fnExactCanonBody
theorem own : ownKnob Try.prog.godebug = none := by kernel_rfl
set_option maxHeartbeats 1000000 in
theorem walk (s : ByteArray) (x m : Int) (w : World) (hs : s.size ≤ maxLen) (hm : w.cell? ⟨0, 0, none⟩ = some (.int .i64 m)) :
    Calls Try.prog 3 #[.string s, .int .i64 x] w fun e w' => e = .returned (.bool true) ∧ Below w.heap.size w w' := by
  unfold maxLen at hs
  have Hm : Hid (w.cell? ⟨0, 0, none⟩ = some (.int .i64 m)) := hm
  clear hm
  by_cases hbig : 1048576 < s.size
  · go_enter Try.func3, Try.ntmps3
    go_wp2
    go_ret
    exact ⟨rfl, Below.refl _ _⟩
  · have hS := specCanonAny s x w (by omega)
    have HI := (show Hid _ from fun (w : World) hm => implCanonBody s x m w (by omega) hm)
    generalize canonAny s x = R at *
    go_enter Try.func3, Try.ntmps3
    go_wp2_with fail
    refine hS.mono ?_
    rintro e w1 ⟨rfl, hb1⟩
    go_wp2_with fail
    refine (HI.out _ ((hb1.cell (World.block_lt_of_cell? _ _ Hm.out)).trans Hm.out)).mono ?_
    rintro e w2 ⟨rfl, hb2⟩
    go_wp2
    go_ret
    exact ⟨rfl, hb1.trans (hb2.mono hb1.size)⟩
set_option maxRecDepth 100000 in
theorem lifted (os : Os) (started : os.Started) (H : Type) (enc : TypeId × Value → H) :
    ReturnsInHanded {} Try.checked os 3 .any (Rows.fnExactCanonBodySpec.pre6 enc Try.prog Try.f3 Rows.fnExactCanonBodyRow.domain false) (Rows.fnExactCanonBodySpec.post enc Try.prog Try.f3 false true false false) := by
  refine returnsInHanded_of_change_shaped (C := Try.checked) own started (by kernel_rfl) Try.func3
    (ChangeSpec.witness6 (enc := enc) (C := Try.checked) false ⟨#[], #[.string ByteArray.empty, .int .i64 0], []⟩ 8 (by kernel_rfl) (by kernel_rfl) (by kernel_rfl) (by kernel_rfl)) ?_
  intro W base args ds gs before hval0 hW hcnd _ hsh _
  have hval : ∀ (j : Nat) t v, Try.f3.params[j]? = some t → args[j]? = some v → Value.okWide Try.prog W .any base t v := hval0
  have hW' := hW
  obtain ⟨p, q, hA0, hV, rfl, hfz, hnd⟩ := hW
  have hA : DataW.TrodAll enc Try.prog W 0 (fun _ => true) true Try.f3.params.toList args.toList ds p := hA0
  rw [Try.params3] at hA hval
  obtain ⟨v0, vs0, d0, ds0, p0, q0, hargs, rfl, rfl, h0, r0⟩ := trodAll_cons hA
  obtain ⟨v1, vs1, d1, ds1, p1, q1, hargs1, rfl, rfl, h1, r1⟩ := trodAll_cons r0
  obtain ⟨rfl, rfl, rfl⟩ := trodAll_nil r1
  obtain rfl : args = #[v0, v1] := by cases args; simp_all
  obtain ⟨rfl, rfl⟩ := trodVars_none hV
  obtain ⟨a0, rfl, rfl, rfl, w0⟩ := open_string Try.underlying9 (hval 0 9 v0 rfl rfl) h0
  obtain ⟨x, rfl, rfl, rfl, wx⟩ := open_int Try.underlying2 (hval 1 2 v1 rfl rfl) h1
  clear hA0 hval0
  simp only [List.append_nil] at hW'
  obtain ⟨m, hm⟩ := Try.laysM219.s1_3 W hsh
  refine (walk a0 x m W w0 hm).mono fun e W' ⟨he, bel⟩ => ?_
  subst he
  exact ⟨_, rfl, _, _, _, [], _, [], hW', trodAll_mk1 (shut_bool Try.underlying4 _), (trodAll_cons_mk (shut_string Try.underlying9 w0) (trodAll_cons_mk (shut_int Try.underlying2 wx) trodAll_mk0)), rfl, bel.frame _, fun h => by cases h⟩

theorem over : Rows.fnExactCanonBodyRow.holds Try.pinned (OpenSpec.ofChange Rows.fnExactCanonBodySpec) :=
  OpenClaim.holds_of_wide 3 Try.f3 rfl rfl rfl rfl rfl rfl rfl ⟨rfl, rfl, rfl, rfl, rfl⟩ rfl rfl rfl rfl rfl (by kernel_rfl) Try.func3 (by kernel_rfl)
    (of_decide_eq_true (by kernel_rfl)) (by unfold Func.isWrapper; first | (rw [if_pos (by decide +kernel)]; kernel_rfl) | (rw [if_neg (by decide +kernel)]; exact ⟨rfl, rfl⟩))
    (fun os started H enc _ => lifted os started H enc)
theorem proved : Rows.FnExactCanonBodySaid :=
  over
end fnExactCanonBody
theorem canonBody_holds : Rows.FnExactCanonBodySaid := fnExactCanonBody.proved
#print axioms canonBody_holds
end Go.Proofs.Ytifnndegpeggpaa
