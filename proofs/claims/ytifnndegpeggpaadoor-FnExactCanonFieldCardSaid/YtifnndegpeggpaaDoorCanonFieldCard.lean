/- FnExactCanonField: its row, its tied card. -/
import Derived.Test.YtifnndegpeggpaaDoorRows
import Derived.Test.YtifnndegpeggpaaDoorCanonFieldSpec
import Derived.Test.YtifnndegpeggpaaDoorCanonFImpl
import Derived.WalkKit
import Derived.ProofKit
import Derived.OpenShut
import Derived.ShutString
import Derived.ChangeOld
import Derived.Below
import Derived.Carry
import Derived.Lib.SmallJoins
import Derived.Handed
import Derived.Lay
import Derived.Test.YtifnndegpeggpaaDoorTie
import Derived.Test.YtifnndegpeggpaaDoorCards
import Derived.SevenTiedAt
namespace Go.Proofs.YtifnndegpeggpaaDoor
open Go.ChangeMaps (open_string shut_string)
open Go Go.ChangeShapes Go.WideShapes Go.ChangeAt Go.WideMaps Go.WideElems Go.RowKit Go.Lib
namespace fnExactCanonField
theorem ownD : ownKnob Tryd.prog.godebug = none := by kernel_rfl
theorem laidOut : laidOutB Tryd.prog = true := by kernel_rfl
set_option maxHeartbeats 1000000 in
theorem walk (n v : ByteArray) (x : Int) (w : World) (hn : n.size ≤ maxLen) (hv : v.size ≤ maxLen) :
    Calls Tryd.prog 3 #[.agg #[.string n, .string v], .int .i64 x] w fun e w' => e = .returned (.bool true) ∧ Below w.heap.size w w' := by
  have hZ := fun w => lawSzField n v 1048576 w hn hv (Nat.le_refl _)
  have hT := fun w => lawToField n v w
  have hA : Below w.heap.size w (w.alloc (.cells #[.string n, .string v] 23)) := (Below.refl _ _).alloc (Nat.le_refl _) _
  have hk0 : (w.alloc (.cells #[.string n, .string v] 23)).cell? ⟨w.heap.size, 0, none⟩ = some (.string n) := by simp
  have hk1 : (w.alloc (.cells #[.string n, .string v] 23)).cell? ⟨w.heap.size, 1, none⟩ = some (.string v) := by simp
  have HT := (show Hid _ from hT)
  clear hT
  go_enter Tryd.func3, Tryd.ntmps3
  go_wp2_with fail
  refine (hZ _).mono ?_
  rintro e w2 ⟨r, rfl, hr0, hb2⟩
  have Hb2 : Hid (Below w.heap.size w w2) := hA.trans (hb2.mono hA.size)
  have q0 := (hb2.cell (World.block_lt_of_cell? _ _ hk0)).trans hk0
  have q1 := (hb2.cell (World.block_lt_of_cell? _ _ hk1)).trans hk1
  clear hb2 hk0 hk1 hA hZ
  rcases hr0 with rfl | ⟨m, rfl, -, hn2, hv2⟩
  · go_wp2
    go_ret
    exact ⟨rfl, Hb2.out⟩
  · have HS := (show Hid _ from fun w => specCanonField n v x w hn2 hv2)
    have HI := (show Hid _ from fun w => implCanonField n v x w hn2 hv2)
    generalize canonF n v x = R at *
    go_wp2_with fail
    refine (HT.out _).mono ?_
    rintro e w3 ⟨rfl, hb3⟩
    go_wp2_with fail
    refine (HS.out _).mono ?_
    rintro e w4 ⟨rfl, hb4⟩
    have h24 := hb3.trans (hb4.mono hb3.size)
    have p0 := (h24.cell (World.block_lt_of_cell? _ _ q0)).trans q0
    have p1 := (h24.cell (World.block_lt_of_cell? _ _ q1)).trans q1
    have Hb4 : Hid (Below w.heap.size w w4) := Hb2.out.trans (h24.mono Hb2.out.size)
    clear q0 q1 hb3 hb4 h24 HS
    go_wp2_with fail
    refine (HT.out _).mono ?_
    rintro e w6 ⟨rfl, hb6⟩
    go_wp2_with fail
    refine (HI.out _).mono ?_
    rintro e w7 ⟨rfl, hb7⟩
    have h47 := hb6.trans (hb7.mono hb6.size)
    have Hb7 : Hid (Below w.heap.size w w7) := Hb4.out.trans (h47.mono Hb4.out.size)
    clear p0 p1 hb6 hb7 h47 HI HT
    go_wp2
    go_ret
    exact ⟨rfl, Hb7.out⟩
def laidD : List (String × DataW Unit) := [("unicode/utf8.acceptRanges", Rows.laid_unicode_utf8_acceptRanges), ("unicode/utf8.first", Rows.laid_unicode_utf8_first)]
set_option maxRecDepth 100000 in
theorem lifted (os : Os) (started : os.Started) (H : Type) (enc : TypeId × Value → H) :
    ReturnsInHanded {} Tryd.checked os 3 .any (fun w args => (Rows.fnExactCanonFieldSpec.pre enc Tryd.prog Tryd.f3 [] false w args ∧ laidMetH Tryd.prog laidD w) ∧ sizedMet enc Tryd.prog Tryd.f3 (OpenSpec.ofChange Rows.fnExactCanonFieldSpec) false w args)
      (Rows.fnExactCanonFieldSpec.post enc Tryd.prog Tryd.f3 false true false false) := by
  refine returnsInHanded_of_calls (C := Tryd.checked) ownD started (by kernel_rfl)
    (ChangeSpec.witness_shaped (enc := enc) (C := Tryd.checked) (os := os) (X := fun w _ => laidMetH Tryd.prog laidD w) false (World.laidAll Tryd.prog os laidD) #[.agg #[.string ByteArray.empty, .string ByteArray.empty], .int .i64 0] 8 (World.laidAll_os _ _ _)
      (World.shaped_of_ZipB (by kernel_rfl) (by kernel_rfl)) (by kernel_rfl) (by kernel_rfl) (by kernel_rfl)
      (by rw [MakeChecks.laidMetH_plain _ _ _ (by kernel_rfl)]; exact laidMet_laidAll _ (by kernel_rfl) (by kernel_rfl))) ?_
  intro w tape inp _ hsh _ hok hpre _
  obtain ⟨_, _, _, fn', hfn', _, _, _, _, hval0⟩ := hok
  obtain rfl : fn' = Tryd.f3 := Option.some.inj (hfn'.symm.trans Tryd.func3)
  obtain ⟨⟨⟨ds, gs, before, hw, -⟩, -⟩, -⟩ := hpre
  have hW := DataW.Whole.of_heap (w' := w.forCall tape inp) (by rfl) hw
  generalize w.forCall tape inp = W at hsh hval0 hW ⊢
  generalize inp.args = args at hval0 hW ⊢
  have hval : ∀ (j : Nat) t v, Tryd.f3.params[j]? = some t → args[j]? = some v → Value.okWide Tryd.prog W .any w.heap.size t v := hval0
  have hW' := hW
  obtain ⟨p, q, hA0, hV, rfl, hfz, hnd⟩ := hW
  have hA : DataW.TrodAll enc Tryd.prog W 0 (fun _ => true) true Tryd.f3.params.toList args.toList ds p := hA0
  rw [Tryd.params3] at hA hval
  obtain ⟨v0, vs0, d0, ds0, p0, q0, hargs, rfl, rfl, h0, r0⟩ := trodAll_cons hA
  obtain ⟨v1, vs1, d1, ds1, p1, q1, hargs1, rfl, rfl, h1, r1⟩ := trodAll_cons r0
  obtain ⟨rfl, rfl, rfl⟩ := trodAll_nil r1
  obtain rfl : args = #[v0, v1] := by cases args; simp_all
  obtain ⟨rfl, rfl⟩ := trodVars_none hV
  have hlt0 : ∀ x ∈ p0, x.block < W.heap.size := by obtain ⟨fuel, hx⟩ := h0; exact DataW.trod_lt fuel _ _ _ hx
  obtain ⟨c0, c1, y0, y1, k, rfl, -, -, hy0, hy1⟩ := Go.Joins.open_agg2 Tryd.underlying23 (by kernel_rfl) (by kernel_rfl) (hval 0 23 v0 rfl rfl) h0
  obtain ⟨n, e0, -, wn⟩ := DataW.trod_string (show Tryd.prog.underlying _ = some .string from Tryd.underlying9) hy0
  obtain ⟨v, e1, -, wv⟩ := DataW.trod_string (show Tryd.prog.underlying _ = some .string from Tryd.underlying9) hy1
  simp only [List.cons.injEq, and_true] at e0 e1
  subst e0 e1
  obtain ⟨x, rfl, rfl, rfl, wx⟩ := open_int Tryd.underlying2 (hval 1 2 v1 rfl rfl) h1
  clear hA0 hval0
  simp only [List.append_nil] at hW'
  refine (walk n v x W wn wv).mono fun e W' ⟨he, bel⟩ => ?_
  subst he
  exact ChangeSpec.post_blind ⟨_, _, _, [], _, [], hW', trodAll_mk1 (shut_bool Tryd.underlying4 _), (trodAll_cons_mk (Below.trod laidOut (by kernel_rfl) (of_decide_eq_true (by kernel_rfl)) h0 bel hlt0) (trodAll_cons_mk (shut_int Tryd.underlying2 wx) trodAll_mk0)), rfl, bel.frame _, fun h => by cases h⟩

theorem row : Rows.FnExactCanonFieldSaid :=
  OpenClaim.holds_of_wide 3 Tryd.f3 rfl rfl rfl rfl rfl rfl rfl ⟨rfl, rfl, rfl, rfl, rfl⟩ rfl rfl rfl rfl rfl (by kernel_rfl) Tryd.func3 (by kernel_rfl)
    (of_decide_eq_true (by kernel_rfl)) (by unfold Func.isWrapper; first | (rw [if_pos (by decide +kernel)]; kernel_rfl) | (rw [if_neg (by decide +kernel)]; exact ⟨rfl, rfl⟩))
    (fun os started H enc _ => lifted os started H enc)
theorem holds : Rows.FnExactCanonFieldCardSaid :=
  Claim7.holds_tied_plain_at .later [] [.data, .pinned] true (true, "ed36955d47d545cda5ed050de837e7148cc6b080554c0fb8201eacea8a96d507") false
    row (fun _ h => by cases h) (by kernel_rfl) (fun _ h => by cases h) fnExactCanonField_row_tie rfl ⟨rfl, rfl⟩ (by kernel_rfl) rfl
    (fun f fn hf hfn => by
      obtain rfl : f = 3 := Option.some.inj ((show Tryd.prog.funcNamed "loop.example/g00013/laws.FnExactCanonField" = some 3 by kernel_rfl).symm.trans hf) |>.symm
      obtain rfl : fn = Tryd.f3 := (Option.some.inj (Tryd.func3.symm.trans hfn)).symm
      exact ⟨by kernel_rfl, fun j t ht => by
        rw [Tryd.params3] at ht
        have hm : t ∈ [23, 2] := by simpa using Array.mem_of_getElem? ht
        have hall : ([23, 2].all fun u => !Tryd.prog.wantsStandIn u) = true := by kernel_rfl
        exact (show Tryd.prog.wantsStandIn t = false by simpa using List.all_eq_true.1 hall t hm)⟩)
    (by kernel_rfl)
end fnExactCanonField
theorem canonField_holds : Rows.FnExactCanonFieldCardSaid := fnExactCanonField.holds
#print axioms canonField_holds
end Go.Proofs.YtifnndegpeggpaaDoor
