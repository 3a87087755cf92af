
/- FnExactSign: its row, its tied card. -/
import Derived.Test.YtgabjiamabbheaaGreatDoorRows
import Derived.Test.YtgabjiamabbheaaGreatDoorSgLaw
import Derived.WalkKit
import Derived.ProofKit
import Derived.OpenShut
import Derived.ShutString
import Derived.ChangeOld
import Derived.Below
import Derived.Carry
import Derived.Lib.SmallJoins
import Derived.Handed
import Derived.Lay
import Derived.LaidMore
import Derived.Lib.LaidTab
import Derived.Test.YtgabjiamabbheaaGreatDoorTie
import Derived.Test.YtgabjiamabbheaaGreatDoorCards
import Derived.SevenTiedAt
namespace Go.Proofs.YtgabjiamabbheaaGreatDoor
open Go.ChangeMaps (open_string shut_string)
open Go Go.ChangeShapes Go.WideShapes Go.ChangeAt Go.WideMaps Go.WideElems Go.RowKit Go.Lib
namespace fnExactSign
set_option maxRecDepth 20000 in
theorem ownD : ownKnob Tryz.prog.godebug = none := by kernel_rfl
set_option maxRecDepth 20000 in
theorem laidOut : laidOutB Tryz.prog = true := by kernel_rfl
set_option maxRecDepth 20000 in
theorem tP : (Tryz.prog.globals[1]?).map (·.type) = some 148 := by kernel_rfl
def laidD : List (String × DataW Unit) := [("math/bits.deBruijn32tab", Rows.laid_math_bits_deBruijn32tab), ("math/bits.deBruijn64tab", Rows.laid_math_bits_deBruijn64tab), ("internal/strconv.uint64pow10", Rows.laid_internal_strconv_uint64pow10), ("unicode/utf8.acceptRanges", Rows.laid_unicode_utf8_acceptRanges), ("unicode/utf8.first", Rows.laid_unicode_utf8_first)]
set_option maxRecDepth 20000 in
theorem laidD_gives {W : World} (h : laidMetH Tryz.prog laidD W) : PTab W := by
  rw [MakeChecks.laidMetH_plain _ _ _ (by kernel_rfl)] at h
  obtain ⟨_, ⟨_, _, _, _, _, _, _, _, _, _, ⟨_, _, _, _, _, _, _, _, _, _, ⟨g2, t2, cs2, f2, p2, q2, hg2, ht2, hv2, hd2, _, _⟩, _⟩, _⟩, _, _⟩ := h
  obtain rfl := Option.some.inj (pGlob.symm.trans hg2)
  obtain rfl := Option.some.inj (tP.symm.trans ht2)
  have e2 := cells_of_tab (k := .u64) (zs := pow10Tab) Tryz.underlying148 Tryz.underlying133 (by kernel_rfl) (by kernel_rfl) hd2
  unfold PTab Lib.TabIs
  rw [hv2, ← e2]
set_option maxRecDepth 100000 in
theorem lifted (os : Os) (started : os.Started) (H : Type) (enc : TypeId × Value → H) :
    ReturnsInHanded {} Tryz.checked os 3 .any (fun w args => (Rows.fnExactSignSpec.pre enc Tryz.prog Tryz.f3 [] false w args ∧ laidMetH Tryz.prog laidD w) ∧ sizedMet enc Tryz.prog Tryz.f3 (OpenSpec.ofChange Rows.fnExactSignSpec) false w args)
      (Rows.fnExactSignSpec.post enc Tryz.prog Tryz.f3 false true false false) := by
  refine returnsInHanded_of_calls (C := Tryz.checked) ownD started (by kernel_rfl)
    (ChangeSpec.witness_shaped (enc := enc) (C := Tryz.checked) (os := os) (X := fun w _ => laidMetH Tryz.prog laidD w) false (World.laidAll Tryz.prog os laidD) #[.string ByteArray.empty, .agg #[.string ByteArray.empty, .string ByteArray.empty, .int .i64 0, .int .i64 0, .slice none 0 0, .int .i64 0, .int .i64 0]] 8 (World.laidAll_os _ _ _)
      (World.shaped_of_ZipB (by kernel_rfl) (by kernel_rfl)) (by kernel_rfl) (by kernel_rfl) (by kernel_rfl)
      (by rw [MakeChecks.laidMetH_plain _ _ _ (by kernel_rfl)]; exact laidMet_laidAll _ (by kernel_rfl) (by kernel_rfl))) ?_
  intro w tape inp _ hsh _ hok hpre _
  obtain ⟨_, _, _, fn', hfn', _, _, _, _, hval0⟩ := hok
  obtain rfl : fn' = Tryz.f3 := Option.some.inj (hfn'.symm.trans Tryz.func3)
  obtain ⟨⟨⟨ds, gs, before, hw, -⟩, hLd⟩, -⟩ := hpre
  have hLd' : laidMetH Tryz.prog laidD (w.forCall tape inp) := laidMetH.of_heap (by rfl) hLd
  have hW := DataW.Whole.of_heap (w' := w.forCall tape inp) (by rfl) hw
  obtain ⟨m, hm⟩ := Tryz.laysM219.s1_3 _ hsh
  generalize w.forCall tape inp = W at hsh hval0 hW hm hLd' ⊢
  generalize inp.args = args at hval0 hW ⊢
  have hval : ∀ (j : Nat) t v, Tryz.f3.params[j]? = some t → args[j]? = some v → Value.okWide Tryz.prog W .any w.heap.size t v := hval0
  have hW' := hW
  obtain ⟨p, q, hA0, hV, rfl, hfz, hnd⟩ := hW
  have hA : DataW.TrodAll enc Tryz.prog W 0 (fun _ => true) true Tryz.f3.params.toList args.toList ds p := hA0
  rw [Tryz.params3] at hA hval
  obtain ⟨vm, vs0, dm, ds0, pm, q0, hargs, rfl, rfl, hm0, r0⟩ := trodAll_cons hA
  obtain ⟨v0, vs1, d0, ds1, p0, q1, rfl, rfl, rfl, h0, r1⟩ := trodAll_cons r0
  obtain ⟨rfl, rfl, rfl⟩ := trodAll_nil r1
  obtain rfl : args = #[vm, v0] := by cases args; simp_all
  obtain ⟨rfl, rfl⟩ := trodVars_none hV
  have hlt0 : ∀ x ∈ p0, x.block < W.heap.size := by obtain ⟨fuel, hx⟩ := h0; exact DataW.trod_lt fuel _ _ _ hx
  obtain ⟨cs, rfl, hcs⟩ := okWide_struct Tryz.underlying26 (hval 1 26 v0 rfl rfl)
  obtain ⟨c0, c1, c2, c3, c4, c5, c6, rfl⟩ := array7 (hcs.trans (show Tryz.prog.cellsOf 26 = 7 by kernel_rfl))
  obtain ⟨msg, rfl, rfl, rfl, wm⟩ := open_string Tryz.underlying9 (hval 0 9 vm rfl rfl) hm0
  have hPow := laidD_gives hLd'
  have h00 := h0
  obtain ⟨fuel, hf⟩ := h00
  obtain ⟨y0, y1, y2, y3, n, -, -, t0, t1, t2, t3⟩ := Go.Joins.trod_struct4 Tryz.underlying26 hf
  have k0 : Tryz.prog.cellsOf 23 = 4 := by kernel_rfl
  have k1 : Tryz.prog.cellsOf 24 = 1 := by kernel_rfl
  have k2 : Tryz.prog.cellsOf 2 = 1 := by kernel_rfl
  have k9 : Tryz.prog.cellsOf 9 = 1 := by kernel_rfl
  simp only [Value.cells, k0, k1, k2, List.drop_zero, List.drop_succ_cons, List.take_succ_cons, List.take_zero] at t0 t1 t2 t3
  obtain ⟨z0, z1, z2, z3, n2, -, -, u0, u1, u2, u3⟩ := Go.Joins.trod_struct4 Tryz.underlying23 t0
  simp only [k2, k9, List.drop_zero, List.drop_succ_cons, List.take_succ_cons, List.take_zero] at u0 u1 u2 u3
  obtain ⟨d, e0, -, wd⟩ := DataW.trod_string Tryz.underlying9 u0
  obtain ⟨s, e1, -, ws⟩ := DataW.trod_string Tryz.underlying9 u1
  obtain ⟨A, e2, -, -⟩ := DataW.trod_int Tryz.underlying2 u2
  obtain ⟨B, e3, -, -⟩ := DataW.trod_int Tryz.underlying2 u3
  obtain ⟨hh, e5, -, -⟩ := DataW.trod_int Tryz.underlying2 t2
  obtain ⟨hb, e6, -, -⟩ := DataW.trod_int Tryz.underlying2 t3
  obtain ⟨o, F, cap, rfl, hTx, hlen, hsz⟩ := open_texts (e := 9) Tryz.underlying24 Tryz.underlying9 k9 t1
  simp only [List.cons.injEq, and_true] at e0 e1 e2 e3 e5 e6
  subst e0 e1 e2 e3 e5 e6
  clear hA0 hval0
  simp only [List.append_nil] at hW'
  refine (walkSign msg d s A B hh hb m o F cap W wm wd ws hTx hlen hsz hm hPow).mono fun e W' ⟨he, bel⟩ => ?_
  subst he
  exact ChangeSpec.post_blind ⟨_, _, _, [], _, [], hW', trodAll_mk1 (shut_bool Tryz.underlying4 _), (trodAll_cons_mk (shut_string Tryz.underlying9 wm) (trodAll_cons_mk (Below.trod laidOut (by kernel_rfl) (of_decide_eq_true (by kernel_rfl)) h0 bel hlt0) trodAll_mk0)), rfl, bel.frame _, fun h => by cases h⟩

set_option maxRecDepth 20000 in
theorem row : Rows.FnExactSignSaid :=
  OpenClaim.holds_of_wide 3 Tryz.f3 rfl rfl rfl rfl rfl rfl rfl ⟨rfl, rfl, rfl, rfl, rfl⟩ rfl rfl rfl rfl rfl (by kernel_rfl) Tryz.func3 (by kernel_rfl)
    (of_decide_eq_true (by kernel_rfl)) (by unfold Func.isWrapper; first | (rw [if_pos (by decide +kernel)]; kernel_rfl) | (rw [if_neg (by decide +kernel)]; exact ⟨rfl, rfl⟩))
    (fun os started H enc _ => lifted os started H enc)
set_option maxRecDepth 20000 in
theorem holds : Rows.FnExactSignCardSaid :=
  Claim7.holds_tied_plain_at .later [] [.data, .data, .data, .data, .pinned] true (true, "d6bfbc4d739c9d53f138a22cf9d67b47e59de79981e02d69856947cac27804e6") true
    row (fun _ h => by cases h) (by kernel_rfl) (fun _ h => by cases h) fnExactSign_row_tie rfl ⟨rfl, rfl⟩ (by kernel_rfl) rfl
    (fun f fn hf hfn => by
      obtain rfl : f = 3 := Option.some.inj ((show Tryz.prog.funcNamed "loop.example/g00013/laws.FnExactSign" = some 3 by kernel_rfl).symm.trans hf) |>.symm
      obtain rfl : fn = Tryz.f3 := (Option.some.inj (Tryz.func3.symm.trans hfn)).symm
      exact ⟨by kernel_rfl, fun j t ht => by
        rw [Tryz.params3] at ht
        have hm : t ∈ [9, 26] := by simpa using Array.mem_of_getElem? ht
        have hall : ([9, 26].all fun u => !Tryz.prog.wantsStandIn u) = true := by kernel_rfl
        exact (show Tryz.prog.wantsStandIn t = false by simpa using List.all_eq_true.1 hall t hm)⟩)
    (by kernel_rfl)
end fnExactSign
set_option maxRecDepth 20000 in
theorem sign_holds : Rows.FnExactSignCardSaid := fnExactSign.holds
#print axioms sign_holds
end Go.Proofs.YtgabjiamabbheaaGreatDoor
