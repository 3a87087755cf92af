
/- The walk of the law on SubjectOf. -/

/- FnExactSubjectOf: its row, its tied card. -/
import Derived.Test.YtajkahpkbeobaaaGreatDoorRunsSpec
import Derived.Test.YtajkahpkbeobaaaGreatDoorSubjSpec
import Derived.Test.YtajkahpkbeobaaaGreatDoorRows
import Derived.Test.YtajkahpkbeobaaaGreatDoorTie
import Derived.Test.YtajkahpkbeobaaaGreatDoorCards
import Derived.WalkKit
import Derived.ProofKit
import Derived.OpenShut
import Derived.ShutString
import Derived.ChangeOld
import Derived.Below
import Derived.Handed
import Derived.Lay
import Derived.LaidMore
import Derived.LaidSub
import Derived.LaidLaws
import Derived.Stop.Joined
import Derived.SevenTiedAt
import Derived.Lib.LaidU8T
import Derived.Carry
namespace Go.Proofs.YtajkahpkbeobaaaGreatDoor
open Go.RowKit Go.Lib Go.Maps
set_option maxRecDepth 40000 in
set_option maxHeartbeats 4000000 in
theorem walkSubjectOf (s : ByteArray) (w : World) (hs : s.size ≤ maxLen) (hW : RwW w) :
    Calls Tryz.prog 3 #[.string s] w fun e w' => e = .returned (.bool true) ∧ Below w.heap.size w w' := by
  unfold maxLen at hs
  by_cases hbig : 1048576 < s.size
  · clear hW
    go_enter Tryz.func3, Tryz.ntmps3
    go_wp2
    go_ret
    exact ⟨rfl, Below.refl _ _⟩
  · have hsp := mkHid (specSubjectOf s w (by omega))
    have him := mkHid (fun W (hb : Below w.heap.size w W) => implSubjectOf s W (by omega) (hW.below hb))
    generalize Sj.subj s = T at *
    clear hW
    have hq : (T.toList == T.toList) = true := by simp
    go_enter Tryz.func3, Tryz.ntmps3
    go_wp2_with fail
    refine hsp.out.mono ?_
    rintro e w1 ⟨rfl, hb1⟩
    have Hb1 := mkHid hb1
    clear hsp hb1
    go_wp2_with fail
    refine (him.out w1 Hb1.out).mono ?_
    rintro e w2 ⟨rfl, hb2⟩
    have Hb2 := mkHid (Hb1.out.trans (hb2.mono Hb1.out.size))
    clear hb2 him
    go_wp2
    go_ret
    exact ⟨rfl, Hb2.out⟩
end Go.Proofs.YtajkahpkbeobaaaGreatDoor
namespace Go.Proofs.YtajkahpkbeobaaaGreatDoor
open Go Go.ChangeShapes Go.WideShapes Go.ChangeAt Go.WideMaps Go.WideElems Go.RowKit Go.Lib
open Go.ChangeMaps (open_string shut_string)
set_option maxRecDepth 20000 in
theorem laidOut : laidOutB Tryz.prog = true := by kernel_rfl
set_option maxRecDepth 20000 in
theorem own : ownKnob Tryz.prog.godebug = none := by kernel_rfl
def laidR : List (String × DataW Unit) := [("math/bits.deBruijn32tab", Rows.laid_math_bits_deBruijn32tab), ("math/bits.deBruijn64tab", Rows.laid_math_bits_deBruijn64tab), ("internal/strconv.uint64pow10", Rows.laid_internal_strconv_uint64pow10), ("unicode/utf8.acceptRanges", Rows.laid_unicode_utf8_acceptRanges), ("strconv.ErrRange", Rows.laid_strconv_ErrRange), ("strconv.ErrSyntax", Rows.laid_strconv_ErrSyntax), ("loop.example/g00013/impl.charsetNames", Rows.laid_loop_example_g00013_impl_charsetNames), ("unicode/utf8.first", Rows.laid_unicode_utf8_first)]
set_option maxRecDepth 20000 in
theorem gY : Tryz.prog.globalNamed "strconv.ErrSyntax" = some 4 := by kernel_rfl
set_option maxRecDepth 20000 in
theorem tY : (Tryz.prog.globals[4]?).map (·.type) = some 77 := by kernel_rfl
set_option maxRecDepth 20000 in
theorem first_is : Rows.laid_unicode_utf8_first = Lib.firstData := by kernel_rfl
set_option maxRecDepth 20000 in
theorem accept_is : (Rows.laid_unicode_utf8_acceptRanges : DataW Unit) = Lib.acceptData := by kernel_rfl
set_option maxRecDepth 20000 in
theorem laidR_gives {W : World} (h : laidMetH Tryz.prog laidR W) (m : Int) (hm : W.cell? ⟨1, 0, none⟩ = some (.int .i64 m)) : RwW W := by
  refine ⟨?_, ?_, ⟨m, hm⟩, ?_⟩
  · have h1 := h.filter (fun x => x.1 == "unicode/utf8.acceptRanges" || x.1 == "unicode/utf8.first")
    rw [show (laidR.filter fun x => x.1 == "unicode/utf8.acceptRanges" || x.1 == "unicode/utf8.first") = [("unicode/utf8.acceptRanges", Rows.laid_unicode_utf8_acceptRanges), ("unicode/utf8.first", Rows.laid_unicode_utf8_first)] from by simp [laidR]] at h1
    rw [MakeChecks.laidMetH_plain _ _ _ (by kernel_rfl)] at h1
    exact utf8Tabs_of_readsT (U8Types.of260 Tryz.lays260) ⟨by kernel_rfl, by kernel_rfl, by kernel_rfl, by kernel_rfl, by kernel_rfl, by kernel_rfl, by kernel_rfl⟩
      (first_is ▸ Lib.laidMet.reads h1 (.tail _ (.head _))) (accept_is ▸ Lib.laidMet.reads h1 (.head _))
  · have h1 := h.filter (fun x => x.1 == "strconv.ErrSyntax")
    rw [show (laidR.filter fun x => x.1 == "strconv.ErrSyntax") = [("strconv.ErrSyntax", Rows.laid_strconv_ErrSyntax)] from by simp [laidR]] at h1
    rw [MakeChecks.laidMetH_plain _ _ _ (by kernel_rfl)] at h1
    obtain ⟨ps, ⟨g0, t0, cs0, f0, p0, q0, hg0, ht0, hv0, hd0, hq, e0⟩, hnd, hrows⟩ := h1
    obtain rfl := Option.some.inj (gY.symm.trans hg0)
    obtain rfl := Option.some.inj (tY.symm.trans ht0)
    obtain ⟨f1, u, v, hcs, -, -⟩ := iface_of_trod Tryz.underlying77 hd0
    have hc := World.var?_cell hg0 hv0 0
    have hc2 : cs0[0]? = some (.iface u v) := by rw [← Array.getElem?_toList, hcs]; rfl
    rw [hc2] at hc
    exact ⟨World.block_lt_of_cell? _ _ hc, _, hc, .inr ⟨u, v, rfl⟩⟩
  · have h1 := h.filter (fun x => x.1 == "loop.example/g00013/impl.charsetNames")
    rw [show (laidR.filter fun x => x.1 == "loop.example/g00013/impl.charsetNames") = [("loop.example/g00013/impl.charsetNames", Rows.laid_loop_example_g00013_impl_charsetNames)] from by simp [laidR]] at h1
    exact names_of_laid h1
set_option maxRecDepth 20000 in
theorem varN_on {H : Type} {enc : TypeId × Value → H} {W W' : World} {gs : List (DataW H)} {q : List MemPlace} (hV : DataW.TrodVars enc Tryz.prog W (fun _ => true) ["loop.example/g00013/impl.charsetNames"] gs q) (bel : Below W.heap.size W W') :
    ∃ d, gs = [d] ∧ DataW.TrodVars enc Tryz.prog W' (fun b => decide (b < W.heap.size)) ["loop.example/g00013/impl.charsetNames"] [d] q := by
  obtain ⟨g, t, cs, fuel, d, p, rfl, h1, h2, h3, h4, rfl⟩ := trodVars_one hV
  obtain rfl := Option.some.inj (gNames.symm.trans h1)
  obtain rfl := Option.some.inj (tNames.symm.trans h2)
  have hz : 0 < W.heap.size := by
    obtain ⟨t, fr, hb⟩ := block_of_var h3
    exact heap_lt hb
  have hT : DataW.Trod enc Tryz.prog W 0 (fun _ => true) true 129 (.agg cs) d p := ⟨fuel, h4⟩
  have hlt : ∀ x ∈ p, x.block < W.heap.size := DataW.trod_lt fuel _ _ _ h4
  obtain ⟨fuel', h4'⟩ := Below.trod laidOut (by kernel_rfl) (of_decide_eq_true (by kernel_rfl)) hT bel hlt
  exact ⟨d, rfl, trodVars_mk1 gNames tNames (var?_below bel gNames hz h3) h4'⟩
set_option maxRecDepth 100000 in
theorem subjectLifted (os : Os) (started : os.Started) (H : Type) (enc : TypeId × Value → H) :
    ReturnsInHanded {} Tryz.checked os 3 .any (fun w args => (Rows.fnExactSubjectOfSpec.pre enc Tryz.prog Tryz.f3 [] false w args ∧ laidMetH Tryz.prog laidR w) ∧ sizedMet enc Tryz.prog Tryz.f3 (OpenSpec.ofChange Rows.fnExactSubjectOfSpec) false w args)
      (Rows.fnExactSubjectOfSpec.post enc Tryz.prog Tryz.f3 false true false false) := by
  refine returnsInHanded_of_calls (C := Tryz.checked) own started (by kernel_rfl)
    (ChangeSpec.witness_shaped (enc := enc) (C := Tryz.checked) (os := os) (X := fun w _ => laidMetH Tryz.prog laidR w) false (World.laidAll Tryz.prog os laidR) #[.string ByteArray.empty] 8 (World.laidAll_os _ _ _)
      (World.shaped_of_ZipB (by kernel_rfl) (by kernel_rfl)) (by kernel_rfl) (by kernel_rfl) (by kernel_rfl)
      (by rw [MakeChecks.laidMetH_plain _ _ _ (by kernel_rfl)]; exact laidMet_laidAll _ (by kernel_rfl) (by kernel_rfl))) ?_
  intro w tape inp _ hsh _ hok hpre _
  obtain ⟨_, _, _, fn', hfn', _, _, _, _, hval0⟩ := hok
  obtain rfl : fn' = Tryz.f3 := Option.some.inj (hfn'.symm.trans Tryz.func3)
  obtain ⟨⟨⟨ds, gs, before, hw, -⟩, hL⟩, -⟩ := hpre
  have hW := DataW.Whole.of_heap (w' := w.forCall tape inp) (by rfl) hw
  have hL' : laidMetH Tryz.prog laidR (w.forCall tape inp) := laidMetH.of_heap (by rfl) hL
  obtain ⟨m, hm⟩ := Tryz.laysM146.s1_3 _ hsh
  generalize w.forCall tape inp = W at hsh hval0 hW hm hL' ⊢
  generalize inp.args = args at hval0 hW ⊢
  have hval : ∀ (j : Nat) t v, Tryz.f3.params[j]? = some t → args[j]? = some v → Value.okWide Tryz.prog W .any w.heap.size t v := hval0
  have hW' := hW
  obtain ⟨p, q, hA0, hV, rfl, hfz, hnd⟩ := hW
  have hA : DataW.TrodAll enc Tryz.prog W 0 (fun _ => true) true Tryz.f3.params.toList args.toList ds p := hA0
  rw [Tryz.params3] at hA hval
  obtain ⟨v0, vs0, d0, ds0, p0, q0, hargs0, rfl, rfl, h0, r0⟩ := trodAll_cons hA
  obtain ⟨rfl, rfl, rfl⟩ := trodAll_nil r0
  obtain rfl : args = #[v0] := by cases args; simp_all
  have hlt0 : ∀ x ∈ p0, x.block < W.heap.size := by obtain ⟨fuel, hx⟩ := h0; exact DataW.trod_lt fuel _ _ _ hx
  have h0' := h0
  obtain ⟨a0, rfl, -, -, w0⟩ := open_string Tryz.underlying9 (hval 0 9 v0 rfl rfl) h0'
  clear hA0 hval0
  refine (walkSubjectOf a0 W w0 (laidR_gives hL' m hm)).mono fun e W' ⟨he, bel⟩ => ?_
  subst he
  obtain ⟨e0, rfl, hV'⟩ := varN_on hV bel
  exact ChangeSpec.post_blind ⟨_, _, _, [], _, q, hW', trodAll_mk1 (shut_bool Tryz.underlying4 _), (trodAll_cons_mk (Below.trod laidOut (by kernel_rfl) (of_decide_eq_true (by kernel_rfl)) h0 bel hlt0) trodAll_mk0), hV', bel.frame _, fun h => by cases h⟩

set_option maxRecDepth 20000 in
theorem subject_row : Rows.FnExactSubjectOfSaid :=
  OpenClaim.holds_of_wide 3 Tryz.f3 rfl rfl rfl rfl rfl rfl rfl ⟨rfl, rfl, rfl, rfl, rfl⟩ rfl rfl rfl rfl rfl (by kernel_rfl) Tryz.func3 (by kernel_rfl)
    (of_decide_eq_true (by kernel_rfl)) (by unfold Func.isWrapper; first | (rw [if_pos (by decide +kernel)]; kernel_rfl) | (rw [if_neg (by decide +kernel)]; exact ⟨rfl, rfl⟩))
    (fun os started H enc _ => subjectLifted os started H enc)
set_option maxRecDepth 20000 in
theorem subjectOf_holds : Rows.FnExactSubjectOfCardSaid :=
  Claim7.holds_tied_plain_at .later [] [.data, .data, .data, .data, .sentinel, .sentinel, .data, .pinned] true (true, "7c1037e8fd92ebc11c7e30de2100bf15185efbea3e4f0659734b0277a24e1248") true
    subject_row (fun _ h => by cases h) (by kernel_rfl) (fun _ h => by cases h) fnExactSubjectOf_row_tie rfl ⟨rfl, rfl⟩ (by kernel_rfl) rfl
    (fun f fn hf hfn => by
      obtain rfl : f = 3 := Option.some.inj ((show Tryz.prog.funcNamed "loop.example/g00013/laws.FnExactSubjectOf" = some 3 by kernel_rfl).symm.trans hf) |>.symm
      obtain rfl : fn = Tryz.f3 := (Option.some.inj (Tryz.func3.symm.trans hfn)).symm
      exact ⟨by kernel_rfl, fun j t ht => by
        rw [Tryz.params3] at ht
        have hm : t ∈ [9] := by simpa using Array.mem_of_getElem? ht
        have hall : ([9].all fun u => !Tryz.prog.wantsStandIn u) = true := by kernel_rfl
        exact (show Tryz.prog.wantsStandIn t = false by simpa using List.all_eq_true.1 hall t hm)⟩)
    (by kernel_rfl)
#print axioms subjectOf_holds
end Go.Proofs.YtajkahpkbeobaaaGreatDoor
