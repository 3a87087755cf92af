
/- FnChars: its row, its tied card. -/
import Derived.Test.YtbppdfjigcelkaaGreatDoorRows
import Derived.Test.YtbppdfjigcelkaaGreatDoorChLaw2
import Derived.Test.YtbppdfjigcelkaaGreatDoorCodeArg
import Derived.Test.YtbppdfjigcelkaaGreatDoorTie
import Derived.Test.YtbppdfjigcelkaaGreatDoorCards
import Derived.WalkKit
import Derived.ProofKit
import Derived.OpenShut
import Derived.ShutString
import Derived.ChangeOld
import Derived.Below
import Derived.Handed
import Derived.Lay
import Derived.LaidMore
import Derived.LaidSub
import Derived.LaidLaws
import Derived.Stop.Joined
import Derived.SevenTiedAt
import Derived.Lib.LaidU8T
import Derived.Lib.LaidTab
import Derived.Carry
namespace Go.Proofs.YtbppdfjigcelkaaGreatDoor
open Go Go.ChangeShapes Go.WideShapes Go.ChangeAt Go.WideMaps Go.WideElems Go.RowKit Go.Lib
set_option maxRecDepth 20000 in
theorem laidOut : laidOutB Tryz.prog = true := by kernel_rfl
set_option maxRecDepth 20000 in
theorem own : ownKnob Tryz.prog.godebug = none := by kernel_rfl
def laidR : List (String × DataW Unit) := [("math/bits.deBruijn32tab", Rows.laid_math_bits_deBruijn32tab), ("math/bits.deBruijn64tab", Rows.laid_math_bits_deBruijn64tab), ("internal/strconv.uint64pow10", Rows.laid_internal_strconv_uint64pow10), ("unicode/utf8.acceptRanges", Rows.laid_unicode_utf8_acceptRanges), ("strconv.ErrRange", Rows.laid_strconv_ErrRange), ("strconv.ErrSyntax", Rows.laid_strconv_ErrSyntax), ("loop.example/g00013/impl.base64Digits", Rows.laid_loop_example_g00013_impl_base64Digits), ("loop.example/g00013/impl.charsetNames", Rows.laid_loop_example_g00013_impl_charsetNames), ("unicode/utf8.first", Rows.laid_unicode_utf8_first)]
set_option maxRecDepth 20000 in
theorem gY : Tryz.prog.globalNamed "strconv.ErrSyntax" = some 5 := by kernel_rfl
set_option maxRecDepth 20000 in
theorem tY : (Tryz.prog.globals[5]?).map (·.type) = some 133 := by kernel_rfl
set_option maxRecDepth 20000 in
theorem gDig : Tryz.prog.globalNamed "loop.example/g00013/impl.base64Digits" = some 1 := by kernel_rfl
set_option maxRecDepth 20000 in
theorem tDig : (Tryz.prog.globals[1]?).map (·.type) = some 105 := by kernel_rfl
set_option maxRecDepth 20000 in
theorem first_is : Rows.laid_unicode_utf8_first = Lib.firstData := by kernel_rfl
set_option maxRecDepth 20000 in
theorem accept_is : (Rows.laid_unicode_utf8_acceptRanges : DataW Unit) = Lib.acceptData := by kernel_rfl
set_option maxRecDepth 20000 in
theorem lt_of_varC {w : World} {n : String} {g : Nat} {cs : Array Value} (hg : Tryz.prog.globalNamed n = some g) (h : w.var? Tryz.prog n = some cs) : g < w.heap.size := by
  unfold World.var? at h
  rw [hg] at h
  simp only [Option.bind_some] at h
  by_cases hz : g < w.heap.size
  · exact hz
  · rw [Array.getElem?_eq_none (by omega)] at h; cases h
def digs : List Int := [65, 66, 67, 68, 69, 70, 71, 72, 73, 74, 75, 76, 77, 78, 79, 80, 81, 82, 83, 84, 85, 86, 87, 88, 89, 90, 97, 98, 99, 100, 101, 102, 103, 104, 105, 106, 107, 108, 109, 110, 111, 112, 113, 114, 115, 116, 117, 118, 119, 120, 121, 122, 48, 49, 50, 51, 52, 53, 54, 55, 56, 57, 43, 47]
set_option maxRecDepth 20000 in
theorem digs_d64 : ∀ j, j < 64 → (digs.map fun z => Value.int .u8 z)[j]? = some (.int .u8 ((Pb.d64 j).toNat : Int)) := by
  intro j hj
  have h : ∀ j : Fin 64, digs[j.val]? = some ((Pb.d64 j.val).toNat : Int) := by decide
  rw [List.getElem?_map, h ⟨j, hj⟩]
  rfl
set_option maxRecDepth 20000 in
theorem tab_of_var {w : World} {cs : Array Value} (h : w.var? Tryz.prog "loop.example/g00013/impl.base64Digits" = some cs) (hcs : cs.toList = digs.map fun z => Value.int .u8 z) : Tab w := by
  intro j hj
  rw [World.var?_cell gDig h j]
  rw [← Array.getElem?_toList, hcs]
  exact digs_d64 j hj
set_option maxRecDepth 20000 in
theorem tab_of_laidC {W : World} (h : laidMetH Tryz.prog [("loop.example/g00013/impl.base64Digits", Rows.laid_loop_example_g00013_impl_base64Digits)] W) : Tab W := by
  rw [MakeChecks.laidMetH_plain _ _ _ (by kernel_rfl)] at h
  obtain ⟨ps, ⟨g0, t0, cs0, f0, p0, q0, hg0, ht0, hv0, hd0, _, _⟩, _, _⟩ := h
  obtain rfl := Option.some.inj (gDig.symm.trans hg0)
  obtain rfl := Option.some.inj (tDig.symm.trans ht0)
  have hcs := cells_of_tab (zs := digs) Tryz.underlying105 Tryz.underlying5 (by kernel_rfl) (by kernel_rfl) hd0
  exact tab_of_var hv0 hcs
set_option maxRecDepth 20000 in
theorem laidR_gives {W : World} (h : laidMetH Tryz.prog laidR W) (m : Int) (hm : W.cell? ⟨2, 0, none⟩ = some (.int .i64 m)) : ChW W := by
  refine ⟨?_, ?_, ⟨m, hm⟩, ?_, ?_⟩
  · have h1 := h.filter (fun x => x.1 == "unicode/utf8.acceptRanges" || x.1 == "unicode/utf8.first")
    rw [show (laidR.filter fun x => x.1 == "unicode/utf8.acceptRanges" || x.1 == "unicode/utf8.first") = [("unicode/utf8.acceptRanges", Rows.laid_unicode_utf8_acceptRanges), ("unicode/utf8.first", Rows.laid_unicode_utf8_first)] from by simp [laidR]] at h1
    rw [MakeChecks.laidMetH_plain _ _ _ (by kernel_rfl)] at h1
    exact utf8Tabs_of_readsT (U8Types.of260 Tryz.lays260) ⟨by kernel_rfl, by kernel_rfl, by kernel_rfl, by kernel_rfl, by kernel_rfl, by kernel_rfl, by kernel_rfl⟩
      (first_is ▸ Lib.laidMet.reads h1 (.tail _ (.head _))) (accept_is ▸ Lib.laidMet.reads h1 (.head _))
  · have h1 := h.filter (fun x => x.1 == "strconv.ErrSyntax")
    rw [show (laidR.filter fun x => x.1 == "strconv.ErrSyntax") = [("strconv.ErrSyntax", Rows.laid_strconv_ErrSyntax)] from by simp [laidR]] at h1
    rw [MakeChecks.laidMetH_plain _ _ _ (by kernel_rfl)] at h1
    obtain ⟨ps, ⟨g0, t0, cs0, f0, p0, q0, hg0, ht0, hv0, hd0, hq, e0⟩, hnd, hrows⟩ := h1
    obtain rfl := Option.some.inj (gY.symm.trans hg0)
    obtain rfl := Option.some.inj (tY.symm.trans ht0)
    obtain ⟨f1, u, v, hcs, -, -⟩ := iface_of_trod Tryz.underlying133 hd0
    have hc := World.var?_cell hg0 hv0 0
    have hc2 : cs0[0]? = some (.iface u v) := by rw [← Array.getElem?_toList, hcs]; rfl
    rw [hc2] at hc
    exact ⟨World.block_lt_of_cell? _ _ hc, _, hc, .inr ⟨u, v, rfl⟩⟩
  · have h1 := h.filter (fun x => x.1 == "loop.example/g00013/impl.charsetNames")
    rw [show (laidR.filter fun x => x.1 == "loop.example/g00013/impl.charsetNames") = [("loop.example/g00013/impl.charsetNames", Rows.laid_loop_example_g00013_impl_charsetNames)] from by simp [laidR]] at h1
    exact names_of_laid h1
  · have h1 := h.filter (fun x => x.1 == "loop.example/g00013/impl.base64Digits")
    rw [show (laidR.filter fun x => x.1 == "loop.example/g00013/impl.base64Digits") = [("loop.example/g00013/impl.base64Digits", Rows.laid_loop_example_g00013_impl_base64Digits)] from by simp [laidR]] at h1
    exact (tab_of_laidC h1)
set_option maxRecDepth 20000 in
theorem varDN_on {H : Type} {enc : TypeId × Value → H} {W W' : World} {gs : List (DataW H)} {q : List MemPlace} (hV : DataW.TrodVars enc Tryz.prog W (fun _ => true) ["loop.example/g00013/impl.base64Digits", "loop.example/g00013/impl.charsetNames"] gs q) (bel : Below W.heap.size W W') :
    ∃ d0 d1, gs = [d0, d1] ∧ DataW.TrodVars enc Tryz.prog W' (fun b => decide (b < W.heap.size)) ["loop.example/g00013/impl.base64Digits", "loop.example/g00013/impl.charsetNames"] [d0, d1] q := by
  obtain ⟨g0, t0, cs0, f0, d0, p0, g1, t1, cs1, f1, d1, p1, rfl, a1, a2, a3, a4, b1, b2, b3, b4, rfl⟩ := trodVars_two hV
  obtain rfl := Option.some.inj (gDig.symm.trans a1)
  obtain rfl := Option.some.inj (tDig.symm.trans a2)
  obtain rfl := Option.some.inj (gNames.symm.trans b1)
  obtain rfl := Option.some.inj (tNames.symm.trans b2)
  have hT0 : DataW.Trod enc Tryz.prog W 0 (fun _ => true) true 105 (.agg cs0) d0 p0 := ⟨f0, a4⟩
  have hT1 : DataW.Trod enc Tryz.prog W 0 (fun _ => true) true 104 (.agg cs1) d1 p1 := ⟨f1, b4⟩
  obtain ⟨f0', a4'⟩ := Below.trod laidOut (by kernel_rfl) (of_decide_eq_true (by kernel_rfl)) hT0 bel (DataW.trod_lt f0 _ _ _ a4)
  obtain ⟨f1', b4'⟩ := Below.trod laidOut (by kernel_rfl) (of_decide_eq_true (by kernel_rfl)) hT1 bel (DataW.trod_lt f1 _ _ _ b4)
  exact ⟨d0, d1, rfl, ⟨_, _, cs0, f0', p0, _, gDig, tDig, var?_below bel gDig (lt_of_varC gDig a3) a3, a4', trodVars_mk1 gNames tNames (var?_below bel gNames (lt_of_varC gNames b3) b3) b4', rfl⟩⟩
set_option maxRecDepth 100000 in
theorem charsLifted (os : Os) (started : os.Started) (H : Type) (enc : TypeId × Value → H) :
    ReturnsInHanded {} Tryz.checked os 3 .any (fun w args => (Rows.fnCharsSpec.pre enc Tryz.prog Tryz.f3 [] false w args ∧ laidMetH Tryz.prog laidR w) ∧ sizedMet enc Tryz.prog Tryz.f3 (OpenSpec.ofChange Rows.fnCharsSpec) false w args)
      (Rows.fnCharsSpec.post enc Tryz.prog Tryz.f3 false true false false) := by
  refine returnsInHanded_of_calls (C := Tryz.checked) own started (by kernel_rfl)
    (ChangeSpec.witness_shaped (enc := enc) (C := Tryz.checked) (os := os) (X := fun w _ => laidMetH Tryz.prog laidR w) false (World.laidAll Tryz.prog os laidR) #[.slice none 0 0] 8 (World.laidAll_os _ _ _)
      (World.shaped_of_ZipB (by kernel_rfl) (by kernel_rfl)) (by kernel_rfl) (by kernel_rfl) (by kernel_rfl)
      (by rw [MakeChecks.laidMetH_plain _ _ _ (by kernel_rfl)]; exact laidMet_laidAll _ (by kernel_rfl) (by kernel_rfl))) ?_
  intro w tape inp _ hsh _ hok hpre _
  obtain ⟨_, _, _, fn', hfn', _, _, _, _, hval0⟩ := hok
  obtain rfl : fn' = Tryz.f3 := Option.some.inj (hfn'.symm.trans Tryz.func3)
  obtain ⟨⟨⟨ds, gs, before, hw, -⟩, hL⟩, -⟩ := hpre
  have hW := DataW.Whole.of_heap (w' := w.forCall tape inp) (by rfl) hw
  have hL' : laidMetH Tryz.prog laidR (w.forCall tape inp) := laidMetH.of_heap (by rfl) hL
  obtain ⟨m, hm⟩ := Tryz.laysM146.s1_3 _ hsh
  generalize w.forCall tape inp = W at hsh hval0 hW hm hL' ⊢
  generalize inp.args = args at hval0 hW ⊢
  have hval : ∀ (j : Nat) t v, Tryz.f3.params[j]? = some t → args[j]? = some v → Value.okWide Tryz.prog W .any w.heap.size t v := hval0
  have hW' := hW
  obtain ⟨p, q, hA0, hV, rfl, hfz, hnd⟩ := hW
  have hA : DataW.TrodAll enc Tryz.prog W 0 (fun _ => true) true Tryz.f3.params.toList args.toList ds p := hA0
  rw [Tryz.params3] at hA hval
  obtain ⟨v0, vs0, d0, ds0, p0, q0, hargs0, rfl, rfl, h0, r0⟩ := trodAll_cons hA
  obtain ⟨rfl, rfl, rfl⟩ := trodAll_nil r0
  obtain rfl : args = #[v0] := by cases args; simp_all
  have hlt0 : ∀ x ∈ p0, x.block < W.heap.size := by obtain ⟨fuel, hx⟩ := h0; exact DataW.trod_lt fuel _ _ _ hx
  obtain ⟨o1, c1, cap1, rfl, hC1, hl1⟩ := open_code Tryz.underlying22 Tryz.underlying5 (by kernel_rfl) (hval 0 22 v0 rfl rfl) h0
  clear hA0 hval0
  refine (walkChars o1 c1 cap1 W hC1 hl1 (laidR_gives hL' m hm)).mono fun e W' ⟨he, bel⟩ => ?_
  subst he
  obtain ⟨e0, e1, rfl, hV'⟩ := varDN_on hV bel
  exact ChangeSpec.post_blind ⟨_, _, _, [], _, q, hW', trodAll_mk1 (shut_bool Tryz.underlying4 _), (trodAll_cons_mk (Below.trod laidOut (by kernel_rfl) (of_decide_eq_true (by kernel_rfl)) h0 bel hlt0) trodAll_mk0), hV', bel.frame _, fun h => by cases h⟩

set_option maxRecDepth 20000 in
theorem chars_row : Rows.FnCharsSaid :=
  OpenClaim.holds_of_wide 3 Tryz.f3 rfl rfl rfl rfl rfl rfl rfl ⟨rfl, rfl, rfl, rfl, rfl⟩ rfl rfl rfl rfl rfl (by kernel_rfl) Tryz.func3 (by kernel_rfl)
    (of_decide_eq_true (by kernel_rfl)) (by unfold Func.isWrapper; first | (rw [if_pos (by decide +kernel)]; kernel_rfl) | (rw [if_neg (by decide +kernel)]; exact ⟨rfl, rfl⟩))
    (fun os started H enc _ => charsLifted os started H enc)
set_option maxRecDepth 20000 in
theorem chars_holds : Rows.FnCharsCardSaid :=
  Claim7.holds_tied_plain_at .later [] [.data, .data, .data, .data, .sentinel, .sentinel, .data, .data, .pinned] true (true, "ea5c5672eba40f24b042b5ec87f1bd0ae915f043d4c0e2b0bbe6a71bee945f86") true
    chars_row (fun _ h => by cases h) (by kernel_rfl) (fun _ h => by cases h) fnChars_row_tie rfl ⟨rfl, rfl⟩ (by kernel_rfl) rfl
    (fun f fn hf hfn => by
      obtain rfl : f = 3 := Option.some.inj ((show Tryz.prog.funcNamed "loop.example/g00013/laws.FnChars" = some 3 by kernel_rfl).symm.trans hf) |>.symm
      obtain rfl : fn = Tryz.f3 := (Option.some.inj (Tryz.func3.symm.trans hfn)).symm
      exact ⟨by kernel_rfl, fun j t ht => by
        rw [Tryz.params3] at ht
        have hm : t ∈ [22] := by simpa using Array.mem_of_getElem? ht
        have hall : ([22].all fun u => !Tryz.prog.wantsStandIn u) = true := by kernel_rfl
        exact (show Tryz.prog.wantsStandIn t = false by simpa using List.all_eq_true.1 hall t hm)⟩)
    (by kernel_rfl)
#print axioms chars_holds
end Go.Proofs.YtbppdfjigcelkaaGreatDoor
