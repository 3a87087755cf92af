
/- The walk of the law on ReadWords. -/

/- FnExactReadWords: its row, its tied card. -/
import Derived.Test.YtgfgondjpfnmiaaGreatDoorWdSpec1
import Derived.Test.YtgfgondjpfnmiaaGreatDoorWdSpecR
import Derived.Test.YtgfgondjpfnmiaaGreatDoorRows
import Derived.Test.YtgfgondjpfnmiaaGreatDoorTie
import Derived.Test.YtgfgondjpfnmiaaGreatDoorCards
import Derived.WalkKit
import Derived.ProofKit
import Derived.OpenShut
import Derived.ShutString
import Derived.ChangeOld
import Derived.Below
import Derived.Handed
import Derived.Lay
import Derived.LaidMore
import Derived.LaidSub
import Derived.LaidLaws
import Derived.Stop.Joined
import Derived.SevenTiedAt
import Derived.Lib.LaidU8T
import Derived.Carry
namespace Go.Proofs.YtgfgondjpfnmiaaGreatDoor
open Go.RowKit Go.Lib Go.Maps
set_option maxRecDepth 20000 in
theorem Pw.rd_len : ∀ (n : Nat) (b : Bool) (l : List UInt8), l.length ≤ n → (Pw.rd b l).length ≤ l.length
  | n, b, [], _ => by rw [Pw.rd_nil]; simp
  | 0, b, c :: r, h => by simp at h
  | n + 1, b, c :: r, h => by
    have hne : c :: r ≠ [] := List.cons_ne_nil _ _
    have hl := Pw.rs_len (c :: r)
    have hlt := Pw.rs_lt (c :: r) hne
    generalize c :: r = l at *
    cases hp : Pw.word (Pw.wd l) with
    | none =>
      have ih := Pw.rd_len n false (Pw.rs l) (by omega)
      rw [Pw.rd_text b l hne hp, List.length_append, List.length_append, Pw.pts_len, Pw.pts_len]
      omega
    | some ps =>
      have ih := Pw.rd_len n true (Pw.rs l) (by omega)
      have hw := Pw.word_len _ _ hp
      rw [Pw.rd_word b l ps hne hp, List.length_append, List.length_append]
      cases b
      · rw [if_neg (by decide), Pw.pts_len]
        omega
      · rw [if_pos rfl, List.length_nil]
        omega
/-- What is read: nothing of what is too long. -/
def rwOf (s : ByteArray) : List Int := if s.size ≤ 100000 then Pw.rd false s.data.toList else []
set_option maxRecDepth 20000 in
theorem rwOf_len (s : ByteArray) : (rwOf s).length ≤ 100000 := by
  unfold rwOf
  split
  · have := Pw.rd_len _ false s.data.toList (Nat.le_refl _)
    have h2 : s.data.toList.length = s.size := by simp
    omega
  · simp
/-- What the program's walk asks of a world. -/
structure RwW (w : World) : Prop where
  tabs : Lib.Utf8Tabs 2 3 w
  err : ErrCell w
  most : ∃ m : Int, w.cell? ⟨1, 0, none⟩ = some (.int .i64 m)
  names : ∃ (ct : TypeId) (fr : Nat × Nat), w.heap[0]? = some (.cells arr ct fr)
set_option maxRecDepth 20000 in
theorem RwW.below {w w' : World} (h : RwW w) (hb : Below w.heap.size w w') : RwW w' where
  tabs := tabsD_below h.tabs hb
  err := h.err.below hb
  most := by
    obtain ⟨m, hm⟩ := h.most
    exact ⟨m, (hb.cell (p := ⟨1, 0, none⟩) (World.block_lt_of_cell? _ _ hm)).trans hm⟩
  names := by
    obtain ⟨ct, fr, hC⟩ := h.names
    exact ⟨ct, fr, (hb.block _ (heap_lt hC)).trans hC⟩
set_option maxRecDepth 40000 in
set_option maxHeartbeats 1000000 in
theorem implReadAny (s : ByteArray) (w : World) (hs : s.size ≤ 1048576) (h : RwW w) :
    Calls Tryz.prog 5 #[.string s] w fun e w' => ∃ v, e = .returned v ∧ OwnN w.heap.size v (rwOf s) w' ∧ Below w.heap.size w w' := by
  unfold rwOf
  by_cases hl : s.size ≤ 100000
  · rw [if_pos hl]
    obtain ⟨m, hm⟩ := h.most
    obtain ⟨ct, fr, hC⟩ := h.names
    exact implReadWords s w hl h.tabs h.err m hm ct fr hC
  · rw [if_neg hl]
    have hl2 : (100000 : Int) < (s.size : Int) := by omega
    have cT : Calls Tryz.prog 11 #[.string s] w fun e w' => e = .returned (.bool true) ∧ w = w' := by
      go_enter Tryz.func11, Tryz.ntmps11
      go_wp2
      go_ret
      exact ⟨rfl, rfl⟩
    clear h
    go_enter Tryz.func5, Tryz.ntmps5
    go_wp2_with fail
    refine cT.mono ?_
    rintro e w2 ⟨rfl, rfl⟩
    go_wp2
    go_ret
    exact ⟨_, rfl, OwnN.nil _ _, Below.refl _ _⟩
set_option maxRecDepth 40000 in
set_option maxHeartbeats 1000000 in
theorem specReadAny (s : ByteArray) (w : World) (hs : s.size ≤ 1048576) :
    Calls Tryz.prog 4 #[.string s] w fun e w' => ∃ v, e = .returned v ∧ OwnN w.heap.size v (rwOf s) w' ∧ Below w.heap.size w w' := by
  unfold rwOf
  by_cases hl : s.size ≤ 100000
  · rw [if_pos hl]
    exact specReadWords s w hl
  · rw [if_neg hl]
    have hl2 : (100000 : Int) < (s.size : Int) := by omega
    go_enter Tryz.func4, Tryz.ntmps4
    go_wp2
    go_ret
    exact ⟨_, rfl, OwnN.made _ w (Nat.le_refl _), (Below.refl _ _).alloc (Nat.le_refl _) _⟩
set_option maxRecDepth 40000 in
set_option maxHeartbeats 4000000 in
theorem walkReadWords (s : ByteArray) (w : World) (hs : s.size ≤ maxLen) (hW : RwW w) :
    Calls Tryz.prog 3 #[.string s] w fun e w' => e = .returned (.bool true) ∧ Below w.heap.size w w' := by
  unfold maxLen at hs
  by_cases hbig : 1048576 < s.size
  · clear hW
    go_enter Tryz.func3, Tryz.ntmps3
    go_wp2
    go_ret
    exact ⟨rfl, Below.refl _ _⟩
  · have hlen := rwOf_len s
    have hsp := mkHid (specReadAny s w (by omega))
    have him := mkHid (fun W (hb : Below w.heap.size w W) => implReadAny s W (by omega) (hW.below hb))
    generalize rwOf s = P at *
    clear hW
    go_enter Tryz.func3, Tryz.ntmps3
    go_wp2_with fail
    refine hsp.out.mono ?_
    rintro e w1 ⟨v0, rfl, hO0, hb1⟩
    obtain ⟨a0, c0, rfl⟩ := hO0.shape
    have HO0 := mkHid hO0
    have Hb1 := mkHid hb1
    clear hsp hO0 hb1
    go_wp2_with fail
    refine (him.out w1 Hb1.out).mono ?_
    rintro e w2 ⟨v1, rfl, hO1, hb2⟩
    obtain ⟨a1, c1, rfl⟩ := hO1.shape
    have HO1 := mkHid hO1
    have HO0b := mkHid (HO0.out.below hb2)
    have Hb2 := mkHid hb2
    clear hO1 hb2
    have cE := mkHid (lawEqSInt a1 a0 P c1 c0 _ _ w2 HO1.out.inL HO0b.out.inL (by omega))
    go_wp2_with fail
    refine cE.out.mono ?_
    rintro e w3 ⟨rfl, hb3⟩
    have HO1c := mkHid (HO1.out.below hb3)
    have Hb3 := mkHid hb3
    clear cE hb3 HO1
    have cM := lawMarkInts a1 P c1 w1.heap.size 1 w3 (by omega) (by omega) HO1c.out
    rw [show ((1 : Nat) : Int) = 1 from rfl] at cM
    replace cM := mkHid cM
    go_wp2_with fail
    refine cM.out.mono ?_
    rintro e w4 ⟨rfl, hO4, hg4⟩
    have z2 := Hb2.out.size
    have z3 := Hb3.out.size
    have z1 := Hb1.out.size
    have hb14 : Below w1.heap.size w1 w4 := (Hb2.out.trans (Hb3.out.mono z2)).grown hg4.out (by omega) (fun k hk => (World.ownsRow.lt HO1c.out k hk).1)
    have z4 := hg4.out.size
    have hl4 : (numsFrom 1 P.length).length = P.length := nums_len _ _
    have hO4' : OwnN w1.heap.size (.slice a1 (numsFrom 1 P.length).length c1) (numsFrom 1 P.length) w4 := by rw [hl4]; exact hO4.out
    have cH := lawHeldInts a1 P.length c1 w1.heap.size 1 w4 (by omega) (by omega) hO4'.inL
    rw [show ((1 : Nat) : Int) = 1 from rfl] at cH
    replace cH := mkHid cH
    have Hb14 := mkHid hb14
    have HO4 := mkHid hO4'
    clear cM hO4 hg4 hb14 hO4' HO1c
    go_wp2_with fail
    refine cH.out.mono ?_
    rintro e w5 ⟨rfl, rfl⟩
    clear cH
    have Hb04 := mkHid (Hb1.out.trans (Hb14.out.mono z1))
    have hq1 : ¬ ((1 + P.length : Nat) : Int) < 0 := by omega
    have hq2 : (((1 + P.length : Nat) : Int) != ((1 + P.length : Nat) : Int)) = false := by simp
    have hi6 := mkHid (him.out w4 Hb04.out)
    trace_state
    go_wp2_with fail
    refine hi6.out.mono ?_
    rintro e w6 ⟨v2, rfl, hO6, hb6⟩
    obtain ⟨a2, c2, rfl⟩ := hO6.shape
    have HO06 := mkHid (HO0.out.below (Hb14.out.trans (hb6.mono Hb14.out.size)))
    have HO46 := mkHid (HO4.out.below hb6)
    have cE := mkHid (lawEqSInt a2 a0 P c2 c0 _ _ w6 hO6.inL HO06.out.inL (by omega))
    have Hb6 := mkHid hb6
    clear hi6 hO6 hb6 HO4
    go_wp2_with fail
    refine cE.out.mono ?_
    rintro e w7 ⟨rfl, hb7⟩
    have HO47 := mkHid (HO46.out.below hb7)
    have cH := lawHeldInts a1 P.length c1 w1.heap.size 1 w7 (by omega) (by omega) HO47.out.inL
    rw [show ((1 : Nat) : Int) = 1 from rfl] at cH
    replace cH := mkHid cH
    have z6 := Hb6.out.size
    have Hb7 := mkHid (Hb04.out.trans ((Hb6.out.trans (hb7.mono z6)).mono Hb04.out.size))
    clear cE hb7 HO46
    go_wp2_with fail
    refine cH.out.mono ?_
    rintro e w8 ⟨rfl, rfl⟩
    clear cH
    go_wp2
    go_ret
    exact ⟨rfl, Hb7.out⟩
end Go.Proofs.YtgfgondjpfnmiaaGreatDoor
namespace Go.Proofs.YtgfgondjpfnmiaaGreatDoor
open Go Go.ChangeShapes Go.WideShapes Go.ChangeAt Go.WideMaps Go.WideElems Go.RowKit Go.Lib
open Go.ChangeMaps (open_string shut_string)
set_option maxRecDepth 20000 in
theorem laidOut : laidOutB Tryz.prog = true := by kernel_rfl
set_option maxRecDepth 20000 in
theorem own : ownKnob Tryz.prog.godebug = none := by kernel_rfl
def laidR : List (String × DataW Unit) := [("math/bits.deBruijn32tab", Rows.laid_math_bits_deBruijn32tab), ("math/bits.deBruijn64tab", Rows.laid_math_bits_deBruijn64tab), ("internal/strconv.uint64pow10", Rows.laid_internal_strconv_uint64pow10), ("unicode/utf8.acceptRanges", Rows.laid_unicode_utf8_acceptRanges), ("strconv.ErrRange", Rows.laid_strconv_ErrRange), ("strconv.ErrSyntax", Rows.laid_strconv_ErrSyntax), ("loop.example/g00013/impl.charsetNames", Rows.laid_loop_example_g00013_impl_charsetNames), ("unicode/utf8.first", Rows.laid_unicode_utf8_first)]
set_option maxRecDepth 20000 in
theorem gY : Tryz.prog.globalNamed "strconv.ErrSyntax" = some 4 := by kernel_rfl
set_option maxRecDepth 20000 in
theorem tY : (Tryz.prog.globals[4]?).map (·.type) = some 119 := by kernel_rfl
set_option maxRecDepth 20000 in
theorem first_is : Rows.laid_unicode_utf8_first = Lib.firstData := by kernel_rfl
set_option maxRecDepth 20000 in
theorem accept_is : (Rows.laid_unicode_utf8_acceptRanges : DataW Unit) = Lib.acceptData := by kernel_rfl
set_option maxRecDepth 20000 in
theorem laidR_gives {W : World} (h : laidMetH Tryz.prog laidR W) (m : Int) (hm : W.cell? ⟨1, 0, none⟩ = some (.int .i64 m)) : RwW W := by
  refine ⟨?_, ?_, ⟨m, hm⟩, ?_⟩
  · have h1 := h.filter (fun x => x.1 == "unicode/utf8.acceptRanges" || x.1 == "unicode/utf8.first")
    rw [show (laidR.filter fun x => x.1 == "unicode/utf8.acceptRanges" || x.1 == "unicode/utf8.first") = [("unicode/utf8.acceptRanges", Rows.laid_unicode_utf8_acceptRanges), ("unicode/utf8.first", Rows.laid_unicode_utf8_first)] from by simp [laidR]] at h1
    rw [MakeChecks.laidMetH_plain _ _ _ (by kernel_rfl)] at h1
    exact utf8Tabs_of_readsT (U8Types.of260 Tryz.lays260) ⟨by kernel_rfl, by kernel_rfl, by kernel_rfl, by kernel_rfl, by kernel_rfl, by kernel_rfl, by kernel_rfl⟩
      (first_is ▸ Lib.laidMet.reads h1 (.tail _ (.head _))) (accept_is ▸ Lib.laidMet.reads h1 (.head _))
  · have h1 := h.filter (fun x => x.1 == "strconv.ErrSyntax")
    rw [show (laidR.filter fun x => x.1 == "strconv.ErrSyntax") = [("strconv.ErrSyntax", Rows.laid_strconv_ErrSyntax)] from by simp [laidR]] at h1
    rw [MakeChecks.laidMetH_plain _ _ _ (by kernel_rfl)] at h1
    obtain ⟨ps, ⟨g0, t0, cs0, f0, p0, q0, hg0, ht0, hv0, hd0, hq, e0⟩, hnd, hrows⟩ := h1
    obtain rfl := Option.some.inj (gY.symm.trans hg0)
    obtain rfl := Option.some.inj (tY.symm.trans ht0)
    obtain ⟨f1, u, v, hcs, -, -⟩ := iface_of_trod Tryz.underlying119 hd0
    have hc := World.var?_cell hg0 hv0 0
    have hc2 : cs0[0]? = some (.iface u v) := by rw [← Array.getElem?_toList, hcs]; rfl
    rw [hc2] at hc
    exact ⟨World.block_lt_of_cell? _ _ hc, _, hc, .inr ⟨u, v, rfl⟩⟩
  · have h1 := h.filter (fun x => x.1 == "loop.example/g00013/impl.charsetNames")
    rw [show (laidR.filter fun x => x.1 == "loop.example/g00013/impl.charsetNames") = [("loop.example/g00013/impl.charsetNames", Rows.laid_loop_example_g00013_impl_charsetNames)] from by simp [laidR]] at h1
    exact names_of_laid h1
set_option maxRecDepth 20000 in
theorem varN_on {H : Type} {enc : TypeId × Value → H} {W W' : World} {gs : List (DataW H)} {q : List MemPlace} (hV : DataW.TrodVars enc Tryz.prog W (fun _ => true) ["loop.example/g00013/impl.charsetNames"] gs q) (bel : Below W.heap.size W W') :
    ∃ d, gs = [d] ∧ DataW.TrodVars enc Tryz.prog W' (fun b => decide (b < W.heap.size)) ["loop.example/g00013/impl.charsetNames"] [d] q := by
  obtain ⟨g, t, cs, fuel, d, p, rfl, h1, h2, h3, h4, rfl⟩ := trodVars_one hV
  obtain rfl := Option.some.inj (gNames.symm.trans h1)
  obtain rfl := Option.some.inj (tNames.symm.trans h2)
  have hz : 0 < W.heap.size := by
    obtain ⟨t, fr, hb⟩ := block_of_var h3
    exact heap_lt hb
  have hT : DataW.Trod enc Tryz.prog W 0 (fun _ => true) true 74 (.agg cs) d p := ⟨fuel, h4⟩
  have hlt : ∀ x ∈ p, x.block < W.heap.size := DataW.trod_lt fuel _ _ _ h4
  obtain ⟨fuel', h4'⟩ := Below.trod laidOut (by kernel_rfl) (of_decide_eq_true (by kernel_rfl)) hT bel hlt
  exact ⟨d, rfl, trodVars_mk1 gNames tNames (var?_below bel gNames hz h3) h4'⟩
set_option maxRecDepth 100000 in
theorem wordsLifted (os : Os) (started : os.Started) (H : Type) (enc : TypeId × Value → H) :
    ReturnsInHanded {} Tryz.checked os 3 .any (fun w args => (Rows.fnExactReadWordsSpec.pre enc Tryz.prog Tryz.f3 [] false w args ∧ laidMetH Tryz.prog laidR w) ∧ sizedMet enc Tryz.prog Tryz.f3 (OpenSpec.ofChange Rows.fnExactReadWordsSpec) false w args)
      (Rows.fnExactReadWordsSpec.post enc Tryz.prog Tryz.f3 false true false false) := by
  refine returnsInHanded_of_calls (C := Tryz.checked) own started (by kernel_rfl)
    (ChangeSpec.witness_shaped (enc := enc) (C := Tryz.checked) (os := os) (X := fun w _ => laidMetH Tryz.prog laidR w) false (World.laidAll Tryz.prog os laidR) #[.string ByteArray.empty] 8 (World.laidAll_os _ _ _)
      (World.shaped_of_ZipB (by kernel_rfl) (by kernel_rfl)) (by kernel_rfl) (by kernel_rfl) (by kernel_rfl)
      (by rw [MakeChecks.laidMetH_plain _ _ _ (by kernel_rfl)]; exact laidMet_laidAll _ (by kernel_rfl) (by kernel_rfl))) ?_
  intro w tape inp _ hsh _ hok hpre _
  obtain ⟨_, _, _, fn', hfn', _, _, _, _, hval0⟩ := hok
  obtain rfl : fn' = Tryz.f3 := Option.some.inj (hfn'.symm.trans Tryz.func3)
  obtain ⟨⟨⟨ds, gs, before, hw, -⟩, hL⟩, -⟩ := hpre
  have hW := DataW.Whole.of_heap (w' := w.forCall tape inp) (by rfl) hw
  have hL' : laidMetH Tryz.prog laidR (w.forCall tape inp) := laidMetH.of_heap (by rfl) hL
  obtain ⟨m, hm⟩ := Tryz.laysM146.s1_3 _ hsh
  generalize w.forCall tape inp = W at hsh hval0 hW hm hL' ⊢
  generalize inp.args = args at hval0 hW ⊢
  have hval : ∀ (j : Nat) t v, Tryz.f3.params[j]? = some t → args[j]? = some v → Value.okWide Tryz.prog W .any w.heap.size t v := hval0
  have hW' := hW
  obtain ⟨p, q, hA0, hV, rfl, hfz, hnd⟩ := hW
  have hA : DataW.TrodAll enc Tryz.prog W 0 (fun _ => true) true Tryz.f3.params.toList args.toList ds p := hA0
  rw [Tryz.params3] at hA hval
  obtain ⟨v0, vs0, d0, ds0, p0, q0, hargs0, rfl, rfl, h0, r0⟩ := trodAll_cons hA
  obtain ⟨rfl, rfl, rfl⟩ := trodAll_nil r0
  obtain rfl : args = #[v0] := by cases args; simp_all
  have hlt0 : ∀ x ∈ p0, x.block < W.heap.size := by obtain ⟨fuel, hx⟩ := h0; exact DataW.trod_lt fuel _ _ _ hx
  have h0' := h0
  obtain ⟨a0, rfl, -, -, w0⟩ := open_string Tryz.underlying9 (hval 0 9 v0 rfl rfl) h0'
  clear hA0 hval0
  refine (walkReadWords a0 W w0 (laidR_gives hL' m hm)).mono fun e W' ⟨he, bel⟩ => ?_
  subst he
  obtain ⟨e0, rfl, hV'⟩ := varN_on hV bel
  exact ChangeSpec.post_blind ⟨_, _, _, [], _, q, hW', trodAll_mk1 (shut_bool Tryz.underlying4 _), (trodAll_cons_mk (Below.trod laidOut (by kernel_rfl) (of_decide_eq_true (by kernel_rfl)) h0 bel hlt0) trodAll_mk0), hV', bel.frame _, fun h => by cases h⟩

set_option maxRecDepth 20000 in
theorem words_row : Rows.FnExactReadWordsSaid :=
  OpenClaim.holds_of_wide 3 Tryz.f3 rfl rfl rfl rfl rfl rfl rfl ⟨rfl, rfl, rfl, rfl, rfl⟩ rfl rfl rfl rfl rfl (by kernel_rfl) Tryz.func3 (by kernel_rfl)
    (of_decide_eq_true (by kernel_rfl)) (by unfold Func.isWrapper; first | (rw [if_pos (by decide +kernel)]; kernel_rfl) | (rw [if_neg (by decide +kernel)]; exact ⟨rfl, rfl⟩))
    (fun os started H enc _ => wordsLifted os started H enc)
set_option maxRecDepth 20000 in
theorem readWords_holds : Rows.FnExactReadWordsCardSaid :=
  Claim7.holds_tied_plain_at .later [] [.data, .data, .data, .data, .sentinel, .sentinel, .data, .pinned] true (true, "da8d782d446eaabddaff19437235279d022a537c43888db2211b15ceeea896c3") true
    words_row (fun _ h => by cases h) (by kernel_rfl) (fun _ h => by cases h) fnExactReadWords_row_tie rfl ⟨rfl, rfl⟩ (by kernel_rfl) rfl
    (fun f fn hf hfn => by
      obtain rfl : f = 3 := Option.some.inj ((show Tryz.prog.funcNamed "loop.example/g00013/laws.FnExactReadWords" = some 3 by kernel_rfl).symm.trans hf) |>.symm
      obtain rfl : fn = Tryz.f3 := (Option.some.inj (Tryz.func3.symm.trans hfn)).symm
      exact ⟨by kernel_rfl, fun j t ht => by
        rw [Tryz.params3] at ht
        have hm : t ∈ [9] := by simpa using Array.mem_of_getElem? ht
        have hall : ([9].all fun u => !Tryz.prog.wantsStandIn u) = true := by kernel_rfl
        exact (show Tryz.prog.wantsStandIn t = false by simpa using List.all_eq_true.1 hall t hm)⟩)
    (by kernel_rfl)
#print axioms readWords_holds
end Go.Proofs.YtgfgondjpfnmiaaGreatDoor
