/- FnExactWriteContent: its row, its tied card. -/
import Derived.Test.YtpjpnjbegjiegaaDoorContProof
import Derived.Test.YtpjpnjbegjiegaaDoorWriteBoth
namespace Go.Proofs.YtpjpnjbegjiegaaDoor
open Go.ChangeMaps (open_string shut_string)
open Go Go.ChangeShapes Go.WideShapes Go.ChangeAt Go.WideMaps Go.WideElems Go.RowKit Go.Lib
def laid_w : List (String × DataW Unit) := [("math/bits.deBruijn32tab", Rows.laid_math_bits_deBruijn32tab), ("math/bits.deBruijn64tab", Rows.laid_math_bits_deBruijn64tab), ("internal/strconv.uint64pow10", Rows.laid_internal_strconv_uint64pow10), ("unicode/utf8.acceptRanges", Rows.laid_unicode_utf8_acceptRanges), ("unicode/utf8.first", Rows.laid_unicode_utf8_first)]
theorem laid_gives_w {W : World} (h : laidMetH Tryd.prog laid_w W) : Lib.Utf8Tabs 0 1 W := by
  rw [MakeChecks.laidMetH_plain _ _ _ (by kernel_rfl)] at h
  exact utf8Tabs_of_readsT (U8Types.of196 Tryd.lays196) ⟨by kernel_rfl, by kernel_rfl, by kernel_rfl, by kernel_rfl, by kernel_rfl, by kernel_rfl, by kernel_rfl⟩
    (first_is ▸ Lib.laidMet.reads h (.tail _ (.tail _ (.tail _ (.tail _ (.head _)))))) (accept_is ▸ Lib.laidMet.reads h (.tail _ (.tail _ (.tail _ (.head _)))))
set_option maxHeartbeats 2000000 in
theorem writeWalk (T S : ByteArray) (o : Option Addr) (F : List Fd) (cap : Nat) (w : World) (hT : T.size ≤ maxLen) (hS : S.size ≤ maxLen) (hF : Fld w.heap.size w o F) (hlen : F.length ≤ maxLen) (hsz : ∀ f ∈ F, f.1.size ≤ maxLen ∧ f.2.size ≤ maxLen)
    (hU : Lib.Utf8Tabs 0 1 w) :
    Calls Tryd.prog 4 #[ct T S o F.length cap] w fun e w' => e = .returned (.bool true) ∧ Below w.heap.size w w' := by
  have hz := mkHid fun w hF => lawSzC T S o F cap w hT hS hF hlen hsz
  have HF := mkHid hF
  have HU := mkHid hU
  clear hF hU hlen hsz hT hS
  have hbA : ∀ b, Below w.heap.size w (w.alloc b) := fun b => (Below.refl _ _).alloc (Nat.le_refl _) _
  go_enter Tryd.func4, Tryd.ntmps4
  go_wp2_with fail
  refine (hz.out _ ((HF.out.below (hbA _)).mono (hbA _).size)).mono ?_
  rintro e w1 ⟨r, rfl, hr, hb1⟩
  clear hz
  have B1 := mkHid ((hbA _).trans (hb1.mono (hbA _).size))
  rcases hr.out with rfl | ⟨hr0, hT, hS, hlen, hsz⟩
  · go_wp2
    go_ret
    exact ⟨rfl, B1.out⟩
  · obtain ⟨c0, c1, c2⟩ := boxed _ _ _ hb1
    have hI := mkHid fun w o cap hF hU => implWrite T S o F cap w hT hS hF hlen hsz hU
    have hP := mkHid fun w o cap hF => specWrite T S o F cap w hT hS hF hlen hsz
    have hto := mkHid fun w hF => lawToC T S o F cap w hF hlen
    have heq := mkHid fun w a b cap cap' hF hG => lawEqC T S a b F cap cap' w hF hG hlen
    generalize Pl.writeT T S F = R at hI hP
    clear hr hT hS hsz hlen
    go_wp2_with fail
    refine (hto.out _ ((HF.out.below B1.out).mono B1.out.size)).mono ?_
    rintro e w2 ⟨a2, rfl, hF2, hb2⟩
    have B2 := mkHid (hb1.trans (hb2.mono hb1.size))
    go_wp2_with fail
    refine (hP.out _ _ _ hF2.out).mono ?_
    rintro e w3 ⟨rfl, hb3⟩
    have B3 := mkHid (B2.out.trans (hb3.mono B2.out.size))
    have C3 := mkHid ((hbA _).trans (B3.out.mono (hbA _).size))
    clear c0 c1 c2 hb1 hb2 hb3 hF2
    obtain ⟨c0, c1, c2⟩ := boxed _ _ _ B3.out
    go_wp2_with fail
    refine (hto.out _ ((HF.out.below C3.out).mono C3.out.size)).mono ?_
    rintro e w4 ⟨a4, rfl, hF4, hb4⟩
    have B4 := mkHid (B3.out.trans (hb4.mono B3.out.size))
    have C4 := mkHid (C3.out.trans (hb4.mono C3.out.size))
    clear c0 c1 c2
    go_wp2_with fail
    have D4 := mkHid ((Below.refl w4.heap.size w4).alloc (Nat.le_refl _) (.cells #[.string T, .string S, .slice (some a4) F.length F.length] 29))
    refine (hI.out _ _ _ ((hF4.out.below D4.out).mono D4.out.size) (tabs_below HU.out (C4.out.trans (D4.out.mono C4.out.size)))).mono ?_
    rintro e w5 ⟨rfl, hb5⟩
    obtain ⟨x0, x1, x2⟩ := boxed _ _ _ hb5
    have D5 := mkHid (D4.out.trans (hb5.mono D4.out.size))
    have B5 := mkHid (B4.out.trans (D5.out.mono B4.out.size))
    have C5 := mkHid (C4.out.trans (D5.out.mono C4.out.size))
    obtain ⟨y0, y1, y2⟩ := boxed _ _ _ B5.out
    have hF5 := mkHid ((hF4.out.below D5.out).mono D5.out.size)
    have E5 := mkHid hb5
    clear hb4 hb5 hI hP hF4 B4 B3 B2
    go_wp2_with fail
    go_region_with (first
      | (go_at_call 7; refine (hto.out _ ((HF.out.below C5.out.drew).mono C5.out.drew.size)).mono ?_; rintro e w6 ⟨a6, rfl, hF6, hb6⟩; obtain ⟨z0, z1, z2⟩ := boxed _ _ _ (E5.out.drew.trans (hb6.mono E5.out.drew.size)))
      | (go_at_call 9; refine (heq.out _ _ _ _ _ ((hF5.out.below ((Below.refl _ _).drew.trans hb6)).mono ((Below.refl w5.heap.size w5).drew.trans hb6).size) hF6.out).mono ?_; rintro e w7 ⟨rfl, hb7⟩))
    all_goals
      have C6 := mkHid (C5.out.drew.trans (hb6.mono C5.out.drew.size))
      have C7 := mkHid (C6.out.trans (hb7.mono C6.out.size))
      go_wp2
      go_ret
      exact ⟨rfl, C7.out⟩
set_option maxRecDepth 100000 in
theorem writeLifted (os : Os) (started : os.Started) (H : Type) (enc : TypeId × Value → H) :
    ReturnsInHanded {} Tryd.checked os 4 .any (fun w args => (Rows.fnExactWriteContentSpec.pre enc Tryd.prog Tryd.f4 [] false w args ∧ laidMetH Tryd.prog laid_w w) ∧ sizedMet enc Tryd.prog Tryd.f4 (OpenSpec.ofChange Rows.fnExactWriteContentSpec) false w args)
      (Rows.fnExactWriteContentSpec.post enc Tryd.prog Tryd.f4 false true false false) := by
  refine returnsInHanded_of_calls (C := Tryd.checked) own_c started (by kernel_rfl)
    (ChangeSpec.witness_shaped (enc := enc) (C := Tryd.checked) (os := os) (X := fun w _ => laidMetH Tryd.prog laid_w w) false (World.laidAll Tryd.prog os laid_w) #[ct ByteArray.empty ByteArray.empty none 0 0] 8 (World.laidAll_os _ _ _)
      (World.shaped_of_ZipB (by kernel_rfl) (by kernel_rfl)) (by kernel_rfl) (by kernel_rfl) (by kernel_rfl)
      (by rw [MakeChecks.laidMetH_plain _ _ _ (by kernel_rfl)]; exact laidMet_laidAll _ (by kernel_rfl) (by kernel_rfl))) ?_
  intro w tape inp _ hsh _ hok hpre _
  obtain ⟨_, _, _, fn', hfn', _, _, _, _, hval0⟩ := hok
  obtain rfl : fn' = Tryd.f4 := Option.some.inj (hfn'.symm.trans Tryd.func4)
  obtain ⟨⟨⟨ds, gs, before, hw, -⟩, hLd⟩, -⟩ := hpre
  have hL : laidMetH Tryd.prog laid_w (w.forCall tape inp) := hLd.of_heap (by rfl)
  have hW := DataW.Whole.of_heap (w' := w.forCall tape inp) (by rfl) hw
  generalize w.forCall tape inp = W at hsh hval0 hW hL ⊢
  generalize inp.args = args at hval0 hW ⊢
  have hval : ∀ (j : Nat) t v, Tryd.f4.params[j]? = some t → args[j]? = some v → Value.okWide Tryd.prog W .any w.heap.size t v := hval0
  have hW' := hW
  obtain ⟨p, q, hA0, hV, rfl, hfz, hnd⟩ := hW
  have hA : DataW.TrodAll enc Tryd.prog W 0 (fun _ => true) true Tryd.f4.params.toList args.toList ds p := hA0
  rw [Tryd.params4] at hA hval
  obtain ⟨v0, d0, rfl, rfl, h0⟩ := trodAll_one hA
  obtain ⟨rfl, rfl⟩ := trodVars_none hV
  have hlt : ∀ x ∈ p, x.block < W.heap.size := by obtain ⟨fuel, hx⟩ := h0; exact DataW.trod_lt fuel _ _ _ hx
  obtain ⟨c0, c1, c2, y0, y1, y2, k, rfl, -, -, hy0, hy1, hy2⟩ := Go.Joins.open_agg3 Tryd.underlying24 (by kernel_rfl) (by kernel_rfl) (hval 0 24 v0 rfl rfl) h0
  obtain ⟨T, e0, -, wT⟩ := DataW.trod_string (show Tryd.prog.underlying _ = some .string from Tryd.underlying9) hy0
  obtain ⟨S, e1, -, wS⟩ := DataW.trod_string (show Tryd.prog.underlying _ = some .string from Tryd.underlying9) hy1
  obtain ⟨o, F, cap, rfl, hF, hlen, hsz⟩ := open_pairs (show Tryd.prog.underlying _ = some _ from Tryd.underlying22) Tryd.underlying46 (by kernel_rfl) rfl rfl rfl rfl (by kernel_rfl) Tryd.underlying9 hy2
  simp only [List.cons.injEq, and_true] at e0 e1
  subst e0 e1
  clear hA0 hval0
  simp only [List.append_nil] at hW'
  refine (writeWalk T S o F cap W wT wS hF hlen hsz (laid_gives_w hL)).mono fun e W' ⟨he, bel⟩ => ?_
  subst he
  exact ChangeSpec.post_blind ⟨_, _, _, [], _, [], hW', trodAll_mk1 (shut_bool Tryd.underlying4 _), trodAll_mk1 (Below.trod laidOut_c (by kernel_rfl) (of_decide_eq_true (by kernel_rfl)) h0 bel hlt), rfl, bel.frame _, fun h => by cases h⟩

theorem write_row : Rows.FnExactWriteContentSaid :=
  OpenClaim.holds_of_wide 4 Tryd.f4 rfl rfl rfl rfl rfl rfl rfl ⟨rfl, rfl, rfl, rfl, rfl⟩ rfl rfl rfl rfl rfl (by kernel_rfl) Tryd.func4 (by kernel_rfl)
    (of_decide_eq_true (by kernel_rfl)) (by unfold Func.isWrapper; first | (rw [if_pos (by decide +kernel)]; kernel_rfl) | (rw [if_neg (by decide +kernel)]; exact ⟨rfl, rfl⟩))
    (fun os started H enc _ => writeLifted os started H enc)
theorem write_holds : Rows.FnExactWriteContentCardSaid :=
  Claim7.holds_tied_plain_at .later [] [.data, .data, .data, .data, .pinned] true (true, "991a6adae0d611ec535b958a54ce85c52749de90f09a7633aa25b80088a4df35") false
    write_row (fun _ h => by cases h) (by kernel_rfl) (fun _ h => by cases h) fnExactWriteContent_row_tie rfl ⟨rfl, rfl⟩ (by kernel_rfl) rfl
    (fun f fn hf hfn => by
      obtain rfl : f = 4 := Option.some.inj ((show Tryd.prog.funcNamed "loop.example/g00013/laws.FnExactWriteContent" = some 4 by kernel_rfl).symm.trans hf) |>.symm
      obtain rfl : fn = Tryd.f4 := (Option.some.inj (Tryd.func4.symm.trans hfn)).symm
      exact ⟨by kernel_rfl, fun j t ht => by
        rw [Tryd.params4] at ht
        have hm : t ∈ [24] := by simpa using Array.mem_of_getElem? ht
        have hall : ([24].all fun u => !Tryd.prog.wantsStandIn u) = true := by kernel_rfl
        exact (show Tryd.prog.wantsStandIn t = false by simpa using List.all_eq_true.1 hall t hm)⟩)
    (by kernel_rfl)
#print axioms write_holds
end Go.Proofs.YtpjpnjbegjiegaaDoor
