/- FnExactUnQuoted: its row, its tied card. -/
import Derived.Test.YtkchnlfedkfpjaaDoorRows
import Derived.Test.YtkchnlfedkfpjaaDoorUnQSpec
import Derived.WalkKit
import Derived.ProofKit
import Derived.OpenShut
import Derived.ShutString
import Derived.ChangeOld
import Derived.Below
import Derived.Handed
import Derived.Lay
import Derived.LaidLaws
import Derived.LaidSub
import Derived.Test.YtkchnlfedkfpjaaDoorTie
import Derived.Test.YtkchnlfedkfpjaaDoorCards
import Derived.SevenTiedAt
namespace Go.Proofs.YtkchnlfedkfpjaaDoor
open Go.ChangeMaps (open_string shut_string)
open Go Go.ChangeShapes Go.WideShapes Go.ChangeAt Go.WideMaps Go.WideElems Go.RowKit
theorem own : ownKnob Tryd.prog.godebug = none := by kernel_rfl
theorem unV_shape (x : Option (List UInt8)) : ∃ (b : Bool) (t : ByteArray), unV x = .agg #[.bool b, .string t] := by
  cases x with
  | none => exact ⟨false, _, rfl⟩
  | some l => exact ⟨true, _, rfl⟩
set_option maxHeartbeats 400000 in
theorem lawEqBytes (b : Bool) (t : ByteArray) (w : World) : Calls Tryd.prog 6 #[.agg #[.bool b, .string t], .agg #[.bool b, .string t]] w fun e w' => e = .returned (.bool true) ∧ Below w.heap.size w w' := by
  go_enter Tryd.func6, Tryd.ntmps6
  go_wp2
  go_ret
  exact ⟨rfl, ((Below.refl _ _).alloc (Nat.le_refl _) _).alloc (by simp) _⟩
set_option maxRecDepth 40000 in
set_option maxHeartbeats 400000 in
theorem specLong (s : ByteArray) (w : World) (hs : 100000 < s.size) (hs2 : s.size ≤ 1048576) : Calls Tryd.prog 4 #[.string s] w fun e w' => e = .returned (unV none) ∧ Below w.heap.size w w' := by
  have hres0 : (w.alloc (.cells #[.bool false, .string ⟨#[]⟩] 23)).heap[w.heap.size]? = some (.cells #[.bool false, .string ⟨#[]⟩] 23 (0, 0)) := heap_alloc_at _ _
  have hbel0 : Below w.heap.size w (w.alloc (.cells #[.bool false, .string ⟨#[]⟩] 23)) := (Below.refl _ _).alloc (Nat.le_refl _) _
  go_enter Tryd.func4, Tryd.ntmps4
  go_wp2_with (first | (refine wpL_store_row rfl 23 _ _ rfl w.heap.size #[.bool false, .string ⟨#[]⟩] rfl rfl 23 _ hres0 (by kernel_rfl) rfl (by simp [Value.oneCell']) ?_) | go_in)
  exact retS _ _ _ _ rfl hres0 hbel0
set_option maxRecDepth 40000 in
set_option maxHeartbeats 400000 in
theorem implLong (s : ByteArray) (w : World) (hs : 100000 < s.size) (hs2 : s.size ≤ 1048576) : Calls Tryd.prog 5 #[.string s] w fun e w' => e = .returned (unV none) ∧ Below w.heap.size w w' := by
  have hres0 : (w.alloc (.cells #[.bool false, .string ⟨#[]⟩] 23)).heap[w.heap.size]? = some (.cells #[.bool false, .string ⟨#[]⟩] 23 (0, 0)) := heap_alloc_at _ _
  have hbel0 : Below w.heap.size w (w.alloc (.cells #[.bool false, .string ⟨#[]⟩] 23)) := (Below.refl _ _).alloc (Nat.le_refl _) _
  have hT := implTooLong s (w.alloc (.cells #[.bool false, .string ⟨#[]⟩] 23)) (by omega)
  rw [decide_eq_true (show (100000 : Int) < s.size by omega)] at hT
  go_enter Tryd.func5, Tryd.ntmps5
  go_wp2_with (first | (go_at_call 10; go_must (refine hT.mono ?_; rintro e w2 ⟨rfl, rfl⟩)) | (refine wpL_store_row rfl 23 _ _ rfl w.heap.size #[.bool false, .string ⟨#[]⟩] rfl rfl 23 _ hres0 (by kernel_rfl) rfl (by simp [Value.oneCell']) ?_))
  exact retU _ _ _ _ rfl hres0 hbel0
theorem two_cells {w : World} {b : Nat} {x y : Value} {t : TypeId} {z : Nat × Nat} (h : w.heap[b]? = some (.cells #[x, y] t z)) : w.cell? ⟨b, 0, none⟩ = some x ∧ w.cell? ⟨b, 1, none⟩ = some y := by
  constructor <;> simp [World.cell?, h]
/-- Both sides answer the same. -/
theorem both (s : ByteArray) (hs : s.size ≤ 1048576) : ∃ x, (∀ w, Calls Tryd.prog 4 #[.string s] w fun e w' => e = .returned (unV x) ∧ Below w.heap.size w w') ∧
    ∀ (m : Int) (w : World), MaxCell m w → ErrCell w → Calls Tryd.prog 5 #[.string s] w fun e w' => e = .returned (unV x) ∧ Below w.heap.size w w' := by
  by_cases h : 100000 < s.size
  · exact ⟨none, fun w => specLong s w h hs, fun m w _ _ => implLong s w h hs⟩
  · refine ⟨Pl.unq [] s.data.toList, fun w => ?_, fun m w hm hE => implUn s m w (by omega) hm hE⟩
    rw [← Pl.two_passes _ _ _ (Nat.le_refl _)]
    exact specUn s w (by omega)
set_option maxHeartbeats 1000000 in
theorem unWalk (a0 : ByteArray) (m : Int) (w0 : a0.size ≤ maxLen) (w : World) (hm : MaxCell m w) (hE : ErrCell w) :
    Calls Tryd.prog 3 #[.string a0] w fun e w' => e = .returned (.bool true) ∧ Below w.heap.size w w' := by
  unfold maxLen at w0
  by_cases hbig : 1048576 < a0.size
  · clear hm hE
    go_enter Tryd.func3, Tryd.ntmps3
    go_wp2
    go_ret
    exact ⟨rfl, Below.refl _ _⟩
  · obtain ⟨x, hS, hI⟩ := both a0 (by omega)
    obtain ⟨b, t, hx⟩ := unV_shape x
    rw [hx] at hS hI
    have HS := mkH hS
    have HI := mkH hI
    have Hm := mkH hm
    have HE := mkH hE
    clear hS hI hm hE
    go_enter Tryd.func3, Tryd.ntmps3
    go_wp2_with fail
    refine (HS.out _).mono ?_
    rintro e w1 ⟨rfl, hb1⟩
    have hv1 : (w1.alloc (.cells #[.bool b, .string t] 23)).heap[w1.heap.size]? = some (.cells #[.bool b, .string t] 23 (0, 0)) := heap_alloc_at _ _
    have hb1' := hb1.alloc hb1.size (.cells #[.bool b, .string t] 23)
    have hs1 : (w1.alloc (.cells #[.bool b, .string t] 23)).heap.size = w1.heap.size + 1 := by simp
    go_wp2_with fail
    refine (HI.out m _ (Hm.out.below hb1') (HE.out.below hb1')).mono ?_
    rintro e w2 ⟨rfl, hb2⟩
    have hv2 := (hb2.block w1.heap.size (by omega)).trans hv1
    have hv2' : (w2.alloc (.cells #[.bool b, .string t] 23)).heap[w1.heap.size]? = some (.cells #[.bool b, .string t] 23 (0, 0)) := (heap_alloc_old _ _ _ (heap_lt hv2)).trans hv2
    have hg2 : (w2.alloc (.cells #[.bool b, .string t] 23)).heap[w2.heap.size]? = some (.cells #[.bool b, .string t] 23 (0, 0)) := heap_alloc_at _ _
    obtain ⟨k0, k1⟩ := two_cells hv2'
    obtain ⟨l0, l1⟩ := two_cells hg2
    have hb12 := hb1'.trans (hb2.mono hb1'.size)
    have hb12' := hb12.alloc hb12.size (.cells #[.bool b, .string t] 23)
    go_wp2_with fail
    refine (lawEqBytes b t _).mono ?_
    rintro e w3 ⟨rfl, hb3⟩
    go_wp2
    go_ret
    exact ⟨rfl, hb12'.trans (hb3.mono hb12'.size)⟩
def laidQ : List (String × DataW Unit) := [("math/bits.deBruijn32tab", Rows.laid_math_bits_deBruijn32tab), ("math/bits.deBruijn64tab", Rows.laid_math_bits_deBruijn64tab), ("internal/strconv.uint64pow10", Rows.laid_internal_strconv_uint64pow10), ("unicode/utf8.acceptRanges", Rows.laid_unicode_utf8_acceptRanges), ("strconv.ErrRange", Rows.laid_strconv_ErrRange), ("strconv.ErrSyntax", Rows.laid_strconv_ErrSyntax), ("unicode/utf8.first", Rows.laid_unicode_utf8_first)]
theorem cell_block {w : World} {a : Addr} {v : Value} (h : w.cell? a = some v) : a.block < w.heap.size := by
  unfold World.cell? at h
  by_cases hb : a.block < w.heap.size
  · exact hb
  · rw [Array.getElem?_eq_none (by omega)] at h; simp at h
theorem err_of_laid {W : World} (h : laidMetH Tryd.prog laidQ W) : ErrCell W := by
  have h1 := h.filter (fun x => x.1 == "strconv.ErrSyntax")
  rw [show (laidQ.filter fun x => x.1 == "strconv.ErrSyntax") = [("strconv.ErrSyntax", Rows.laid_strconv_ErrSyntax)] from by simp [laidQ]] at h1
  rw [MakeChecks.laidMetH_plain _ _ _ (by kernel_rfl)] at h1
  obtain ⟨ps, ⟨g0, t0, cs0, f0, p0, q0, hg0, ht0, hv0, hd0, hq, e0⟩, hnd, hrows⟩ := h1
  obtain rfl : (3 : Nat) = g0 := Option.some.inj ((show Tryd.prog.globalNamed "strconv.ErrSyntax" = some 3 by kernel_rfl).symm.trans hg0)
  obtain rfl : (54 : TypeId) = t0 := Option.some.inj ((show Option.map (fun x => x.type) Tryd.prog.globals[3]? = some 54 by kernel_rfl).symm.trans ht0)
  obtain ⟨f1, u, v, hcs, -, -⟩ := iface_of_trod Tryd.underlying54 hd0
  have hc := World.var?_cell hg0 hv0 0
  have hc2 : cs0[0]? = some (.iface u v) := by rw [← Array.getElem?_toList, hcs]; rfl
  rw [hc2] at hc
  exact ⟨cell_block hc, _, hc, .inr ⟨u, v, rfl⟩⟩
set_option maxRecDepth 100000 in
theorem unLifted (os : Os) (started : os.Started) (H : Type) (enc : TypeId × Value → H) :
    ReturnsInHanded {} Tryd.checked os 3 .any (fun w args => (Rows.fnExactUnQuotedSpec.pre enc Tryd.prog Tryd.f3 [] false w args ∧ laidMetH Tryd.prog laidQ w) ∧ sizedMet enc Tryd.prog Tryd.f3 (OpenSpec.ofChange Rows.fnExactUnQuotedSpec) false w args)
      (Rows.fnExactUnQuotedSpec.post enc Tryd.prog Tryd.f3 false true false false) := by
  refine returnsInHanded_of_calls (C := Tryd.checked) own started (by kernel_rfl)
    (ChangeSpec.witness_shaped (enc := enc) (C := Tryd.checked) (os := os) (X := fun w _ => laidMetH Tryd.prog laidQ w) false (World.laidAll Tryd.prog os laidQ) #[.string ByteArray.empty] 8 (World.laidAll_os _ _ _)
      (World.shaped_of_ZipB (by kernel_rfl) (by kernel_rfl)) (by kernel_rfl) (by kernel_rfl) (by kernel_rfl)
      (by rw [MakeChecks.laidMetH_plain _ _ _ (by kernel_rfl)]; exact laidMet_laidAll _ (by kernel_rfl) (by kernel_rfl))) ?_
  intro w tape inp _ hsh _ hok hpre _
  obtain ⟨_, _, _, fn', hfn', _, _, _, _, hval0⟩ := hok
  obtain rfl : fn' = Tryd.f3 := Option.some.inj (hfn'.symm.trans Tryd.func3)
  obtain ⟨⟨⟨ds, gs, before, hw, -⟩, hL⟩, -⟩ := hpre
  have hW := DataW.Whole.of_heap (w' := w.forCall tape inp) (by rfl) hw
  have hL' : laidMetH Tryd.prog laidQ (w.forCall tape inp) := laidMetH.of_heap (by rfl) hL
  obtain ⟨m, hm⟩ := Tryd.laysM145.s1_3 _ hsh
  generalize w.forCall tape inp = W at hsh hval0 hW hm hL' ⊢
  generalize inp.args = args at hval0 hW ⊢
  have hval : ∀ (j : Nat) t v, Tryd.f3.params[j]? = some t → args[j]? = some v → Value.okWide Tryd.prog W .any w.heap.size t v := hval0
  have hW' := hW
  obtain ⟨p, q, hA0, hV, rfl, hfz, hnd⟩ := hW
  have hA : DataW.TrodAll enc Tryd.prog W 0 (fun _ => true) true Tryd.f3.params.toList args.toList ds p := hA0
  rw [Tryd.params3] at hA hval
  obtain ⟨v0, d0, rfl, rfl, h0⟩ := trodAll_one hA
  obtain ⟨rfl, rfl⟩ := trodVars_none hV
  obtain ⟨a0, rfl, rfl, rfl, w0⟩ := open_string Tryd.underlying9 (hval 0 9 v0 rfl rfl) h0
  clear hA0 hval0
  simp only [List.append_nil] at hW'
  have hE := err_of_laid hL'
  have hM : MaxCell m W := ⟨by have := hE.1; omega, hm⟩
  refine (unWalk a0 m w0 W hM hE).mono fun e W' ⟨he, bel⟩ => ?_
  subst he
  exact ChangeSpec.post_blind ⟨_, _, _, [], _, [], hW', trodAll_mk1 (shut_bool Tryd.underlying4 _), trodAll_mk1 (shut_string Tryd.underlying9 w0), rfl, bel.frame _, fun h => by cases h⟩
theorem un_row : Rows.FnExactUnQuotedSaid :=
  OpenClaim.holds_of_wide 3 Tryd.f3 rfl rfl rfl rfl rfl rfl rfl ⟨rfl, rfl, rfl, rfl, rfl⟩ rfl rfl rfl rfl rfl (by kernel_rfl) Tryd.func3 (by kernel_rfl)
    (of_decide_eq_true (by kernel_rfl)) (by unfold Func.isWrapper; first | (rw [if_pos (by decide +kernel)]; kernel_rfl) | (rw [if_neg (by decide +kernel)]; exact ⟨rfl, rfl⟩))
    (fun os started H enc _ => unLifted os started H enc)
theorem unQuoted_holds : Rows.FnExactUnQuotedCardSaid :=
  Claim7.holds_tied_plain_at .later [] [.data, .data, .data, .data, .sentinel, .sentinel, .pinned] true (true, "3d4dc0985665d05f429c448103f027db73d3412b10671c44e98e67c5210bcde5") true
    un_row (fun _ h => by cases h) (by kernel_rfl) (fun _ h => by cases h) fnExactUnQuoted_row_tie rfl ⟨rfl, rfl⟩ (by kernel_rfl) rfl
    (fun f fn hf hfn => by
      obtain rfl : f = 3 := Option.some.inj ((show Tryd.prog.funcNamed "loop.example/g00013/laws.FnExactUnQuoted" = some 3 by kernel_rfl).symm.trans hf) |>.symm
      obtain rfl : fn = Tryd.f3 := (Option.some.inj (Tryd.func3.symm.trans hfn)).symm
      exact ⟨by kernel_rfl, fun j t ht => by
        rw [Tryd.params3] at ht
        have hm : t ∈ [9] := by simpa using Array.mem_of_getElem? ht
        have hall : ([9].all fun u => !Tryd.prog.wantsStandIn u) = true := by kernel_rfl
        exact (show Tryd.prog.wantsStandIn t = false by simpa using List.all_eq_true.1 hall t hm)⟩)
    (by kernel_rfl)
#print axioms unQuoted_holds
end Go.Proofs.YtkchnlfedkfpjaaDoor
