/- FnExactWriteWords: its row, its tied card. -/
import Derived.Test.YtgbhckokdjhpjaaDoorRows
import Derived.Test.YtgbhckokdjhpjaaDoorWordsLoops
import Derived.Test.YtgbhckokdjhpjaaDoorWordsImpl
import Derived.Test.YtgbhckokdjhpjaaDoorPointsLaw
import Derived.Test.YtgbhckokdjhpjaaDoorPointsArg
import Derived.Test.YtgbhckokdjhpjaaDoorTie
import Derived.Test.YtgbhckokdjhpjaaDoorCards
import Derived.WalkKit
import Derived.ProofKit
import Derived.OpenShut
import Derived.ShutString
import Derived.ChangeOld
import Derived.Below
import Derived.Handed
import Derived.Lay
import Derived.LaidMore
import Derived.Stop.Joined
import Derived.SevenTiedAt
import Derived.Lib.LaidTab
import Derived.Carry
namespace Go.Proofs.YtgbhckokdjhpjaaDoor
open Go Go.ChangeShapes Go.WideShapes Go.ChangeAt Go.WideMaps Go.WideElems Go.RowKit Go.Lib
theorem own : ownKnob Tryd.prog.godebug = none := by kernel_rfl
theorem laidOut : laidOutB Tryd.prog = true := by kernel_rfl
theorem gDig : Tryd.prog.globalNamed "loop.example/g00013/impl.base64Digits" = some 0 := by kernel_rfl
theorem tDig : (Tryd.prog.globals[0]?).map (·.type) = some 57 := by kernel_rfl
def digs : List Int := [65, 66, 67, 68, 69, 70, 71, 72, 73, 74, 75, 76, 77, 78, 79, 80, 81, 82, 83, 84, 85, 86, 87, 88, 89, 90, 97, 98, 99, 100, 101, 102, 103, 104, 105, 106, 107, 108, 109, 110, 111, 112, 113, 114, 115, 116, 117, 118, 119, 120, 121, 122, 48, 49, 50, 51, 52, 53, 54, 55, 56, 57, 43, 47]
theorem digs_d64 : ∀ j, j < 64 → (digs.map fun z => Value.int .u8 z)[j]? = some (.int .u8 ((Pb.d64 j).toNat : Int)) := by
  intro j hj
  have h : ∀ j : Fin 64, digs[j.val]? = some ((Pb.d64 j.val).toNat : Int) := by decide
  rw [List.getElem?_map, h ⟨j, hj⟩]
  rfl
def laidN : List (String × DataW Unit) := [("loop.example/g00013/impl.base64Digits", Rows.laid_loop_example_g00013_impl_base64Digits)]
theorem door_met (os : Os) (args : Array Value) : laidMetH Tryd.prog laidN ((World.doorLaid Tryd.prog 400 os).forCall (fun _ _ => 0) ⟨#[], args, []⟩).memory :=
  laidMetH_of_parts3 (fuel := 8) (laidMet_of_run' 8 (by kernel_rfl) (by kernel_rfl)) (by kernel_rfl) (by kernel_rfl)
theorem tab_of_var {w : World} {cs : Array Value} (h : w.var? Tryd.prog "loop.example/g00013/impl.base64Digits" = some cs) (hcs : cs.toList = digs.map fun z => Value.int .u8 z) : Tab w := by
  intro j hj
  rw [World.var?_cell gDig h j]
  rw [← Array.getElem?_toList, hcs]
  exact digs_d64 j hj
theorem zero_of_var {w : World} {cs : Array Value} (h : w.var? Tryd.prog "loop.example/g00013/impl.base64Digits" = some cs) : 0 < w.heap.size := by
  unfold World.var? at h
  rw [gDig] at h
  simp only [Option.bind_some] at h
  by_cases hz : 0 < w.heap.size
  · exact hz
  · rw [Array.getElem?_eq_none (by omega)] at h; cases h
theorem tab_of_laid {W : World} (h : laidMetH Tryd.prog laidN W) : Tab W ∧ 0 < W.heap.size := by
  rw [MakeChecks.laidMetH_plain _ _ _ (by kernel_rfl)] at h
  obtain ⟨ps, ⟨g0, t0, cs0, f0, p0, q0, hg0, ht0, hv0, hd0, _, _⟩, _, _⟩ := h
  obtain rfl := Option.some.inj (gDig.symm.trans hg0)
  obtain rfl := Option.some.inj (tDig.symm.trans ht0)
  have hcs := cells_of_tab (zs := digs) Tryd.underlying57 Tryd.underlying5 (by kernel_rfl) (by kernel_rfl) hd0
  exact ⟨tab_of_var hv0 hcs, zero_of_var hv0⟩
/-- A variable of plain data reads behind the call as it read before. -/
theorem vars_on {H : Type} {enc : TypeId × Value → H} {W W' : World} {gs : List (DataW H)} {q : List MemPlace} (hV : DataW.TrodVars enc Tryd.prog W (fun _ => true) ["loop.example/g00013/impl.base64Digits"] gs q) (bel : Below W.heap.size W W') :
    ∃ d, gs = [d] ∧ DataW.TrodVars enc Tryd.prog W' (fun b => decide (b < W.heap.size)) ["loop.example/g00013/impl.base64Digits"] [d] q := by
  obtain ⟨g, t, cs, fuel, d, p, rfl, h1, h2, h3, h4, rfl⟩ := trodVars_one hV
  obtain rfl := Option.some.inj (gDig.symm.trans h1)
  obtain rfl := Option.some.inj (tDig.symm.trans h2)
  have hz := zero_of_var h3
  have hT : DataW.Trod enc Tryd.prog W 0 (fun _ => true) true 57 (.agg cs) d p := ⟨fuel, h4⟩
  have hlt : ∀ x ∈ p, x.block < W.heap.size := DataW.trod_lt fuel _ _ _ h4
  obtain ⟨fuel', h4'⟩ := Below.trod laidOut (by kernel_rfl) (of_decide_eq_true (by kernel_rfl)) hT bel hlt
  exact ⟨d, rfl, trodVars_mk1 gDig tDig (var?_below bel gDig hz h3) h4'⟩
theorem specMany (o : Option Addr) (ps : List Int) (cap : Nat) (w : World) (h : 2000 < ps.length) :
    Calls Tryd.prog 4 #[.slice o ps.length cap] w fun e w' => e = .returned (.string ⟨#[]⟩) ∧ Below w.heap.size w w' := by
  go_enter Tryd.func4, Tryd.ntmps4
  go_wp2
  go_ret
  exact ⟨rfl, Below.refl _ _⟩
theorem implMany (o : Option Addr) (ps : List Int) (cap : Nat) (w : World) (h : 2000 < ps.length) :
    Calls Tryd.prog 6 #[.slice o ps.length cap] w fun e w' => e = .returned (.string ⟨#[]⟩) ∧ Below w.heap.size w w' := by
  go_enter Tryd.func6, Tryd.ntmps6
  go_wp2
  go_ret
  exact ⟨rfl, Below.refl _ _⟩
def wordsB (ps : List Int) : ByteArray := if 2000 < ps.length then ⟨#[]⟩ else ⟨(Pl.words ps).toArray⟩
theorem specAny (o : Option Addr) (ps : List Int) (cap : Nat) (w : World) (hF : Ints w.heap.size w o ps) :
    Calls Tryd.prog 4 #[.slice o ps.length cap] w fun e w' => e = .returned (.string (wordsB ps)) ∧ Below w.heap.size w w' := by
  unfold wordsB
  by_cases h : 2000 < ps.length
  · rw [if_pos h]; exact specMany o ps cap w h
  · rw [if_neg h]; exact specWords o ps cap w hF (by omega)
theorem implAny (o : Option Addr) (ps : List Int) (cap : Nat) (w : World) (hF : Ints w.heap.size w o ps) (hT : Tab w) (hM : MaxL w) (hz : 0 < w.heap.size) :
    Calls Tryd.prog 6 #[.slice o ps.length cap] w fun e w' => e = .returned (.string (wordsB ps)) ∧ Below w.heap.size w w' := by
  unfold wordsB
  by_cases h : 2000 < ps.length
  · rw [if_pos h]; exact implMany o ps cap w h
  · rw [if_neg h]; exact implWords o ps cap w hF (by omega) hT hM hz
set_option maxHeartbeats 1000000 in
theorem wordsWalk (o : Option Addr) (F : List Int) (cap : Nat) (w : World) (hF : Ints w.heap.size w o F) (hlen : F.length ≤ maxLen) (hT : Tab w) (hM : MaxL w) (hz : 0 < w.heap.size) :
    Calls Tryd.prog 3 #[.slice o F.length cap] w fun e w' => e = .returned (.bool true) ∧ Below w.heap.size w w' := by
  unfold maxLen at hlen
  have HT : Hid (Tab w) := hT
  have HM : Hid (MaxL w) := hM
  clear hT hM
  by_cases hm : 1048576 < F.length
  · clear hF
    go_enter Tryd.func3, Tryd.ntmps3
    go_wp2
    go_ret
    exact ⟨rfl, Below.refl _ _⟩
  have hl : F.length ≤ 1048576 := by omega
  have HF := mkHid hF
  clear hF
  have HS := mkHid (fun o cap w hF => specAny o F cap w hF)
  have HI := mkHid (fun o cap w hF hT hM hz => implAny o F cap w hF hT hM hz)
  generalize wordsB F = t at *
  go_enter Tryd.func3, Tryd.ntmps3
  go_wp2_with fail
  refine (lawToInts o F cap _ HF.out hl).mono ?_
  rintro e w2 ⟨rfl, hF2, hb2⟩
  go_wp2_with fail
  refine (HS.out _ _ _ hF2.out).mono ?_
  rintro e w3 ⟨rfl, hb3⟩
  have hb13 := hb2.trans (hb3.mono hb2.size)
  have hF3 := mkHid ((HF.out.below hb13).mono hb13.size)
  go_wp2_with fail
  refine (lawToInts o F cap _ hF3.out hl).mono ?_
  rintro e w4 ⟨rfl, hF4, hb4⟩
  have hb14 := hb13.trans (hb4.mono hb13.size)
  go_wp2_with fail
  refine (HI.out _ _ _ hF4.out (HT.out.on hz hb14) (HM.out.on hb14) (by have := hb14.size; omega)).mono ?_
  rintro e w5 ⟨rfl, hb5⟩
  have hb15 := hb14.trans (hb5.mono hb14.size)
  have hF5 := mkHid ((HF.out.below hb15).mono hb15.size)
  go_wp2_with fail
  refine (lawToInts o F cap _ hF5.out hl).mono ?_
  rintro e w7 ⟨rfl, hF7, hb7⟩
  have hb57 := hb5.trans (hb7.mono hb5.size)
  have hF47 := mkHid ((hF4.out.below hb57).mono hb57.size)
  go_wp2_with fail
  refine (lawEqInts _ _ F _ _ _ hF47.out hF7.out hl).mono ?_
  rintro e w8 ⟨rfl, hb8⟩
  go_wp2
  go_ret
  have a4 := hb15.trans (hb7.mono hb15.size)
  exact ⟨rfl, a4.trans (hb8.mono a4.size)⟩
set_option maxRecDepth 100000 in
theorem wordsLifted (os : Os) (started : os.Started) (H : Type) (enc : TypeId × Value → H) :
    ReturnsInHanded {} Tryd.checked os 3 .any (fun w args => (Rows.fnExactWriteWordsSpec.pre enc Tryd.prog Tryd.f3 [] false w args ∧ laidMetH Tryd.prog laidN w) ∧ sizedMet enc Tryd.prog Tryd.f3 (OpenSpec.ofChange Rows.fnExactWriteWordsSpec) false w args)
      (Rows.fnExactWriteWordsSpec.post enc Tryd.prog Tryd.f3 false true false false) := by
  refine returnsInHanded_of_calls (C := Tryd.checked) own started (by kernel_rfl)
    (ChangeSpec.witness_shaped (enc := enc) (C := Tryd.checked) (os := os) (X := fun w _ => laidMetH Tryd.prog laidN w) false (World.doorLaid Tryd.prog 400 os) #[.slice none 0 0] 8 rfl (World.shaped_of_RefB (by kernel_rfl) (by kernel_rfl)) (by kernel_rfl) (by kernel_rfl) (by kernel_rfl) (door_met os _)) ?_
  intro w tape inp _ hsh _ hok hpre _
  obtain ⟨_, _, _, fn', hfn', _, _, _, _, hval0⟩ := hok
  obtain rfl : fn' = Tryd.f3 := Option.some.inj (hfn'.symm.trans Tryd.func3)
  obtain ⟨⟨⟨ds, gs, before, hw, -⟩, hL0⟩, -⟩ := hpre
  have hW := DataW.Whole.of_heap (w' := w.forCall tape inp) (by rfl) hw
  have hL := hL0.of_heap (w' := w.forCall tape inp) (by rfl)
  have hm : MaxL (w.forCall tape inp) := Tryd.laysM144.s1_3 _ hsh
  generalize w.forCall tape inp = W at hsh hval0 hW hm hL ⊢
  generalize inp.args = args at hval0 hW ⊢
  have hval : ∀ (j : Nat) t v, Tryd.f3.params[j]? = some t → args[j]? = some v → Value.okWide Tryd.prog W .any w.heap.size t v := hval0
  have hW' := hW
  obtain ⟨p, q, hA0, hV, rfl, hfz, hnd⟩ := hW
  have hA : DataW.TrodAll enc Tryd.prog W 0 (fun _ => true) true Tryd.f3.params.toList args.toList ds p := hA0
  rw [Tryd.params3] at hA hval
  obtain ⟨v0, d0, rfl, rfl, h0⟩ := trodAll_one hA
  have hlt : ∀ x ∈ p, x.block < W.heap.size := by obtain ⟨fuel, hx⟩ := h0; exact DataW.trod_lt fuel _ _ _ hx
  obtain ⟨o, F, cap, rfl, hF, hlen⟩ := open_points Tryd.underlying22 Tryd.underlying2 (by kernel_rfl) (hval 0 22 v0 rfl rfl) h0
  obtain ⟨hTab, hz⟩ := tab_of_laid hL
  clear hA0 hval0
  refine (wordsWalk o F cap W hF hlen hTab hm hz).mono fun e W' ⟨he, bel⟩ => ?_
  subst he
  obtain ⟨d, rfl, hV'⟩ := vars_on hV bel
  exact ChangeSpec.post_blind ⟨_, _, _, [], _, q, hW', trodAll_mk1 (shut_bool Tryd.underlying4 _), trodAll_mk1 (Below.trod laidOut (by kernel_rfl) (of_decide_eq_true (by kernel_rfl)) h0 bel hlt), hV', bel.frame _, fun h => by cases h⟩

theorem words_row : Rows.FnExactWriteWordsSaid :=
  OpenClaim.holds_of_wide 3 Tryd.f3 rfl rfl rfl rfl rfl rfl rfl ⟨rfl, rfl, rfl, rfl, rfl⟩ rfl rfl rfl rfl rfl (by kernel_rfl) Tryd.func3 (by kernel_rfl)
    (of_decide_eq_true (by kernel_rfl)) (by unfold Func.isWrapper; first | (rw [if_pos (by decide +kernel)]; kernel_rfl) | (rw [if_neg (by decide +kernel)]; exact ⟨rfl, rfl⟩))
    (fun os started H enc _ => wordsLifted os started H enc)
theorem words_holds : Rows.FnExactWriteWordsCardSaid :=
  Claim7.holds_tied_plain_at .later [] [.data] true (true, "63a6a0a236d5e3d15e4e83bcad62b8ba546f08b77f5d11f4920d08b9dd33683f") false
    words_row (fun _ h => by cases h) (by kernel_rfl) (fun _ h => by cases h) fnExactWriteWords_row_tie rfl ⟨rfl, rfl⟩ (by kernel_rfl) rfl
    (fun f fn hf hfn => by
      obtain rfl : f = 3 := Option.some.inj ((show Tryd.prog.funcNamed "loop.example/g00013/laws.FnExactWriteWords" = some 3 by kernel_rfl).symm.trans hf) |>.symm
      obtain rfl : fn = Tryd.f3 := (Option.some.inj (Tryd.func3.symm.trans hfn)).symm
      exact ⟨by kernel_rfl, fun j t ht => by
        rw [Tryd.params3] at ht
        have hm : t ∈ [22] := by simpa using Array.mem_of_getElem? ht
        have hall : ([22].all fun u => !Tryd.prog.wantsStandIn u) = true := by kernel_rfl
        exact (show Tryd.prog.wantsStandIn t = false by simpa using List.all_eq_true.1 hall t hm)⟩)
    (by kernel_rfl)
#print axioms words_holds
end Go.Proofs.YtgbhckokdjhpjaaDoor
