/- FnExactWriteBox: its row, its tied card. -/
import Derived.Test.YtgbibdjekaffkaaDoorRows
import Derived.Test.YtgbibdjekaffkaaDoorWriteBox
import Derived.WalkKit
import Derived.ProofKit
import Derived.OpenShut
import Derived.ShutString
import Derived.ChangeOld
import Derived.Below
import Derived.Handed
import Derived.Lib.SmallJoins
import Derived.Carry
import Derived.Lay
import Derived.Test.YtgbibdjekaffkaaDoorTie
import Derived.Test.YtgbibdjekaffkaaDoorCards
import Derived.SevenTiedAt
namespace Go.Proofs.YtgbibdjekaffkaaDoor
open Go.ChangeMaps (open_string shut_string)
open Go Go.ChangeShapes Go.WideShapes Go.ChangeAt Go.WideMaps Go.WideElems Go.RowKit
theorem laidOut_box : laidOutB Tryd.prog = true := by kernel_rfl
theorem own_box : ownKnob Tryd.prog.godebug = none := by kernel_rfl
set_option maxHeartbeats 1000000 in
theorem boxWalk (n l d : ByteArray) (m : Int) (wn : n.size ≤ maxLen) (wl : l.size ≤ maxLen) (wd : d.size ≤ maxLen) (w : World) (hm : w.cell? ⟨0, 0, none⟩ = some (.int .i64 m)) :
    Calls Tryd.prog 6 #[box3 n l d] w fun e w' => e = .returned (.bool true) ∧ Below w.heap.size w w' := by
  have hlt := bcell_lt hm
  have hz := fun w => lawSz n l d w wn wl wd
  have hto := fun w => lawTo n l d w
  have HI := (show Hid (∀ (w : World), n.size ≤ 1048576 → l.size ≤ 1048576 → d.size ≤ 1048576 → w.cell? ⟨0, 0, none⟩ = some (.int .i64 m) → Calls Tryd.prog 17 #[box3 n l d] w fun e w' => e = .returned (.string (boxT n l d)) ∧ Below w.heap.size w w') from fun w a b c hm => implBox n l d m w (by omega) (by omega) (by omega) hm)
  have HS := (show Hid (∀ (w : World), n.size ≤ 1048576 → l.size ≤ 1048576 → d.size ≤ 1048576 → Calls Tryd.prog 16 #[box3 n l d] w fun e w' => e = .returned (.string (boxT n l d)) ∧ Below w.heap.size w w') from fun w a b c => specBox n l d w (by omega) (by omega) (by omega))
  have Hm := (show Hid (w.cell? ⟨0, 0, none⟩ = some (.int .i64 m)) from hm)
  clear hm wn wl wd
  have hbA : ∀ b, Below w.heap.size w (w.alloc b) := fun b => (Below.refl _ _).alloc (Nat.le_refl _) _
  have Hb0 : Hid (∀ (w2 : World), Below (w.alloc (.cells #[.string n, .string l, .string d] 26)).heap.size (w.alloc (.cells #[.string n, .string l, .string d] 26)) w2 → w2.cell? ⟨w.heap.size, 0, none⟩ = some (.string n) ∧ w2.cell? ⟨w.heap.size, 1, none⟩ = some (.string l) ∧ w2.cell? ⟨w.heap.size, 2, none⟩ = some (.string d)) := show ∀ (w2 : World), _ from by
    intro w2 hb
    refine ⟨(hb.cell (p := ⟨w.heap.size, 0, none⟩) (by simp)).trans ?_, (hb.cell (p := ⟨w.heap.size, 1, none⟩) (by simp)).trans ?_, (hb.cell (p := ⟨w.heap.size, 2, none⟩) (by simp)).trans ?_⟩ <;> simp
  have Hz := (show Hid _ from hz)
  have Hto := (show Hid _ from hto)
  clear hz hto
  go_enter Tryd.func6, Tryd.ntmps6
  go_wp2_with fail
  refine (Hz.out _).mono ?_
  rintro e w1 ⟨r, rfl, hr, hb1⟩
  rcases hr with rfl | ⟨hr, zn, zl, zd⟩
  · go_wp2
    go_ret
    exact ⟨rfl, (hbA _).trans (hb1.mono (hbA _).size)⟩
  · obtain ⟨c0, c1, c2⟩ := Hb0.out _ hb1
    have hs := HS.out
    have hi := HI.out
    clear HS HI
    have HS := (show Hid _ from fun w => hs w zn zl zd)
    have HI := (show Hid _ from fun w => hi w zn zl zd)
    clear hs hi zn zl zd
    go_wp2_with fail
    refine (Hto.out _).mono ?_
    rintro e w2 ⟨rfl, hb2⟩
    go_wp2_with fail
    refine (HS.out _).mono ?_
    rintro e w3 ⟨rfl, hb3⟩
    have b2 := hb1.trans (hb2.mono hb1.size)
    have b3 := b2.trans (hb3.mono b2.size)
    obtain ⟨d0, d1, d2⟩ := Hb0.out _ b3
    clear b2
    go_wp2_with fail
    refine (Hto.out _).mono ?_
    rintro e w4 ⟨rfl, hb4⟩
    have b4 := b3.trans (hb4.mono b3.size)
    go_wp2_with fail
    refine (HI.out _ ((b4.cell (p := ⟨0, 0, none⟩) (Nat.lt_of_lt_of_le hlt (hbA _).size)).trans (cell_alloc _ Hm.out))).mono ?_
    rintro e w5 ⟨rfl, hb5⟩
    go_wp2
    go_ret
    have b5 := b4.trans (hb5.mono b4.size)
    exact ⟨rfl, (hbA _).trans (b5.mono (hbA _).size)⟩
def laid_box : List (String × DataW Unit) := [("unicode/utf8.acceptRanges", Rows.laid_unicode_utf8_acceptRanges), ("unicode/utf8.first", Rows.laid_unicode_utf8_first)]
set_option maxRecDepth 100000 in
theorem boxLifted (os : Os) (started : os.Started) (H : Type) (enc : TypeId × Value → H) :
    ReturnsInHanded {} Tryd.checked os 6 .any (fun w args => (Rows.fnExactWriteBoxSpec.pre enc Tryd.prog Tryd.f6 [] false w args ∧ laidMetH Tryd.prog laid_box w) ∧ sizedMet enc Tryd.prog Tryd.f6 (OpenSpec.ofChange Rows.fnExactWriteBoxSpec) false w args)
      (Rows.fnExactWriteBoxSpec.post enc Tryd.prog Tryd.f6 false true false false) := by
  refine returnsInHanded_of_calls (C := Tryd.checked) own_box started (by kernel_rfl)
    (ChangeSpec.witness_shaped (enc := enc) (C := Tryd.checked) (os := os) (X := fun w _ => laidMetH Tryd.prog laid_box w) false (World.laidAll Tryd.prog os laid_box) #[box3 ByteArray.empty ByteArray.empty ByteArray.empty] 8 (World.laidAll_os _ _ _)
      (World.shaped_of_ZipB (by kernel_rfl) (by kernel_rfl)) (by kernel_rfl) (by kernel_rfl) (by kernel_rfl)
      (by rw [MakeChecks.laidMetH_plain _ _ _ (by kernel_rfl)]; exact laidMet_laidAll _ (by kernel_rfl) (by kernel_rfl))) ?_
  intro w tape inp _ hsh _ hok hpre _
  obtain ⟨_, _, _, fn', hfn', _, _, _, _, hval0⟩ := hok
  obtain rfl : fn' = Tryd.f6 := Option.some.inj (hfn'.symm.trans Tryd.func6)
  obtain ⟨⟨⟨ds, gs, before, hw, -⟩, -⟩, -⟩ := hpre
  have hW := DataW.Whole.of_heap (w' := w.forCall tape inp) (by rfl) hw
  obtain ⟨m, hm⟩ := Tryd.laysM146.s1_3 _ hsh
  generalize w.forCall tape inp = W at hsh hval0 hW hm ⊢
  generalize inp.args = args at hval0 hW ⊢
  have hval : ∀ (j : Nat) t v, Tryd.f6.params[j]? = some t → args[j]? = some v → Value.okWide Tryd.prog W .any w.heap.size t v := hval0
  have hW' := hW
  obtain ⟨p, q, hA0, hV, rfl, hfz, hnd⟩ := hW
  have hA : DataW.TrodAll enc Tryd.prog W 0 (fun _ => true) true Tryd.f6.params.toList args.toList ds p := hA0
  rw [Tryd.params6] at hA hval
  obtain ⟨v0, d0, rfl, rfl, h0⟩ := trodAll_one hA
  obtain ⟨rfl, rfl⟩ := trodVars_none hV
  have hlt : ∀ x ∈ p, x.block < W.heap.size := by obtain ⟨fuel, hx⟩ := h0; exact DataW.trod_lt fuel _ _ _ hx
  obtain ⟨c0, c1, c2, y0, y1, y2, k, rfl, -, -, hy0, hy1, hy2⟩ := Go.Joins.open_agg3 Tryd.underlying26 (by kernel_rfl) (by kernel_rfl) (hval 0 26 v0 rfl rfl) h0
  obtain ⟨n, e0, -, wn⟩ := DataW.trod_string (show Tryd.prog.underlying _ = some .string from Tryd.underlying9) hy0
  obtain ⟨l, e1, -, wl⟩ := DataW.trod_string (show Tryd.prog.underlying _ = some .string from Tryd.underlying9) hy1
  obtain ⟨d, e2, -, wd⟩ := DataW.trod_string (show Tryd.prog.underlying _ = some .string from Tryd.underlying9) hy2
  simp only [List.cons.injEq, and_true] at e0 e1 e2
  subst e0 e1 e2
  clear hA0 hval0
  simp only [List.append_nil] at hW'
  refine (boxWalk n l d m wn wl wd W hm).mono fun e W' ⟨he, bel⟩ => ?_
  subst he
  exact ChangeSpec.post_blind ⟨_, _, _, [], _, [], hW', trodAll_mk1 (shut_bool Tryd.underlying4 _), trodAll_mk1 (Below.trod laidOut_box (by kernel_rfl) (of_decide_eq_true (by kernel_rfl)) h0 bel hlt), rfl, bel.frame _, fun h => by cases h⟩

theorem box_row : Rows.FnExactWriteBoxSaid :=
  OpenClaim.holds_of_wide 6 Tryd.f6 rfl rfl rfl rfl rfl rfl rfl ⟨rfl, rfl, rfl, rfl, rfl⟩ rfl rfl rfl rfl rfl (by kernel_rfl) Tryd.func6 (by kernel_rfl)
    (of_decide_eq_true (by kernel_rfl)) (by unfold Func.isWrapper; first | (rw [if_pos (by decide +kernel)]; kernel_rfl) | (rw [if_neg (by decide +kernel)]; exact ⟨rfl, rfl⟩))
    (fun os started H enc _ => boxLifted os started H enc)
theorem box_holds : Rows.FnExactWriteBoxCardSaid :=
  Claim7.holds_tied_plain_at .later [] [.data, .pinned] true (true, "3f55aa58dc35878d4019642cf43af42687aa1d864515e73fb64c2918ca1f1ea5") false
    box_row (fun _ h => by cases h) (by kernel_rfl) (fun _ h => by cases h) fnExactWriteBox_row_tie rfl ⟨rfl, rfl⟩ (by kernel_rfl) rfl
    (fun f fn hf hfn => by
      obtain rfl : f = 6 := Option.some.inj ((show Tryd.prog.funcNamed "loop.example/g00013/laws.FnExactWriteBox" = some 6 by kernel_rfl).symm.trans hf) |>.symm
      obtain rfl : fn = Tryd.f6 := (Option.some.inj (Tryd.func6.symm.trans hfn)).symm
      exact ⟨by kernel_rfl, fun j t ht => by
        rw [Tryd.params6] at ht
        have hm : t ∈ [26] := by simpa using Array.mem_of_getElem? ht
        have hall : ([26].all fun u => !Tryd.prog.wantsStandIn u) = true := by kernel_rfl
        exact (show Tryd.prog.wantsStandIn t = false by simpa using List.all_eq_true.1 hall t hm)⟩)
    (by kernel_rfl)
#print axioms box_holds
end Go.Proofs.YtgbibdjekaffkaaDoor
