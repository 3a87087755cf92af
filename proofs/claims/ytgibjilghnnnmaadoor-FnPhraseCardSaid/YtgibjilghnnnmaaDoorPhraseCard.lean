
/- FnPhrase: its row, its tied card. -/
import Derived.Test.YtgibjilghnnnmaaDoorRows
import Derived.Test.YtgibjilghnnnmaaDoorPhraseWalk
import Derived.WalkKit
import Derived.ProofKit
import Derived.OpenShut
import Derived.ShutString
import Derived.ChangeOld
import Derived.ChangeSlices
import Derived.Below
import Derived.Carry
import Derived.Handed
import Derived.Lay
import Derived.Test.YtgibjilghnnnmaaDoorTie
import Derived.Test.YtgibjilghnnnmaaDoorCards
import Derived.SevenTiedAt
namespace Go.Proofs.YtgibjilghnnnmaaDoor
open Go Go.ChangeShapes Go.WideShapes Go.ChangeAt Go.WideMaps Go.WideElems Go.RowKit
theorem wf8 (n : Int) (h : (Lit.int .u8 n).wf = true) : 0 ≤ n ∧ n < 256 := by
  have h' : (decide (IntKind.u8.min ≤ n) && decide (n ≤ IntKind.u8.max)) = true := h
  simp only [Bool.and_eq_true, decide_eq_true_eq] at h'
  have e0 : IntKind.u8.min = 0 := by decide
  have e1 : IntKind.u8.max = 255 := by decide
  omega
/-- Bytes as an argument. -/
theorem open_code {H : Type} {enc : TypeId × Value → H} {P : Program} {W : World} {sp : Nat → Bool} {t e : TypeId} {v : Value} {d : DataW H} {ps : List MemPlace}
    (ht : P.underlying t = some (.slice e)) (he : P.underlying e = some (.int .u8)) (ce : P.cellsOf e = 1) {r : Reach} {b0 : Nat} (hval : Value.okWide P W r b0 t v) (h : DataW.Trod enc P W 0 sp true t v d ps) :
    ∃ o c cap, v = .slice o c.length cap ∧ Code W.heap.size W o c ∧ c.length ≤ maxLen := by
  obtain ⟨a, len, cap, rfl⟩ := okWide_slice ht hval
  obtain ⟨fuel, hx⟩ := h
  rcases open_ints ht he ce hx with ⟨hc, -⟩ | ⟨a', len', cap', zs, hc, -, hl, hm, hz, -, hcell, hwf⟩
  · simp [Value.cells] at hc
    obtain ⟨rfl, rfl, rfl⟩ := hc
    exact ⟨none, [], 0, rfl, fun i hi => absurd hi (Nat.not_lt_zero _), Nat.zero_le _⟩
  · simp [Value.cells] at hc
    obtain ⟨rfl, rfl, rfl⟩ := hc
    have hlz : len ≤ zs.length := by rw [hz]; split <;> omega
    refine ⟨some a', (zs.take len).map fun n => UInt8.ofNat n.toNat, cap, by rw [List.length_map, List.length_take]; simp; omega, ?_, by rw [List.length_map, List.length_take]; omega⟩
    intro i hi
    rw [List.length_map, List.length_take] at hi
    have hc := hcell i (by omega)
    refine ⟨a', rfl, ?_, ?_⟩
    · have hlt : (a'.add i).block < W.heap.size := World.block_lt_of_cell? _ _ hc
      rw [← addr_block a' i]; exact hlt
    · have hw := wf8 zs[i] (hwf _ (List.getElem_mem (by omega)))
      have e : (((zs.take len).map fun n => UInt8.ofNat n.toNat)[i]'(by rw [List.length_map, List.length_take]; omega)).toNat = zs[i].toNat := by
        rw [List.getElem_map, List.getElem_take]
        simp [UInt8.toNat_ofNat']
        omega
      rw [e, hc, List.getD_eq_getElem?_getD, List.getElem?_eq_getElem (by omega)]
      show some (Value.int .u8 zs[i]) = _
      congr 2
      omega
namespace fnPhrase
theorem ownD : ownKnob Tryd.prog.godebug = none := by kernel_rfl
theorem laidOut : laidOutB Tryd.prog = true := by kernel_rfl
theorem bigWalk (o1 : Option Addr) (m cp1 : Nat) (w : World) (h : 1048576 < m) :
    Calls Tryd.prog 3 #[.slice o1 m cp1] w fun e w' => e = .returned (.bool true) ∧ Below w.heap.size w w' := by
  go_enter Tryd.func3, Tryd.ntmps3
  go_wp2
  go_ret
  exact ⟨rfl, Below.refl _ _⟩
theorem walk (o1 : Option Addr) (c : List UInt8) (cp1 : Nat) (m : Int) (w : World) (hc : Code w.heap.size w o1 c) (hm : w.cell? ⟨0, 0, none⟩ = some (.int .i64 m)) :
    Calls Tryd.prog 3 #[.slice o1 c.length cp1] w fun e w' => e = .returned (.bool true) ∧ Below w.heap.size w w' := by
  by_cases h : 1048576 < c.length
  · exact bigWalk o1 _ cp1 w h
  · exact phraseWalk o1 c cp1 m w hc (by omega) hm
def laidD : List (String × DataW Unit) := [("unicode/utf8.acceptRanges", Rows.laid_unicode_utf8_acceptRanges), ("unicode/utf8.first", Rows.laid_unicode_utf8_first)]
set_option maxRecDepth 100000 in
theorem lifted (os : Os) (started : os.Started) (H : Type) (enc : TypeId × Value → H) :
    ReturnsInHanded {} Tryd.checked os 3 .any (fun w args => (Rows.fnPhraseSpec.pre enc Tryd.prog Tryd.f3 [] false w args ∧ laidMetH Tryd.prog laidD w) ∧ sizedMet enc Tryd.prog Tryd.f3 (OpenSpec.ofChange Rows.fnPhraseSpec) false w args)
      (Rows.fnPhraseSpec.post enc Tryd.prog Tryd.f3 false true false false) := by
  refine returnsInHanded_of_calls (C := Tryd.checked) ownD started (by kernel_rfl)
    (ChangeSpec.witness_shaped (enc := enc) (C := Tryd.checked) (os := os) (X := fun w _ => laidMetH Tryd.prog laidD w) false (World.laidAll Tryd.prog os laidD) #[.slice none 0 0] 8 (World.laidAll_os _ _ _)
      (World.shaped_of_ZipB (by kernel_rfl) (by kernel_rfl)) (by kernel_rfl) (by kernel_rfl) (by kernel_rfl)
      (by rw [MakeChecks.laidMetH_plain _ _ _ (by kernel_rfl)]; exact laidMet_laidAll _ (by kernel_rfl) (by kernel_rfl))) ?_
  intro w tape inp _ hsh _ hok hpre _
  obtain ⟨_, _, _, fn', hfn', _, _, _, _, hval0⟩ := hok
  obtain rfl : fn' = Tryd.f3 := Option.some.inj (hfn'.symm.trans Tryd.func3)
  obtain ⟨⟨⟨ds, gs, before, hw, -⟩, -⟩, -⟩ := hpre
  have hW := DataW.Whole.of_heap (w' := w.forCall tape inp) (by rfl) hw
  obtain ⟨m, hm⟩ := Tryd.laysM146.s1_3 _ hsh
  generalize w.forCall tape inp = W at hsh hval0 hW hm ⊢
  generalize inp.args = args at hval0 hW ⊢
  have hval : ∀ (j : Nat) t v, Tryd.f3.params[j]? = some t → args[j]? = some v → Value.okWide Tryd.prog W .any w.heap.size t v := hval0
  have hW' := hW
  obtain ⟨p, q, hA0, hV, rfl, hfz, hnd⟩ := hW
  have hA : DataW.TrodAll enc Tryd.prog W 0 (fun _ => true) true Tryd.f3.params.toList args.toList ds p := hA0
  rw [Tryd.params3] at hA hval
  obtain ⟨v0, d0, rfl, rfl, h0⟩ := trodAll_one hA
  obtain ⟨rfl, rfl⟩ := trodVars_none hV
  have hlt0 : ∀ x ∈ p, x.block < W.heap.size := by obtain ⟨fuel, hx⟩ := h0; exact DataW.trod_lt fuel _ _ _ hx
  obtain ⟨o1, c1, cap1, rfl, hC1, -⟩ := open_code Tryd.underlying22 Tryd.underlying5 (by kernel_rfl) (hval 0 22 v0 rfl rfl) h0
  clear hA0 hval0
  simp only [List.append_nil] at hW'
  refine (walk o1 c1 cap1 m W hC1 hm).mono fun e W' ⟨he, bel⟩ => ?_
  subst he
  exact ChangeSpec.post_blind ⟨_, _, _, [], _, [], hW', trodAll_mk1 (shut_bool Tryd.underlying4 _), (trodAll_mk1 (Below.trod laidOut (by kernel_rfl) (of_decide_eq_true (by kernel_rfl)) h0 bel hlt0)), rfl, bel.frame _, fun h => by cases h⟩

theorem row : Rows.FnPhraseSaid :=
  OpenClaim.holds_of_wide 3 Tryd.f3 rfl rfl rfl rfl rfl rfl rfl ⟨rfl, rfl, rfl, rfl, rfl⟩ rfl rfl rfl rfl rfl (by kernel_rfl) Tryd.func3 (by kernel_rfl)
    (of_decide_eq_true (by kernel_rfl)) (by unfold Func.isWrapper; first | (rw [if_pos (by decide +kernel)]; kernel_rfl) | (rw [if_neg (by decide +kernel)]; exact ⟨rfl, rfl⟩))
    (fun os started H enc _ => lifted os started H enc)
theorem holds : Rows.FnPhraseCardSaid :=
  Claim7.holds_tied_plain_at .later [] [.data, .pinned] true (true, "d1f9faaf821d07977e8c7a9295b02ea4de1d84d35716443efeb336026b33d4c7") true
    row (fun _ h => by cases h) (by kernel_rfl) (fun _ h => by cases h) fnPhrase_row_tie rfl ⟨rfl, rfl⟩ (by kernel_rfl) rfl
    (fun f fn hf hfn => by
      obtain rfl : f = 3 := Option.some.inj ((show Tryd.prog.funcNamed "loop.example/g00013/laws.FnPhrase" = some 3 by kernel_rfl).symm.trans hf) |>.symm
      obtain rfl : fn = Tryd.f3 := (Option.some.inj (Tryd.func3.symm.trans hfn)).symm
      exact ⟨by kernel_rfl, fun j t ht => by
        rw [Tryd.params3] at ht
        have hm : t ∈ [22] := by simpa using Array.mem_of_getElem? ht
        have hall : ([22].all fun u => !Tryd.prog.wantsStandIn u) = true := by kernel_rfl
        exact (show Tryd.prog.wantsStandIn t = false by simpa using List.all_eq_true.1 hall t hm)⟩)
    (by kernel_rfl)
end fnPhrase
theorem phrase_law_holds : Rows.FnPhraseCardSaid := fnPhrase.holds
#print axioms phrase_law_holds
end Go.Proofs.YtgibjilghnnnmaaDoor
