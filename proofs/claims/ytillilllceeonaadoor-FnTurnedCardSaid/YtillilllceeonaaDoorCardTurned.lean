
/- FnTurned: its row, its tied card. -/
import Derived.Test.YtillilllceeonaaDoorRows
import Derived.Test.YtillilllceeonaaDoorCodeArg
import Derived.LaidLaws
import Derived.LaidSub
import Derived.Stop.LaidErr
import Derived.Test.YtillilllceeonaaDoorTie
import Derived.Test.YtillilllceeonaaDoorCards
import Derived.WalkKit
import Derived.ProofKit
import Derived.OpenShut
import Derived.ChangeOld
import Derived.Below
import Derived.Handed
import Derived.Lay
import Derived.SevenTiedAt
namespace Go.Proofs.YtillilllceeonaaDoor
open Go Go.ChangeShapes Go.WideShapes Go.ChangeAt Go.WideMaps Go.WideElems Go.RowKit Go.Lib
set_option maxRecDepth 20000 in
theorem own : ownKnob Tryd.prog.godebug = none := by kernel_rfl
set_option maxRecDepth 20000 in
theorem laidOut : laidOutB Tryd.prog = true := by kernel_rfl
def laidT : List (String × DataW Unit) := [("loop.example/g00013/impl.errShort", Rows.laid_loop_example_g00013_impl_errShort), ("loop.example/g00013/impl.errSum", Rows.laid_loop_example_g00013_impl_errSum), ("loop.example/g00013/impl.errBehind", Rows.laid_loop_example_g00013_impl_errBehind)]
set_option maxRecDepth 20000 in
theorem gShort : Tryd.prog.globalNamed "loop.example/g00013/impl.errShort" = some 1 := by kernel_rfl
set_option maxRecDepth 20000 in
theorem gSum : Tryd.prog.globalNamed "loop.example/g00013/impl.errSum" = some 0 := by kernel_rfl
set_option maxRecDepth 20000 in
theorem gBehind : Tryd.prog.globalNamed "loop.example/g00013/impl.errBehind" = some 2 := by kernel_rfl
set_option maxRecDepth 20000 in
theorem tShort : (Tryd.prog.globals[1]?).map (·.type) = some 42 := by kernel_rfl
set_option maxRecDepth 20000 in
theorem tSum : (Tryd.prog.globals[0]?).map (·.type) = some 42 := by kernel_rfl
set_option maxRecDepth 20000 in
theorem tBehind : (Tryd.prog.globals[2]?).map (·.type) = some 42 := by kernel_rfl
set_option maxRecDepth 20000 in
theorem starE : "*" ++ "errors.errorString" = "*errors.errorString" := by decide
set_option maxRecDepth 20000 in
theorem rowE (u : TypeId) (h : Tryd.prog.typeName? 3 u = some "*errors.errorString") : u = 132 :=
  typeName_ptr_named (nm := "errors.errorString") (by rw [starE]; kernel_rfl) (by kernel_rfl) (by decide) u (by rw [starE]; exact h)
set_option maxRecDepth 20000 in
theorem cellsE : Tryd.prog.cellsOf 159 = 1 := by kernel_rfl
set_option maxRecDepth 20000 in
theorem cellsT : Tryd.prog.cellsOf 9 = 1 := by kernel_rfl
set_option maxRecDepth 20000 in
theorem laidT_gives {W : World} (h : laidMetH Tryd.prog laidT W) : (∃ a, W.cell? ⟨1, 0, none⟩ = some (.iface 132 (.pointer (some a)))) ∧ ∃ et ep, W.cell? ⟨0, 0, none⟩ = some (.iface et ep) := by
  rw [MakeChecks.laidMetH_plain _ _ _ (by kernel_rfl)] at h
  obtain ⟨a, s, h1, -⟩ := laid_sentinel (P := Tryd.prog) h gShort tShort Tryd.underlying42 rowE Tryd.underlying132 Tryd.underlying159 rfl rfl Tryd.underlying9 cellsE cellsT
  obtain ⟨b, s2, h2, -⟩ := laid_sentinel (P := Tryd.prog) h.tail gSum tSum Tryd.underlying42 rowE Tryd.underlying132 Tryd.underlying159 rfl rfl Tryd.underlying9 cellsE cellsT
  exact ⟨⟨a, by simpa using World.var?_cell gShort h1 0⟩, _, _, by simpa using World.var?_cell gSum h2 0⟩
set_option maxRecDepth 20000 in
theorem lt_of_varT {W : World} {n : String} {g : Nat} {cs : Array Value} (hg : Tryd.prog.globalNamed n = some g) (h : W.var? Tryd.prog n = some cs) : g < W.heap.size := by
  unfold World.var? at h
  simp only [hg, Option.bind_some] at h
  rcases Nat.lt_or_ge g W.heap.size with h' | h'
  · exact h'
  · simp [Array.getElem?_eq_none h'] at h
set_option maxRecDepth 20000 in
theorem var?_belowT {W W' : World} {n : String} {g : Nat} {cs : Array Value} (bel : Below W.heap.size W W') (hg : Tryd.prog.globalNamed n = some g) (hz : g < W.heap.size) (h : W.var? Tryd.prog n = some cs) : W'.var? Tryd.prog n = some cs := by
  unfold World.var? at h ⊢
  simp only [hg, Option.bind_some] at h ⊢
  rw [bel.block g hz]
  exact h
set_option maxRecDepth 20000 in
theorem varsE_on {H : Type} {enc : TypeId × Value → H} {W W' : World} (bel : Below W.heap.size W W') : ∀ (ns : List String) (gs : List (DataW H)) (q : List MemPlace), (∀ n ∈ ns, ∃ g, Tryd.prog.globalNamed n = some g ∧ (Tryd.prog.globals[g]?).map (·.type) = some 42) → DataW.TrodVars enc Tryd.prog W (fun _ => true) ns gs q → DataW.TrodVars enc Tryd.prog W' (fun b => decide (b < W.heap.size)) ns gs q
  | [], [], _, _, h => h
  | [], _ :: _, _, _, h => h.elim
  | _ :: _, [], _, _, h => h.elim
  | n :: ns, d :: ds, q, hn, h => by
    obtain ⟨g, t, cs, f, p, q', h1, h2, h3, h4, h5, rfl⟩ := h
    obtain ⟨g', e1, e2⟩ := hn n List.mem_cons_self
    obtain rfl := Option.some.inj (e1.symm.trans h1)
    obtain rfl := Option.some.inj (e2.symm.trans h2)
    have hT : DataW.Trod enc Tryd.prog W 0 (fun _ => true) true 42 (.agg cs) d p := ⟨f, h4⟩
    obtain ⟨f', h4'⟩ := Below.trod laidOut (by kernel_rfl) (of_decide_eq_true (by kernel_rfl)) hT bel (DataW.trod_lt f _ _ _ h4)
    exact ⟨g', _, cs, f', p, q', e1, e2, var?_belowT bel e1 (lt_of_varT e1 h3) h3, h4', varsE_on bel ns ds q' (fun m hm => hn m (List.mem_cons_of_mem _ hm)) h5, rfl⟩
set_option maxRecDepth 20000 in
theorem varT_on {H : Type} {enc : TypeId × Value → H} {W W' : World} {gs : List (DataW H)} {q : List MemPlace} (hV : DataW.TrodVars enc Tryd.prog W (fun _ => true) ["loop.example/g00013/impl.errSum", "loop.example/g00013/impl.errShort", "loop.example/g00013/impl.errBehind"] gs q) (bel : Below W.heap.size W W') :
    ∃ d0 d1 d2, gs = [d0, d1, d2] ∧ DataW.TrodVars enc Tryd.prog W' (fun b => decide (b < W.heap.size)) ["loop.example/g00013/impl.errSum", "loop.example/g00013/impl.errShort", "loop.example/g00013/impl.errBehind"] [d0, d1, d2] q := by
  match gs, hV with
  | [d0, d1, d2], hV =>
    refine ⟨d0, d1, d2, rfl, varsE_on bel _ _ _ ?_ hV⟩
    intro n hn
    simp only [List.mem_cons, List.not_mem_nil, or_false] at hn
    rcases hn with rfl | rfl | rfl
    · exact ⟨_, gSum, tSum⟩
    · exact ⟨_, gShort, tShort⟩
    · exact ⟨_, gBehind, tBehind⟩
  | [], hV => exact hV.elim
  | [_], hV => obtain ⟨_, _, _, _, _, _, _, _, _, _, h, _⟩ := hV; exact h.elim
  | [_, _], hV => obtain ⟨_, _, _, _, _, _, _, _, _, _, ⟨_, _, _, _, _, _, _, _, _, _, h, _⟩, _⟩ := hV; exact h.elim
  | _ :: _ :: _ :: _ :: _, hV => obtain ⟨_, _, _, _, _, _, _, _, _, _, ⟨_, _, _, _, _, _, _, _, _, _, ⟨_, _, _, _, _, _, _, _, _, _, h, _⟩, _⟩, _⟩ := hV; exact h.elim
set_option maxRecDepth 100000 in
theorem turnedLifted (os : Os) (started : os.Started) (H : Type) (enc : TypeId × Value → H) :
    ReturnsInHanded {} Tryd.checked os 3 .any (fun w args => (Rows.fnTurnedSpec.pre enc Tryd.prog Tryd.f3 [] false w args ∧ laidMetH Tryd.prog laidT w) ∧ sizedMet enc Tryd.prog Tryd.f3 (OpenSpec.ofChange Rows.fnTurnedSpec) false w args)
      (Rows.fnTurnedSpec.post enc Tryd.prog Tryd.f3 false true false false) := by
  refine returnsInHanded_of_change_and (C := Tryd.checked) (X := fun w _ => laidMetH Tryd.prog laidT w) (fun _ _ _ hh h => h.of_heap hh) own started (by kernel_rfl) Tryd.func3
    (ChangeSpec.witness_at (enc := enc) (C := Tryd.checked) (os := os) (X := fun w _ => laidMetH Tryd.prog laidT w) false (World.laidAll Tryd.prog os laidT) #[.slice none 0 0, .slice none 0 0] 8 (World.laidAll_os _ _ _) (by kernel_rfl) (by kernel_rfl) (by kernel_rfl) (by kernel_rfl) (by kernel_rfl)
      (by rw [MakeChecks.laidMetH_plain _ _ _ (by kernel_rfl)]; exact laidMet_laidAll _ (by kernel_rfl) (by kernel_rfl))) ?_
  intro W base args ds gs before hval0 hW _ _ hL _
  have hval : ∀ (j : Nat) t v, Tryd.f3.params[j]? = some t → args[j]? = some v → Value.okWide Tryd.prog W .any base t v := hval0
  have hW' := hW
  obtain ⟨p, q, hA0, hV, rfl, hfz, hnd⟩ := hW
  have hA : DataW.TrodAll enc Tryd.prog W 0 (fun _ => true) true Tryd.f3.params.toList args.toList ds p := hA0
  rw [Tryd.params3] at hA hval
  obtain ⟨v0, vs0, d0, ds0, p0, q0, hargs, rfl, rfl, h0, r0⟩ := trodAll_cons hA
  obtain ⟨v1, vs1, d1, ds1, p1, q1, hargs1, rfl, rfl, h1, r1⟩ := trodAll_cons r0
  obtain ⟨rfl, rfl, rfl⟩ := trodAll_nil r1
  obtain rfl : args = #[v0, v1] := by cases args; simp_all
  have hlt0 : ∀ x ∈ p0, x.block < W.heap.size := by obtain ⟨fuel, hx⟩ := h0; exact DataW.trod_lt fuel _ _ _ hx
  have hlt1 : ∀ x ∈ p1, x.block < W.heap.size := by obtain ⟨fuel, hx⟩ := h1; exact DataW.trod_lt fuel _ _ _ hx
  obtain ⟨o1, c1, cap1, rfl, hC1, hl1⟩ := open_code Tryd.underlying22 Tryd.underlying5 (by kernel_rfl) (hval 0 22 v0 rfl rfl) h0
  obtain ⟨o2, c2, cap2, rfl, hC2, hl2⟩ := open_code Tryd.underlying22 Tryd.underlying5 (by kernel_rfl) (hval 1 22 v1 rfl rfl) h1
  obtain ⟨⟨a, hS⟩, et, ep, hZ⟩ := laidT_gives hL
  clear hA0 hval0
  have hcall : Calls Tryd.prog 3 #[.slice o1 c1.length cap1, .slice o2 c2.length cap2] W fun e w' => e = .returned (.bool true) ∧ Below W.heap.size W w' := by
    by_cases hb : 1048576 < c1.length ∨ 1048576 < c2.length
    · exact turnedLong o1 c1.length cap1 o2 c2.length cap2 W hl1 hl2 hb
    · exact walkTurned o1 o2 c1 c2 cap1 cap2 W hC1 hC2 (by omega) (by omega) a et ep hS hZ
  refine hcall.mono fun e W' ⟨he, bel⟩ => ?_
  subst he
  obtain ⟨e0, e1, e2, rfl, hV'⟩ := varT_on hV bel
  exact ⟨_, rfl, _, _, _, [], _, q, hW', trodAll_mk1 (shut_bool Tryd.underlying4 _), (trodAll_cons_mk (Below.trod laidOut (by kernel_rfl) (of_decide_eq_true (by kernel_rfl)) h0 bel hlt0) (trodAll_cons_mk (Below.trod laidOut (by kernel_rfl) (of_decide_eq_true (by kernel_rfl)) h1 bel hlt1) trodAll_mk0)), hV', bel.frame _, fun h => by cases h⟩
set_option maxRecDepth 20000 in
theorem turned_row : Rows.FnTurnedSaid :=
  OpenClaim.holds_of_wide 3 Tryd.f3 rfl rfl rfl rfl rfl rfl rfl ⟨rfl, rfl, rfl, rfl, rfl⟩ rfl rfl rfl rfl rfl (by kernel_rfl) Tryd.func3 (by kernel_rfl)
    (of_decide_eq_true (by kernel_rfl)) (by unfold Func.isWrapper; first | (rw [if_pos (by decide +kernel)]; kernel_rfl) | (rw [if_neg (by decide +kernel)]; exact ⟨rfl, rfl⟩))
    (fun os started H enc _ => turnedLifted os started H enc)
set_option maxRecDepth 20000 in
theorem turned_holds : Rows.FnTurnedCardSaid :=
  Claim7.holds_tied_plain_at .later [] [.sentinel, .sentinel, .sentinel] true (true, "0c339d01a82165d928d132b120cd2c55977e1448c0284e4452d9fd5305e4baca") true
    turned_row (fun _ h => by cases h) (by kernel_rfl) (fun _ h => by cases h) fnTurned_row_tie rfl ⟨rfl, rfl⟩ (by kernel_rfl) rfl
    (fun f fn hf hfn => by
      obtain rfl : f = 3 := Option.some.inj ((show Tryd.prog.funcNamed "loop.example/g00013/laws.FnTurned" = some 3 by kernel_rfl).symm.trans hf) |>.symm
      obtain rfl : fn = Tryd.f3 := (Option.some.inj (Tryd.func3.symm.trans hfn)).symm
      exact ⟨by kernel_rfl, fun j t ht => by
        rw [Tryd.params3] at ht
        have hm : t ∈ [22, 22] := by simpa using Array.mem_of_getElem? ht
        have hall : ([22, 22].all fun u => !Tryd.prog.wantsStandIn u) = true := by kernel_rfl
        exact (show Tryd.prog.wantsStandIn t = false by simpa using List.all_eq_true.1 hall t hm)⟩)
    (by kernel_rfl)
#print axioms turned_holds
end Go.Proofs.YtillilllceeonaaDoor
