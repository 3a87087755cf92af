
/- FnExactWriteQuery: its row, its tied card. -/
import Derived.Test.YtfaeckaeaeadeaaGreatDoorRows
import Derived.Test.YtfaeckaeaeadeaaGreatDoorLawWriteQueryT
import Derived.Test.YtfaeckaeaeadeaaGreatDoorGenArgQueryNode
import Derived.Test.YtfaeckaeaeadeaaGreatDoorTie
import Derived.Test.YtfaeckaeaeadeaaGreatDoorCards
import Derived.WalkKit
import Derived.ProofKit
import Derived.OpenShut
import Derived.ShutString
import Derived.ChangeOld
import Derived.Below
import Derived.Handed
import Derived.Lay
import Derived.LaidMore
import Derived.Stop.Joined
import Derived.SevenTiedAt
import Derived.Lib.LaidTab
import Derived.Carry
import Derived.Deep.Strs
import Derived.LaidLaws
import Derived.ChangeArms
import Derived.ChangeSame
namespace Go.Proofs.YtfaeckaeaeadeaaGreatDoor
open Go Go.ChangeShapes Go.WideShapes Go.ChangeAt Go.WideMaps Go.WideElems Go.RowKit Go.Lib
open Go.ChangeMaps (open_string shut_string)
open Go.Deep (trod_struct3)
theorem laidOut : laidOutB Tryz.prog = true := by kernel_rfl
theorem own : ownKnob Tryz.prog.godebug = none := by kernel_rfl
theorem tP : (Tryz.prog.globals[3]?).map (·.type) = some 119 := by kernel_rfl
theorem cells_of_strs {H : Type} {enc : TypeId × Value → H} {P : Program} {w : World} {base : Nat} {sp : Nat → Bool} {held : Bool} {fuel : Nat} {t e : TypeId} {n : Nat} {cs : List Value} {ss : List (List UInt8)} {p : List MemPlace}
    (ht : P.underlying t = some (.array n e)) (he : P.underlying e = some .string) (hce : P.cellsOf e = 1) (hct : P.cellsOf t = n)
    (h : DataW.trod enc P w base sp held fuel t cs = some (.agg (ss.map fun s => .lit (.string s)), p)) : cs = ss.map fun s => Value.string ⟨s.toArray⟩ := by
  cases fuel with
  | zero => simp [DataW.trod] at h
  | succ fuel =>
    simp only [DataW.trod, ht, hce, hct, Nat.mul_one] at h
    split at h
    · rename_i hl
      obtain ⟨xs, hm, hx⟩ := Option.map_eq_some_iff.1 h
      have hxs : xs.map (·.1) = ss.map fun s => (DataW.lit (.string s) : DataW H) := by
        have := congrArg Prod.fst hx
        simpa using this
      have hxl : xs.length = n := by simpa using mapM_length hm
      have hzl : ss.length = n := by
        have := congrArg List.length hxs
        simp at this
        omega
      apply List.ext_getElem?
      intro i
      by_cases hi : i < n
      · obtain ⟨b, hb, hf⟩ := mapM_at hm i i (by simp [hi])
        obtain ⟨s, hc, rfl, _⟩ := DataW.trod_string he hf
        have h1 : cs[i]? = some (.string s) := by
          have := congrArg (·[0]?) hc
          simpa [List.getElem?_take, List.getElem?_drop] using this
        have h2 : (xs.map (·.1))[i]? = some (DataW.lit (.string s.data.toList) : DataW H) := by simp [hb]
        rw [hxs] at h2
        simp only [List.getElem?_map, Option.map_eq_some_iff, DataW.lit.injEq, Lit.string.injEq] at h2
        obtain ⟨s', hs', rfl⟩ := h2
        simp [h1, hs']
      · rw [List.getElem?_eq_none (by omega), List.getElem?_eq_none (by simp; omega)]
    · cases h
def mNames : List (List UInt8) := [[74, 97, 110], [70, 101, 98], [77, 97, 114], [65, 112, 114], [77, 97, 121], [74, 117, 110], [74, 117, 108], [65, 117, 103], [83, 101, 112], [79, 99, 116], [78, 111, 118], [68, 101, 99]]
theorem mNames_at : ∀ j : Fin 12, mNames[j.val]? = some (Pl.monthN j.val).data.toList := by decide +kernel
def rowData {H : Type} (zs : List (List UInt8 × Int × List UInt8)) : DataW H := .agg (zs.map fun z => .agg [.lit (.string z.1), .lit (.int .i64 z.2.1), .lit (.string z.2.2)])
def rowCell (z : List UInt8 × Int × List UInt8) : List Value := [.string ⟨z.1.toArray⟩, .int .i64 z.2.1, .string ⟨z.2.2.toArray⟩]
theorem cells_join3 : ∀ (zs : List (List UInt8 × Int × List UInt8)) (cs : List Value), cs.length = zs.length * 3 → (∀ (i : Nat) (hi : i < zs.length), (cs.drop (i * 3)).take 3 = rowCell zs[i]) → cs = zs.flatMap rowCell := by
  intro zs
  induction zs with
  | nil => intro cs h _; exact List.length_eq_zero_iff.1 (by simpa using h)
  | cons z r ih =>
    intro cs h hz
    have h0 := hz 0 (by simp)
    have e := ih (cs.drop 3) (by simp at h ⊢; omega) (fun i hi => by
      have := hz (i + 1) (by simpa using hi)
      rw [show (i + 1) * 3 = 3 + i * 3 by omega, ← List.drop_drop] at this
      simpa using this)
    rw [List.flatMap_cons, ← e]
    simp only [Nat.zero_mul, List.drop_zero, List.getElem_cons_zero] at h0
    rw [← h0, List.take_append_drop]
theorem cells_of_rows {H : Type} {enc : TypeId × Value → H} {P : Program} {w : World} {base : Nat} {sp : Nat → Bool} {held : Bool} {fuel : Nat} {t e : TypeId} {n : Nat} {f0 f1 f2 : Field} {cs : List Value} {zs : List (List UInt8 × Int × List UInt8)} {p : List MemPlace}
    (ht : P.underlying t = some (.array n e)) (he : P.underlying e = some (.struct #[f0, f1, f2])) (h0 : P.underlying f0.type = some .string) (h1 : P.underlying f1.type = some (.int .i64)) (h2 : P.underlying f2.type = some .string)
    (o0 : f0.offset = 0) (o1 : f1.offset = 1) (o2 : f2.offset = 2) (c0 : P.cellsOf f0.type = 1) (c1 : P.cellsOf f1.type = 1) (c2 : P.cellsOf f2.type = 1) (ce : P.cellsOf e = 3) (ct : P.cellsOf t = zs.length * 3)
    (h : DataW.trod enc P w base sp held fuel t cs = some (rowData zs, p)) : cs = zs.flatMap rowCell := by
  obtain ⟨xs, m, rfl, hx, hl, hn, hel⟩ := DataW.trod_array ht h
  have hx1 : zs.map (fun z => (DataW.agg [.lit (.string z.1), .lit (.int .i64 z.2.1), .lit (.string z.2.2)] : DataW H)) = xs.map (·.1) := by
    have := congrArg Prod.fst hx
    simpa [rowData] using this
  have hxl : xs.length = zs.length := by
    have := congrArg List.length hx1
    simpa using this.symm
  refine cells_join3 zs cs (by omega) fun i hi => ?_
  have hi' := hel i (by omega)
  rw [ce] at hi'
  rw [List.getElem?_eq_getElem (by omega)] at hi'
  obtain ⟨y0, y1, y2, n', hy, hl', e0, e1, e2⟩ := trod_struct3 he hi'
  rw [o0, c0] at e0
  rw [o1, c1] at e1
  rw [o2, c2] at e2
  obtain ⟨s, es, rfl, _⟩ := DataW.trod_string h0 e0
  obtain ⟨z, ez, rfl, _⟩ := DataW.trod_int h1 e1
  obtain ⟨u, eu, rfl, _⟩ := DataW.trod_string h2 e2
  have hxi : (xs.map (·.1))[i]? = some (DataW.agg [.lit (.string zs[i].1), .lit (.int .i64 zs[i].2.1), .lit (.string zs[i].2.2)] : DataW H) := by
    rw [← hx1]
    simp [hi]
  rw [List.getElem?_map, List.getElem?_eq_getElem (by omega), hy] at hxi
  simp only [Option.map_some, Option.some.injEq, DataW.agg.injEq, List.cons.injEq, DataW.lit.injEq, Lit.string.injEq, Lit.int.injEq, true_and, and_true] at hxi
  obtain ⟨hs, hz, hu⟩ := hxi
  have hlen : ((cs.drop (i * 3)).take 3).length = 3 := by rw [hl', ce]
  generalize (cs.drop (i * 3)).take 3 = l at *
  match l, hlen with
  | [a, b, c], _ =>
    simp at es ez eu
    subst es ez eu
    have e1 : s = ⟨zs[i].1.toArray⟩ := by
      apply ByteArray.ext
      apply Array.toList_inj.1
      rw [hs]
    have e2 : u = ⟨zs[i].2.2.toArray⟩ := by
      apply ByteArray.ext
      apply Array.toList_inj.1
      rw [hu]
    rw [e1, e2, hz]
    rfl
theorem gQ : Tryz.prog.globalNamed "loop.example/g00013/impl.queryKeys" = some 1 := by kernel_rfl
theorem gM : Tryz.prog.globalNamed "loop.example/g00013/impl.monthNames" = some 0 := by kernel_rfl
theorem tQ : (Tryz.prog.globals[1]?).map (·.type) = some 97 := by kernel_rfl
theorem tM : (Tryz.prog.globals[0]?).map (·.type) = some 80 := by kernel_rfl
theorem qarr_eq : Qw.tb.flatMap rowCell = qarr.toList := by kernel_rfl
theorem laid_eq : (Rows.laid_loop_example_g00013_impl_queryKeys : DataW Unit) = rowData Qw.tb := by kernel_rfl
theorem qtab_of_var {w : World} {cs : Array Value} (h : w.var? Tryz.prog "loop.example/g00013/impl.queryKeys" = some cs) (hcs : cs.toList = Qw.tb.flatMap rowCell) : QTab w := by
  have e : cs = qarr := by
    apply Array.toList_inj.1
    rw [hcs, qarr_eq]
  unfold World.var? at h
  rw [gQ] at h
  simp only [Option.bind_some] at h
  split at h
  · rename_i c t fr hh
    cases h
    exact ⟨t, fr, by rw [hh, e]⟩
  · cases h
theorem mtab_of_var {w : World} {cs : Array Value} (h : w.var? Tryz.prog "loop.example/g00013/impl.monthNames" = some cs) (hcs : cs.toList = mNames.map fun s => Value.string ⟨s.toArray⟩) : MTab w := by
  intro j hj
  rw [World.var?_cell gM h j, ← Array.getElem?_toList, hcs, List.getElem?_map, mNames_at ⟨j, hj⟩]
  rfl
theorem lt_of_var {w : World} {n : String} {g : Nat} {cs : Array Value} (hg : Tryz.prog.globalNamed n = some g) (h : w.var? Tryz.prog n = some cs) : g < w.heap.size := by
  unfold World.var? at h
  rw [hg] at h
  simp only [Option.bind_some] at h
  by_cases hz : g < w.heap.size
  · exact hz
  · rw [Array.getElem?_eq_none (by omega)] at h; cases h
def laidS : List (String × DataW Unit) := [("math/bits.deBruijn32tab", Rows.laid_math_bits_deBruijn32tab), ("math/bits.deBruijn64tab", Rows.laid_math_bits_deBruijn64tab), ("internal/strconv.uint64pow10", Rows.laid_internal_strconv_uint64pow10), ("loop.example/g00013/impl.monthNames", Rows.laid_loop_example_g00013_impl_monthNames), ("loop.example/g00013/impl.queryKeys", Rows.laid_loop_example_g00013_impl_queryKeys)]
theorem laidS_gives {W : World} (h : laidMetH Tryz.prog laidS W) : QTab W ∧ MTab W ∧ PTab W := by
  rw [MakeChecks.laidMetH_plain _ _ _ (by kernel_rfl)] at h
  obtain ⟨_, ⟨_, _, _, _, _, _, _, _, _, _, ⟨_, _, _, _, _, _, _, _, _, _, ⟨g2, t2, cs2, f2, p2, q2, hg2, ht2, hv2, hd2, ⟨g3, t3, cs3, f3, p3, q3, hg3, ht3, hv3, hd3, ⟨g4, t4, cs4, f4, p4, q4, hg4, ht4, hv4, hd4, _, _⟩, _⟩, _⟩, _⟩, _⟩, _, _⟩ := h
  obtain rfl := Option.some.inj (pGlob.symm.trans hg2)
  obtain rfl := Option.some.inj (tP.symm.trans ht2)
  obtain rfl := Option.some.inj (gM.symm.trans hg3)
  obtain rfl := Option.some.inj (tM.symm.trans ht3)
  obtain rfl := Option.some.inj (gQ.symm.trans hg4)
  obtain rfl := Option.some.inj (tQ.symm.trans ht4)
  have e3 := cells_of_strs (ss := mNames) Tryz.underlying80 Tryz.underlying9 (by kernel_rfl) (by kernel_rfl) hd3
  have e2 := cells_of_tab (k := .u64) (zs := pow10Tab) Tryz.underlying119 Tryz.underlying101 (by kernel_rfl) (by kernel_rfl) hd2
  rw [laid_eq] at hd4
  have e4 := cells_of_rows (zs := Qw.tb) Tryz.underlying97 Tryz.underlying96 Tryz.underlying9 Tryz.underlying2 Tryz.underlying9 rfl rfl rfl (by kernel_rfl) (by kernel_rfl) (by kernel_rfl) (by kernel_rfl) (by kernel_rfl) hd4
  exact ⟨qtab_of_var hv4 e4, mtab_of_var hv3 e3, by unfold PTab Lib.TabIs; rw [hv2, ← e2]⟩
theorem varQM_on {H : Type} {enc : TypeId × Value → H} {W W' : World} {gs : List (DataW H)} {q : List MemPlace} (hV : DataW.TrodVars enc Tryz.prog W (fun _ => true) ["loop.example/g00013/impl.queryKeys", "loop.example/g00013/impl.monthNames"] gs q) (bel : Below W.heap.size W W') :
    ∃ d0 d1, gs = [d0, d1] ∧ DataW.TrodVars enc Tryz.prog W' (fun b => decide (b < W.heap.size)) ["loop.example/g00013/impl.queryKeys", "loop.example/g00013/impl.monthNames"] [d0, d1] q := by
  obtain ⟨g0, t0, cs0, f0, d0, p0, g1, t1, cs1, f1, d1, p1, rfl, a1, a2, a3, a4, b1, b2, b3, b4, rfl⟩ := trodVars_two hV
  obtain rfl := Option.some.inj (gQ.symm.trans a1)
  obtain rfl := Option.some.inj (tQ.symm.trans a2)
  obtain rfl := Option.some.inj (gM.symm.trans b1)
  obtain rfl := Option.some.inj (tM.symm.trans b2)
  have hT0 : DataW.Trod enc Tryz.prog W 0 (fun _ => true) true 97 (.agg cs0) d0 p0 := ⟨f0, a4⟩
  have hT1 : DataW.Trod enc Tryz.prog W 0 (fun _ => true) true 80 (.agg cs1) d1 p1 := ⟨f1, b4⟩
  obtain ⟨f0', a4'⟩ := Below.trod laidOut (by kernel_rfl) (of_decide_eq_true (by kernel_rfl)) hT0 bel (DataW.trod_lt f0 _ _ _ a4)
  obtain ⟨f1', b4'⟩ := Below.trod laidOut (by kernel_rfl) (of_decide_eq_true (by kernel_rfl)) hT1 bel (DataW.trod_lt f1 _ _ _ b4)
  exact ⟨d0, d1, rfl, ⟨_, _, cs0, f0', p0, _, gQ, tQ, var?_below bel gQ (lt_of_var gQ a3) a3, a4', trodVars_mk1 gM tM (var?_below bel gM (lt_of_var gM b3) b3) b4', rfl⟩⟩
theorem door_laid (os : Os) (args : Array Value) : laidMetH Tryz.prog laidS ((World.doorLaid Tryz.prog 2000 os).forCall (fun _ _ => 0) ⟨#[], args, []⟩).memory :=
  laidMetH_of_parts3 (fuel := 8) (laidMet_of_run' 8 (by kernel_rfl) (by kernel_rfl)) (by kernel_rfl) (by kernel_rfl)
set_option maxRecDepth 100000 in
theorem queryLifted (os : Os) (started : os.Started) (H : Type) (enc : TypeId × Value → H) :
    ReturnsInHanded {} Tryz.checked os 3 .any (fun w args => (Rows.fnExactWriteQuerySpec.pre enc Tryz.prog Tryz.f3 [] false w args ∧ laidMetH Tryz.prog laidS w) ∧ sizedMet enc Tryz.prog Tryz.f3 (OpenSpec.ofChange Rows.fnExactWriteQuerySpec) false w args)
      (Rows.fnExactWriteQuerySpec.post enc Tryz.prog Tryz.f3 false true false false) := by
  refine returnsInHanded_of_change_and (C := Tryz.checked) (X := fun w _ => laidMetH Tryz.prog laidS w) (fun _ _ _ hh h => h.of_heap hh) own started (by kernel_rfl) Tryz.func3
    (ChangeSpec.witness_shaped (enc := enc) (C := Tryz.checked) (os := os) (X := fun w _ => laidMetH Tryz.prog laidS w) false (World.doorLaid Tryz.prog 2000 os) #[.slice none 0 0] 8 rfl (World.shaped_of_RefB (by kernel_rfl) (by kernel_rfl)) (by kernel_rfl) (by kernel_rfl) (by kernel_rfl) (door_laid os _)) ?_
  intro W base args ds gs before hval0 hW _ _ hL _
  have hval : ∀ (j : Nat) t v, Tryz.f3.params[j]? = some t → args[j]? = some v → Value.okWide Tryz.prog W .any base t v := hval0
  have hW' := hW
  obtain ⟨p, q, hA0, hV, rfl, hfz, hnd⟩ := hW
  have hA : DataW.TrodAll enc Tryz.prog W 0 (fun _ => true) true Tryz.f3.params.toList args.toList ds p := hA0
  rw [Tryz.params3] at hA hval
  obtain ⟨v0, vs0, d0, ds0, p0, q0, hargs, rfl, rfl, h0, r0⟩ := trodAll_cons hA
  obtain ⟨rfl, rfl, rfl⟩ := trodAll_nil r0
  obtain rfl : args = #[v0] := by cases args; simp_all
  have hlt0 : ∀ x ∈ p0, x.block < W.heap.size := by obtain ⟨fuel, hx⟩ := h0; exact DataW.trod_lt fuel _ _ _ hx
  obtain ⟨aa, ll, cc, hvv⟩ := okWide_slice Tryz.underlying22 (hval 0 22 v0 rfl rfl)
  have hfu := h0
  obtain ⟨fuel, hx⟩ := hfu
  obtain ⟨o, F, cap, rfl, hF, hlen, hsz⟩ := open_SQueryNode (v := v0) (by rw [hvv] at hx ⊢; exact hx)
  obtain ⟨hQk, hMo, hPow⟩ := laidS_gives hL
  clear hA0 hval0
  refine (walkWriteQuery o F cap W hQk hMo hPow hF hlen hsz).mono fun e W' ⟨he, bel⟩ => ?_
  subst he
  obtain ⟨e0, e1, rfl, hV'⟩ := varQM_on hV bel
  exact ⟨_, rfl, _, _, _, [], _, q, hW', trodAll_mk1 (shut_bool Tryz.underlying4 _), (trodAll_cons_mk (Below.trod laidOut (by kernel_rfl) (of_decide_eq_true (by kernel_rfl)) h0 bel hlt0) trodAll_mk0), hV', bel.frame _, fun h => by cases h⟩

theorem writeQuery_row : Rows.FnExactWriteQuerySaid :=
  OpenClaim.holds_of_wide 3 Tryz.f3 rfl rfl rfl rfl rfl rfl rfl ⟨rfl, rfl, rfl, rfl, rfl⟩ rfl rfl rfl rfl rfl (by kernel_rfl) Tryz.func3 (by kernel_rfl)
    (of_decide_eq_true (by kernel_rfl)) (by unfold Func.isWrapper; first | (rw [if_pos (by decide +kernel)]; kernel_rfl) | (rw [if_neg (by decide +kernel)]; exact ⟨rfl, rfl⟩))
    (fun os started H enc _ => queryLifted os started H enc)
theorem writeQuery_holds : Rows.FnExactWriteQueryCardSaid :=
  Claim7.holds_tied_plain_at .later [] [.data, .data, .data, .data, .data] true (true, "dca6ea3c0b53ea5cc29cd4ca4d8ab4e306a7ec223691dbe1b855ea5175de7565") false
    writeQuery_row (fun _ h => by cases h) (by kernel_rfl) (fun _ h => by cases h) fnExactWriteQuery_row_tie rfl ⟨rfl, rfl⟩ (by kernel_rfl) rfl
    (fun f fn hf hfn => by
      obtain rfl : f = 3 := Option.some.inj ((show Tryz.prog.funcNamed "loop.example/g00013/laws.FnExactWriteQuery" = some 3 by kernel_rfl).symm.trans hf) |>.symm
      obtain rfl : fn = Tryz.f3 := (Option.some.inj (Tryz.func3.symm.trans hfn)).symm
      exact ⟨by kernel_rfl, fun j t ht => by
        rw [Tryz.params3] at ht
        have hm : t ∈ [22] := by simpa using Array.mem_of_getElem? ht
        have hall : ([22].all fun u => !Tryz.prog.wantsStandIn u) = true := by kernel_rfl
        exact (show Tryz.prog.wantsStandIn t = false by simpa using List.all_eq_true.1 hall t hm)⟩)
    (by kernel_rfl)
#print axioms writeQuery_holds
end Go.Proofs.YtfaeckaeaeadeaaGreatDoor
