
/- What the laid tables give the walks; the walks of the two laws. -/
import Derived.Test.YtacmhofekdjobaaGreatDoorRows
import Derived.Test.YtacmhofekdjobaaGreatDoorDateSpec
import Derived.ProofKit
import Derived.LaidMore
import Derived.OpenShut
import Derived.ShutString
import Derived.Stop.Joined
import Derived.Lib.LaidTab
import Derived.WalkSmall
import Derived.Carry
namespace Go.Proofs.YtacmhofekdjobaaGreatDoor
open Go.ChangeShapes Go.WideShapes Go.ChangeAt Go.WideMaps Go.WideElems Go.RowKit Go.Lib
set_option maxRecDepth 20000 in
theorem own : ownKnob Tryz.prog.godebug = none := by kernel_rfl
set_option maxRecDepth 20000 in
theorem laidOut : laidOutB Tryz.prog = true := by kernel_rfl
set_option maxRecDepth 20000 in
theorem cells_of_strs {H : Type} {enc : TypeId × Value → H} {P : Program} {w : World} {base : Nat} {sp : Nat → Bool} {held : Bool} {fuel : Nat} {t e : TypeId} {n : Nat} {cs : List Value} {ss : List (List UInt8)} {p : List MemPlace}
    (ht : P.underlying t = some (.array n e)) (he : P.underlying e = some .string) (hce : P.cellsOf e = 1) (hct : P.cellsOf t = n)
    (h : DataW.trod enc P w base sp held fuel t cs = some (.agg (ss.map fun s => .lit (.string s)), p)) : cs = ss.map fun s => Value.string ⟨s.toArray⟩ := by
  cases fuel with
  | zero => simp [DataW.trod] at h
  | succ fuel =>
    simp only [DataW.trod, ht, hce, hct, Nat.mul_one] at h
    split at h
    · rename_i hl
      obtain ⟨xs, hm, hx⟩ := Option.map_eq_some_iff.1 h
      have hxs : xs.map (·.1) = ss.map fun s => (DataW.lit (.string s) : DataW H) := by
        have := congrArg Prod.fst hx
        simpa using this
      have hxl : xs.length = n := by simpa using mapM_length hm
      have hzl : ss.length = n := by
        have := congrArg List.length hxs
        simp at this
        omega
      apply List.ext_getElem?
      intro i
      by_cases hi : i < n
      · obtain ⟨b, hb, hf⟩ := mapM_at hm i i (by simp [hi])
        obtain ⟨s, hc, rfl, _⟩ := DataW.trod_string he hf
        have h1 : cs[i]? = some (.string s) := by
          have := congrArg (·[0]?) hc
          simpa [List.getElem?_take, List.getElem?_drop] using this
        have h2 : (xs.map (·.1))[i]? = some (DataW.lit (.string s.data.toList) : DataW H) := by simp [hb]
        rw [hxs] at h2
        simp only [List.getElem?_map, Option.map_eq_some_iff, DataW.lit.injEq, Lit.string.injEq] at h2
        obtain ⟨s', hs', rfl⟩ := h2
        simp [h1, hs']
      · rw [List.getElem?_eq_none (by omega), List.getElem?_eq_none (by simp; omega)]
    · cases h
set_option maxRecDepth 20000 in
theorem gM : Tryz.prog.globalNamed "loop.example/g00013/impl.monthNames" = some 1 := by kernel_rfl
set_option maxRecDepth 20000 in
theorem gD : Tryz.prog.globalNamed "loop.example/g00013/impl.dayNames" = some 0 := by kernel_rfl
set_option maxRecDepth 20000 in
theorem tM : (Tryz.prog.globals[1]?).map (·.type) = some 85 := by kernel_rfl
set_option maxRecDepth 20000 in
theorem tD : (Tryz.prog.globals[0]?).map (·.type) = some 35 := by kernel_rfl
set_option maxRecDepth 20000 in
theorem tP : (Tryz.prog.globals[5]?).map (·.type) = some 132 := by kernel_rfl
def mNames : List (List UInt8) := [[74, 97, 110], [70, 101, 98], [77, 97, 114], [65, 112, 114], [77, 97, 121], [74, 117, 110], [74, 117, 108], [65, 117, 103], [83, 101, 112], [79, 99, 116], [78, 111, 118], [68, 101, 99]]
def dNames : List (List UInt8) := [[77, 111, 110], [84, 117, 101], [87, 101, 100], [84, 104, 117], [70, 114, 105], [83, 97, 116], [83, 117, 110]]
set_option maxRecDepth 20000 in
theorem mNames_at : ∀ j : Fin 12, mNames[j.val]? = some (Pl.monthN j.val).data.toList := by decide +kernel
set_option maxRecDepth 20000 in
theorem dNames_at : ∀ j : Fin 7, dNames[j.val]? = some (Pl.dayN j.val).data.toList := by decide +kernel
set_option maxRecDepth 20000 in
theorem mtab_of_var {w : World} {cs : Array Value} (h : w.var? Tryz.prog "loop.example/g00013/impl.monthNames" = some cs) (hcs : cs.toList = mNames.map fun s => Value.string ⟨s.toArray⟩) : MTab w := by
  intro j hj
  rw [World.var?_cell gM h j, ← Array.getElem?_toList, hcs, List.getElem?_map, mNames_at ⟨j, hj⟩]
  rfl
set_option maxRecDepth 20000 in
theorem dtab_of_var {w : World} {cs : Array Value} (h : w.var? Tryz.prog "loop.example/g00013/impl.dayNames" = some cs) (hcs : cs.toList = dNames.map fun s => Value.string ⟨s.toArray⟩) : DTab w := by
  intro j hj
  rw [World.var?_cell gD h j, ← Array.getElem?_toList, hcs, List.getElem?_map, dNames_at ⟨j, hj⟩]
  rfl
set_option maxRecDepth 20000 in
theorem lt_of_var {w : World} {n : String} {g : Nat} {cs : Array Value} (hg : Tryz.prog.globalNamed n = some g) (h : w.var? Tryz.prog n = some cs) : g < w.heap.size := by
  unfold World.var? at h
  rw [hg] at h
  simp only [Option.bind_some] at h
  by_cases hz : g < w.heap.size
  · exact hz
  · rw [Array.getElem?_eq_none (by omega)] at h; cases h
def laidS : List (String × DataW Unit) := [("math/bits.deBruijn32tab", Rows.laid_math_bits_deBruijn32tab), ("math/bits.deBruijn64tab", Rows.laid_math_bits_deBruijn64tab), ("internal/strconv.uint64pow10", Rows.laid_internal_strconv_uint64pow10), ("loop.example/g00013/impl.monthNames", Rows.laid_loop_example_g00013_impl_monthNames)]
def laidF : List (String × DataW Unit) := [("math/bits.deBruijn32tab", Rows.laid_math_bits_deBruijn32tab), ("math/bits.deBruijn64tab", Rows.laid_math_bits_deBruijn64tab), ("internal/strconv.uint64pow10", Rows.laid_internal_strconv_uint64pow10), ("loop.example/g00013/impl.monthNames", Rows.laid_loop_example_g00013_impl_monthNames), ("loop.example/g00013/impl.dayNames", Rows.laid_loop_example_g00013_impl_dayNames)]
set_option maxRecDepth 20000 in
theorem laidS_gives {W : World} (h : laidMetH Tryz.prog laidS W) : MTab W ∧ PTab W := by
  rw [MakeChecks.laidMetH_plain _ _ _ (by kernel_rfl)] at h
  obtain ⟨_, ⟨_, _, _, _, _, _, _, _, _, _, ⟨_, _, _, _, _, _, _, _, _, _, ⟨g2, t2, cs2, f2, p2, q2, hg2, ht2, hv2, hd2, ⟨g3, t3, cs3, f3, p3, q3, hg3, ht3, hv3, hd3, _, _⟩, _⟩, _⟩, _⟩, _, _⟩ := h
  obtain rfl := Option.some.inj (pGlob.symm.trans hg2)
  obtain rfl := Option.some.inj (tP.symm.trans ht2)
  obtain rfl := Option.some.inj (gM.symm.trans hg3)
  obtain rfl := Option.some.inj (tM.symm.trans ht3)
  have e3 := cells_of_strs (ss := mNames) Tryz.underlying85 Tryz.underlying9 (by kernel_rfl) (by kernel_rfl) hd3
  have e2 := cells_of_tab (k := .u64) (zs := pow10Tab) Tryz.underlying132 Tryz.underlying96 (by kernel_rfl) (by kernel_rfl) hd2
  exact ⟨mtab_of_var hv3 e3, by unfold PTab Lib.TabIs; rw [hv2, ← e2]⟩
set_option maxRecDepth 20000 in
theorem laidF_gives {W : World} (h : laidMetH Tryz.prog laidF W) : MTab W ∧ DTab W ∧ PTab W := by
  rw [MakeChecks.laidMetH_plain _ _ _ (by kernel_rfl)] at h
  obtain ⟨_, ⟨_, _, _, _, _, _, _, _, _, _, ⟨_, _, _, _, _, _, _, _, _, _, ⟨g2, t2, cs2, f2, p2, q2, hg2, ht2, hv2, hd2, ⟨g3, t3, cs3, f3, p3, q3, hg3, ht3, hv3, hd3, ⟨g4, t4, cs4, f4, p4, q4, hg4, ht4, hv4, hd4, _, _⟩, _⟩, _⟩, _⟩, _⟩, _, _⟩ := h
  obtain rfl := Option.some.inj (pGlob.symm.trans hg2)
  obtain rfl := Option.some.inj (tP.symm.trans ht2)
  obtain rfl := Option.some.inj (gM.symm.trans hg3)
  obtain rfl := Option.some.inj (tM.symm.trans ht3)
  obtain rfl := Option.some.inj (gD.symm.trans hg4)
  obtain rfl := Option.some.inj (tD.symm.trans ht4)
  have e3 := cells_of_strs (ss := mNames) Tryz.underlying85 Tryz.underlying9 (by kernel_rfl) (by kernel_rfl) hd3
  have e4 := cells_of_strs (ss := dNames) Tryz.underlying35 Tryz.underlying9 (by kernel_rfl) (by kernel_rfl) hd4
  have e2 := cells_of_tab (k := .u64) (zs := pow10Tab) Tryz.underlying132 Tryz.underlying96 (by kernel_rfl) (by kernel_rfl) hd2
  exact ⟨mtab_of_var hv3 e3, dtab_of_var hv4 e4, by unfold PTab Lib.TabIs; rw [hv2, ← e2]⟩
set_option maxRecDepth 20000 in
/-- A variable of plain data reads behind the call as it read before. -/
theorem varM_on {H : Type} {enc : TypeId × Value → H} {W W' : World} {gs : List (DataW H)} {q : List MemPlace} (hV : DataW.TrodVars enc Tryz.prog W (fun _ => true) ["loop.example/g00013/impl.monthNames"] gs q) (bel : Below W.heap.size W W') :
    ∃ d, gs = [d] ∧ DataW.TrodVars enc Tryz.prog W' (fun b => decide (b < W.heap.size)) ["loop.example/g00013/impl.monthNames"] [d] q := by
  obtain ⟨g, t, cs, fuel, d, p, rfl, h1, h2, h3, h4, rfl⟩ := trodVars_one hV
  obtain rfl := Option.some.inj (gM.symm.trans h1)
  obtain rfl := Option.some.inj (tM.symm.trans h2)
  have hz := lt_of_var gM h3
  have hT : DataW.Trod enc Tryz.prog W 0 (fun _ => true) true 85 (.agg cs) d p := ⟨fuel, h4⟩
  have hlt : ∀ x ∈ p, x.block < W.heap.size := DataW.trod_lt fuel _ _ _ h4
  obtain ⟨fuel', h4'⟩ := Below.trod laidOut (by kernel_rfl) (of_decide_eq_true (by kernel_rfl)) hT bel hlt
  exact ⟨d, rfl, trodVars_mk1 gM tM (var?_below bel gM hz h3) h4'⟩
set_option maxRecDepth 20000 in
theorem varDM_on {H : Type} {enc : TypeId × Value → H} {W W' : World} {gs : List (DataW H)} {q : List MemPlace} (hV : DataW.TrodVars enc Tryz.prog W (fun _ => true) ["loop.example/g00013/impl.dayNames", "loop.example/g00013/impl.monthNames"] gs q) (bel : Below W.heap.size W W') :
    ∃ d0 d1, gs = [d0, d1] ∧ DataW.TrodVars enc Tryz.prog W' (fun b => decide (b < W.heap.size)) ["loop.example/g00013/impl.dayNames", "loop.example/g00013/impl.monthNames"] [d0, d1] q := by
  obtain ⟨g0, t0, cs0, f0, d0, p0, g1, t1, cs1, f1, d1, p1, rfl, a1, a2, a3, a4, b1, b2, b3, b4, rfl⟩ := trodVars_two hV
  obtain rfl := Option.some.inj (gD.symm.trans a1)
  obtain rfl := Option.some.inj (tD.symm.trans a2)
  obtain rfl := Option.some.inj (gM.symm.trans b1)
  obtain rfl := Option.some.inj (tM.symm.trans b2)
  have hT0 : DataW.Trod enc Tryz.prog W 0 (fun _ => true) true 35 (.agg cs0) d0 p0 := ⟨f0, a4⟩
  have hT1 : DataW.Trod enc Tryz.prog W 0 (fun _ => true) true 85 (.agg cs1) d1 p1 := ⟨f1, b4⟩
  obtain ⟨f0', a4'⟩ := Below.trod laidOut (by kernel_rfl) (of_decide_eq_true (by kernel_rfl)) hT0 bel (DataW.trod_lt f0 _ _ _ a4)
  obtain ⟨f1', b4'⟩ := Below.trod laidOut (by kernel_rfl) (of_decide_eq_true (by kernel_rfl)) hT1 bel (DataW.trod_lt f1 _ _ _ b4)
  exact ⟨d0, d1, rfl, ⟨_, _, cs0, f0', p0, _, gD, tD, var?_below bel gD (lt_of_var gD a3) a3, a4', trodVars_mk1 gM tM (var?_below bel gM (lt_of_var gM b3) b3) b4', rfl⟩⟩
end Go.Proofs.YtacmhofekdjobaaGreatDoor
