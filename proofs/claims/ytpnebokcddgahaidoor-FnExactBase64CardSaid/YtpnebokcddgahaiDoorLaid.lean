/- What the table of digits gives the walks; the walk of the law. -/
import Derived.Test.YtpnebokcddgahaiDoorRows
import Derived.Test.YtpnebokcddgahaiDoorImpl64
import Derived.ProofKit
import Derived.LaidMore
import Derived.OpenShut
import Derived.ShutString
import Derived.Stop.Joined
import Derived.Lib.LaidTab
namespace Go.Proofs.YtpnebokcddgahaiDoor
open Go.ChangeShapes Go.WideShapes Go.ChangeAt Go.WideMaps Go.WideElems Go.RowKit Go.Lib
open Go.ChangeMaps (open_string shut_string)
theorem own : ownKnob Tryd.prog.godebug = none := by kernel_rfl
theorem laidOut : laidOutB Tryd.prog = true := by kernel_rfl
theorem gDig : Tryd.prog.globalNamed "loop.example/g00013/impl.base64Digits" = some 0 := by kernel_rfl
theorem tDig : (Tryd.prog.globals[0]?).map (·.type) = some 28 := by kernel_rfl
def digs : List Int := [65, 66, 67, 68, 69, 70, 71, 72, 73, 74, 75, 76, 77, 78, 79, 80, 81, 82, 83, 84, 85, 86, 87, 88, 89, 90, 97, 98, 99, 100, 101, 102, 103, 104, 105, 106, 107, 108, 109, 110, 111, 112, 113, 114, 115, 116, 117, 118, 119, 120, 121, 122, 48, 49, 50, 51, 52, 53, 54, 55, 56, 57, 43, 47]
theorem digs_d64 : ∀ j, j < 64 → (digs.map fun z => Value.int .u8 z)[j]? = some (.int .u8 ((Pl.d64 j).toNat : Int)) := by
  intro j hj
  have h : ∀ j : Fin 64, digs[j.val]? = some ((Pl.d64 j.val).toNat : Int) := by decide
  rw [List.getElem?_map, h ⟨j, hj⟩]
  rfl
def laidN : List (String × DataW Unit) := [("loop.example/g00013/impl.base64Digits", Rows.laid_loop_example_g00013_impl_base64Digits)]
theorem door_met (os : Os) (args : Array Value) : laidMetH Tryd.prog laidN ((World.doorLaid Tryd.prog 400 os).forCall (fun _ _ => 0) ⟨#[], args, []⟩).memory :=
  laidMetH_of_parts3 (fuel := 8) (laidMet_of_run' 8 (by kernel_rfl) (by kernel_rfl)) (by kernel_rfl) (by kernel_rfl)
theorem tab_of_var {w : World} {cs : Array Value} (h : w.var? Tryd.prog "loop.example/g00013/impl.base64Digits" = some cs) (hcs : cs.toList = digs.map fun z => Value.int .u8 z) : Tab w := by
  intro j hj
  rw [World.var?_cell gDig h j]
  rw [← Array.getElem?_toList, hcs]
  exact digs_d64 j hj
theorem zero_of_var {w : World} {cs : Array Value} (h : w.var? Tryd.prog "loop.example/g00013/impl.base64Digits" = some cs) : 0 < w.heap.size := by
  unfold World.var? at h
  rw [gDig] at h
  simp only [Option.bind_some] at h
  by_cases hz : 0 < w.heap.size
  · exact hz
  · rw [Array.getElem?_eq_none (by omega)] at h; cases h
theorem tab_of_laid {W : World} (h : laidMetH Tryd.prog laidN W) : Tab W ∧ 0 < W.heap.size := by
  rw [MakeChecks.laidMetH_plain _ _ _ (by kernel_rfl)] at h
  obtain ⟨ps, ⟨g0, t0, cs0, f0, p0, q0, hg0, ht0, hv0, hd0, _, _⟩, _, _⟩ := h
  obtain rfl := Option.some.inj (gDig.symm.trans hg0)
  obtain rfl := Option.some.inj (tDig.symm.trans ht0)
  have hcs := cells_of_tab (zs := digs) Tryd.underlying28 Tryd.underlying5 (by kernel_rfl) (by kernel_rfl) hd0
  exact ⟨tab_of_var hv0 hcs, zero_of_var hv0⟩
/-- A variable of plain data reads behind the call as it read before. -/
theorem vars_on {H : Type} {enc : TypeId × Value → H} {W W' : World} {gs : List (DataW H)} {q : List MemPlace} (hV : DataW.TrodVars enc Tryd.prog W (fun _ => true) ["loop.example/g00013/impl.base64Digits"] gs q) (bel : Below W.heap.size W W') :
    ∃ d, gs = [d] ∧ DataW.TrodVars enc Tryd.prog W' (fun b => decide (b < W.heap.size)) ["loop.example/g00013/impl.base64Digits"] [d] q := by
  obtain ⟨g, t, cs, fuel, d, p, rfl, h1, h2, h3, h4, rfl⟩ := trodVars_one hV
  obtain rfl := Option.some.inj (gDig.symm.trans h1)
  obtain rfl := Option.some.inj (tDig.symm.trans h2)
  have hz := zero_of_var h3
  have hT : DataW.Trod enc Tryd.prog W 0 (fun _ => true) true 28 (.agg cs) d p := ⟨fuel, h4⟩
  have hlt : ∀ x ∈ p, x.block < W.heap.size := DataW.trod_lt fuel _ _ _ h4
  obtain ⟨fuel', h4'⟩ := Below.trod laidOut (by kernel_rfl) (of_decide_eq_true (by kernel_rfl)) hT bel hlt
  exact ⟨d, rfl, trodVars_mk1 gDig tDig (var?_below bel gDig hz h3) h4'⟩
set_option maxHeartbeats 400000 in
theorem walk64 (s : ByteArray) (w : World) (hs : s.size ≤ maxLen) (hT : Tab w) (hz : 0 < w.heap.size) :
    Calls Tryd.prog 3 #[.string s] w fun e w' => e = .returned (.bool true) ∧ Below w.heap.size w w' := by
  unfold maxLen at hs
  by_cases hbig : 1048576 < s.size
  · go_enter Tryd.func3, Tryd.ntmps3
    go_wp2
    go_ret
    exact ⟨rfl, Below.refl _ _⟩
  · by_cases hlong : 100000 < s.size
    · go_enter Tryd.func3, Tryd.ntmps3
      go_wp2
      go_ret
      exact ⟨rfl, Below.refl _ _⟩
    · have hsp := mkHid (fun W => specBase64 s W (by omega))
      have him := mkHid (fun W => implBase64 s W (by omega))
      generalize Pl.enc s.data.toList = x at *
      go_enter Tryd.func3, Tryd.ntmps3
      go_wp2_with fail
      refine (hsp.out _).mono ?_
      rintro e w1 ⟨rfl, hb1⟩
      have hs1 := hb1.size
      go_wp2_with fail
      refine (him.out _ (hT.on hz hb1) (by omega)).mono ?_
      rintro e w2 ⟨rfl, hb2⟩
      have hbF := mkHid (hb1.trans (hb2.mono hs1))
      go_wp2
      go_ret
      exact ⟨rfl, hbF.out⟩
end Go.Proofs.YtpnebokcddgahaiDoor
