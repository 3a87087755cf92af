/- What the table of names gives a row: a start that meets it, the variable behind the call. -/
import Derived.Test.YtpnebokcddgahajRDoorRows
import Derived.Test.YtpnebokcddgahajRDoorName
import Derived.ProofKit
import Derived.LaidMore
import Derived.OpenShut
import Derived.Stop.Joined
namespace Go.Proofs.YtpnebokcddgahajRDoor
open Go.ChangeShapes Go.WideShapes Go.ChangeAt Go.WideMaps Go.WideElems Go.RowKit
theorem own : ownKnob Tryd.prog.godebug = none := by kernel_rfl
theorem laidOut : laidOutB Tryd.prog = true := by kernel_rfl
def laidN : List (String × DataW Unit) := [("loop.example/g00013/impl.charsetNames", Rows.laid_loop_example_g00013_impl_charsetNames)]
theorem door_met (os : Os) (args : Array Value) : laidMetH Tryd.prog laidN ((World.doorLaid Tryd.prog 400 os).forCall (fun _ _ => 0) ⟨#[], args, []⟩).memory :=
  laidMetH_of_parts3 (fuel := 8) (laidMet_of_run' 8 (by kernel_rfl) (by kernel_rfl)) (by kernel_rfl) (by kernel_rfl)
/-- A variable of plain data reads behind the call as it read before. -/
theorem vars_on {H : Type} {enc : TypeId × Value → H} {W W' : World} {gs : List (DataW H)} {q : List MemPlace} (hV : DataW.TrodVars enc Tryd.prog W (fun _ => true) ["loop.example/g00013/impl.charsetNames"] gs q) (bel : Below W.heap.size W W') :
    ∃ d, gs = [d] ∧ DataW.TrodVars enc Tryd.prog W' (fun b => decide (b < W.heap.size)) ["loop.example/g00013/impl.charsetNames"] [d] q := by
  obtain ⟨g, t, cs, fuel, d, p, rfl, h1, h2, h3, h4, rfl⟩ := trodVars_one hV
  obtain rfl := Option.some.inj (gNames.symm.trans h1)
  obtain rfl := Option.some.inj (tNames.symm.trans h2)
  have hz : 0 < W.heap.size := by
    obtain ⟨t, fr, hb⟩ := block_of_var h3
    by_cases hz : 0 < W.heap.size
    · exact hz
    · rw [Array.getElem?_eq_none (by omega)] at hb; cases hb
  have hT : DataW.Trod enc Tryd.prog W 0 (fun _ => true) true 48 (.agg cs) d p := ⟨fuel, h4⟩
  have hlt : ∀ x ∈ p, x.block < W.heap.size := DataW.trod_lt fuel _ _ _ h4
  obtain ⟨fuel', h4'⟩ := Below.trod laidOut (by kernel_rfl) (of_decide_eq_true (by kernel_rfl)) hT bel hlt
  exact ⟨d, rfl, trodVars_mk1 gNames tNames (var?_below bel gNames hz h3) h4'⟩
end Go.Proofs.YtpnebokcddgahajRDoor
