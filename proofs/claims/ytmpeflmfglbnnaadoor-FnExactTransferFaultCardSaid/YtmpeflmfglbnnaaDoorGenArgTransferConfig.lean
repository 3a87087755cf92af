
/- TransferConfig as an argument: opened. (By tools/gen/structs.py.) -/
import Derived.Test.YtmpeflmfglbnnaaDoorGenArgSignKey
import Derived.Test.YtmpeflmfglbnnaaDoorGenTransferConfig
namespace Go.Proofs.YtmpeflmfglbnnaaDoor
open Go.RowKit Go.Lib Go.ChangeShapes Go.WideShapes
set_option maxRecDepth 20000 in
theorem Tryd.cells_TransferConfig : Tryd.prog.cellsOf 24 = 5 := by kernel_rfl
set_option maxRecDepth 20000 in
theorem GTransferConfig_list {α : Type} {l : List α} (h : l.length = 5) : ∃ c0 c1 c2 c3 c4, l = [c0, c1, c2, c3, c4] := by
  match l, h with
  | [c0, c1, c2, c3, c4], _ => exact ⟨c0, c1, c2, c3, c4, rfl⟩
set_option maxRecDepth 20000 in
theorem GTransferConfig_of {H : Type} {enc : TypeId × Value → H} {W : World} {sp : Nat → Bool} {k0 : Nat} {cs : List Value} {y : DataW H × List MemPlace} (hlen : cs.length = 5) (h2 : DataW.trod enc Tryd.prog W 0 sp true k0 24 cs = some y) :
    ∃ (q : GTransferConfig) (v3 : Value), cs = [.string q.locF, .bool q.relay, .int .i64 q.maxBytes, v3, .int .i64 q.seed] ∧ GTransferConfigIn 0 W.heap.size W q v3 ∧ q.fits maxLen := by
  obtain ⟨xs, k, -, -, -, hxl, hf⟩ := DataW.trod_struct Tryd.underlying24 h2
  obtain ⟨x0, x1, x2, x3, x4, rfl⟩ := GTransferConfig_list hlen
  obtain ⟨y0, y1, y2, y3, y4, rfl⟩ := GTransferConfig_list (hxl.trans rfl)
  have g0 := hf 0 _ rfl
  simp [Tryd.cells9] at g0
  obtain ⟨z0, e0, -, b0⟩ := DataW.trod_string Tryd.underlying9 g0
  have e0 : x0 = .string z0 := by simpa using e0
  have g1 := hf 1 _ rfl
  simp [Tryd.cells4] at g1
  obtain ⟨z1, e1, -⟩ := DataW.trod_bool Tryd.underlying4 g1
  have e1 : x1 = .bool z1 := by simpa using e1
  have g2 := hf 2 _ rfl
  simp [Tryd.cells2] at g2
  obtain ⟨z2, e2, -⟩ := DataW.trod_int Tryd.underlying2 g2
  have e2 : x2 = .int .i64 z2 := by simpa using e2
  have g3 := hf 3 _ rfl
  simp [Tryd.cells_sSignKey] at g3
  obtain ⟨o3, z3, c3, e3, t3, l3, b3⟩ := open_SSignKey g3
  have g4 := hf 4 _ rfl
  simp [Tryd.cells2] at g4
  obtain ⟨z4, e4, -⟩ := DataW.trod_int Tryd.underlying2 g4
  have e4 : x4 = .int .i64 z4 := by simpa using e4
  subst e0 e1 e2 e3 e4
  exact ⟨⟨z0, z1, z2, z3, z4⟩, _, rfl, ⟨⟨_, _, rfl, t3⟩⟩, ⟨b0, l3, b3⟩⟩
set_option maxRecDepth 20000 in
theorem GTransferConfig_arg {H : Type} {enc : TypeId × Value → H} {W : World} {sp : Nat → Bool} {v : Value} {d : DataW H} {ps : List MemPlace} {r : Reach} {b0 : Nat} (hval : Value.okWide Tryd.prog W r b0 24 v) (h : DataW.Trod enc Tryd.prog W 0 sp true 24 v d ps) :
    ∃ (q : GTransferConfig) (v3 : Value), v = GTransferConfigV q v3 ∧ GTransferConfigIn 0 W.heap.size W q v3 ∧ q.fits maxLen := by
  obtain ⟨cs, rfl, hsz⟩ := Go.WideShapes.okWide_struct Tryd.underlying24 hval
  obtain ⟨fuel, hf⟩ := h
  obtain ⟨q, v3, e, hIn, hfit⟩ := GTransferConfig_of (by simp only [Value.cells]; rw [Array.length_toList]; exact hsz.trans (by kernel_rfl)) hf
  simp only [Value.cells] at e
  have e2 := congrArg List.toArray e
  rw [Array.toArray_toList] at e2
  subst e2
  exact ⟨q, v3, rfl, hIn, hfit⟩
end Go.Proofs.YtmpeflmfglbnnaaDoor
