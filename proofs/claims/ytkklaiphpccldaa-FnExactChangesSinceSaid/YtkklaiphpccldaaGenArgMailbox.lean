
/- Mailbox as an argument: opened. (By tools/gen/structs.py.) -/
import Derived.Test.YtkklaiphpccldaaGenArgMail
import Derived.Test.YtkklaiphpccldaaGenMailbox
namespace Go.Proofs.Ytkklaiphpccldaa
open Go.RowKit Go.Lib Go.ChangeShapes Go.WideShapes
theorem Try.cells_Mailbox : Try.prog.cellsOf 25 = 6 := by kernel_rfl
theorem GMailbox_list {α : Type} {l : List α} (h : l.length = 6) : ∃ c0 c1 c2 c3 c4 c5, l = [c0, c1, c2, c3, c4, c5] := by
  match l, h with
  | [c0, c1, c2, c3, c4, c5], _ => exact ⟨c0, c1, c2, c3, c4, c5, rfl⟩
theorem GMailbox_of {H : Type} {enc : TypeId × Value → H} {W : World} {sp : Nat → Bool} {k0 : Nat} {cs : List Value} {y : DataW H × List MemPlace} (hlen : cs.length = 6) (h2 : DataW.trod enc Try.prog W 0 sp true k0 25 cs = some y) :
    ∃ (q : GMailbox) (v4 v5 : Value), cs = [.string q.name, .int .i64 q.validity, .int .i64 q.nextUid, .int .i64 q.topMod, v4, v5] ∧ GMailboxIn 0 W.heap.size W q v4 v5 ∧ q.fits maxLen := by
  obtain ⟨xs, k, -, -, -, hxl, hf⟩ := DataW.trod_struct Try.underlying25 h2
  obtain ⟨x0, x1, x2, x3, x4, x5, rfl⟩ := GMailbox_list hlen
  obtain ⟨y0, y1, y2, y3, y4, y5, rfl⟩ := GMailbox_list (hxl.trans rfl)
  have g0 := hf 0 _ rfl
  simp [Try.cells9] at g0
  obtain ⟨z0, e0, -, b0⟩ := DataW.trod_string Try.underlying9 g0
  have e0 : x0 = .string z0 := by simpa using e0
  have g1 := hf 1 _ rfl
  simp [Try.cells2] at g1
  obtain ⟨z1, e1, -⟩ := DataW.trod_int Try.underlying2 g1
  have e1 : x1 = .int .i64 z1 := by simpa using e1
  have g2 := hf 2 _ rfl
  simp [Try.cells2] at g2
  obtain ⟨z2, e2, -⟩ := DataW.trod_int Try.underlying2 g2
  have e2 : x2 = .int .i64 z2 := by simpa using e2
  have g3 := hf 3 _ rfl
  simp [Try.cells2] at g3
  obtain ⟨z3, e3, -⟩ := DataW.trod_int Try.underlying2 g3
  have e3 : x3 = .int .i64 z3 := by simpa using e3
  have g4 := hf 4 _ rfl
  simp [Try.cells_sMail] at g4
  obtain ⟨o4, z4, c4, e4, t4, l4, b4⟩ := open_SMail g4
  have g5 := hf 5 _ rfl
  simp [Try.cells_sGone] at g5
  obtain ⟨o5, z5, c5, e5, t5, l5, b5⟩ := open_SGone g5
  subst e0 e1 e2 e3 e4 e5
  exact ⟨⟨z0, z1, z2, z3, z4, z5⟩, _, _, rfl, ⟨⟨_, _, rfl, t4⟩, ⟨_, _, rfl, t5⟩⟩, ⟨b0, l4, b4, l5, b5⟩⟩
theorem GMailbox_arg {H : Type} {enc : TypeId × Value → H} {W : World} {sp : Nat → Bool} {v : Value} {d : DataW H} {ps : List MemPlace} {r : Reach} {b0 : Nat} (hval : Value.okWide Try.prog W r b0 25 v) (h : DataW.Trod enc Try.prog W 0 sp true 25 v d ps) :
    ∃ (q : GMailbox) (v4 v5 : Value), v = GMailboxV q v4 v5 ∧ GMailboxIn 0 W.heap.size W q v4 v5 ∧ q.fits maxLen := by
  obtain ⟨cs, rfl, hsz⟩ := Go.WideShapes.okWide_struct Try.underlying25 hval
  obtain ⟨fuel, hf⟩ := h
  obtain ⟨q, v4, v5, e, hIn, hfit⟩ := GMailbox_of (by simp only [Value.cells]; rw [Array.length_toList]; exact hsz.trans (by kernel_rfl)) hf
  simp only [Value.cells] at e
  have e2 := congrArg List.toArray e
  rw [Array.toArray_toList] at e2
  subst e2
  exact ⟨q, v4, v5, rfl, hIn, hfit⟩
end Go.Proofs.Ytkklaiphpccldaa
