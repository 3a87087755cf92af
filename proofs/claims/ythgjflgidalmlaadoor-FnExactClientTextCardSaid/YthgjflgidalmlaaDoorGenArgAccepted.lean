
/- Accepted as an argument: opened. (By tools/gen/structs.py.) -/
import Derived.Test.YthgjflgidalmlaaDoorGenArgBase
import Derived.Test.YthgjflgidalmlaaDoorGenAccepted
namespace Go.Proofs.YthgjflgidalmlaaDoor
open Go.RowKit Go.Lib Go.ChangeShapes Go.WideShapes
set_option maxRecDepth 20000 in
theorem Tryd.cells_Accepted : Tryd.prog.cellsOf 32 = 4 := by kernel_rfl
set_option maxRecDepth 20000 in
theorem Tryd.cells_sAccepted : Tryd.prog.cellsOf 22 = 1 := by kernel_rfl
set_option maxRecDepth 20000 in
theorem GAccepted_list {α : Type} {l : List α} (h : l.length = 4) : ∃ c0 c1 c2 c3, l = [c0, c1, c2, c3] := by
  match l, h with
  | [c0, c1, c2, c3], _ => exact ⟨c0, c1, c2, c3, rfl⟩
set_option maxRecDepth 20000 in
theorem GAccepted_of {H : Type} {enc : TypeId × Value → H} {W : World} {sp : Nat → Bool} {k0 : Nat} {cs : List Value} {y : DataW H × List MemPlace} (hlen : cs.length = 4) (h2 : DataW.trod enc Tryd.prog W 0 sp true k0 32 cs = some y) :
    ∃ (q : GAccepted) (v1 : Value), cs = [.string q.fromF, v1, .string q.user, .string q.message] ∧ GAcceptedIn 0 W.heap.size W q v1 ∧ q.fits maxLen := by
  obtain ⟨xs, k, -, -, -, hxl, hf⟩ := DataW.trod_struct Tryd.underlying32 h2
  obtain ⟨x0, x1, x2, x3, rfl⟩ := GAccepted_list hlen
  obtain ⟨y0, y1, y2, y3, rfl⟩ := GAccepted_list (hxl.trans rfl)
  have g0 := hf 0 _ rfl
  simp [Tryd.cells9] at g0
  obtain ⟨z0, e0, -, b0⟩ := DataW.trod_string Tryd.underlying9 g0
  have e0 : x0 = .string z0 := by simpa using e0
  have g1 := hf 1 _ rfl
  simp [Tryd.cells_sStr] at g1
  obtain ⟨o1, z1, c1, e1, t1, l1, b1⟩ := open_SStr g1
  have g2 := hf 2 _ rfl
  simp [Tryd.cells9] at g2
  obtain ⟨z2, e2, -, b2⟩ := DataW.trod_string Tryd.underlying9 g2
  have e2 : x2 = .string z2 := by simpa using e2
  have g3 := hf 3 _ rfl
  simp [Tryd.cells9] at g3
  obtain ⟨z3, e3, -, b3⟩ := DataW.trod_string Tryd.underlying9 g3
  have e3 : x3 = .string z3 := by simpa using e3
  subst e0 e1 e2 e3
  exact ⟨⟨z0, z1, z2, z3⟩, _, rfl, ⟨⟨_, _, rfl, t1⟩⟩, ⟨b0, l1, b1, b2, b3⟩⟩
set_option maxRecDepth 20000 in
theorem GAccepted_arg {H : Type} {enc : TypeId × Value → H} {W : World} {sp : Nat → Bool} {v : Value} {d : DataW H} {ps : List MemPlace} {r : Reach} {b0 : Nat} (hval : Value.okWide Tryd.prog W r b0 32 v) (h : DataW.Trod enc Tryd.prog W 0 sp true 32 v d ps) :
    ∃ (q : GAccepted) (v1 : Value), v = GAcceptedV q v1 ∧ GAcceptedIn 0 W.heap.size W q v1 ∧ q.fits maxLen := by
  obtain ⟨cs, rfl, hsz⟩ := Go.WideShapes.okWide_struct Tryd.underlying32 hval
  obtain ⟨fuel, hf⟩ := h
  obtain ⟨q, v1, e, hIn, hfit⟩ := GAccepted_of (by simp only [Value.cells]; rw [Array.length_toList]; exact hsz.trans (by kernel_rfl)) hf
  simp only [Value.cells] at e
  have e2 := congrArg List.toArray e
  rw [Array.toArray_toList] at e2
  subst e2
  exact ⟨q, v1, rfl, hIn, hfit⟩
set_option maxRecDepth 20000 in
theorem open_SAccepted {H : Type} {enc : TypeId × Value → H} {W : World} {sp : Nat → Bool} {v : Value} {y : DataW H × List MemPlace} {fuel : Nat} (hx : DataW.trod enc Tryd.prog W 0 sp true fuel 22 [v] = some y) :
    ∃ o F cap, v = .slice o F.length cap ∧ GAcceptedsL 0 W.heap.size W o F ∧ F.length ≤ maxLen ∧ ∀ f ∈ F, f.fits maxLen := by
  rcases Go.Deep.open_slice Tryd.underlying22 hx with ⟨hc, -⟩ | ⟨a', len, cap, m, n, D, Pl, hc, -, hl, hm, hmm, -, hall⟩
  · simp at hc
    subst hc
    exact ⟨none, [], 0, rfl, fun i hi => absurd hi (Nat.not_lt_zero _), Nat.zero_le _, fun f hf => by cases hf⟩
  · simp at hc
    subst hc
    have hlm : len ≤ m := by rw [hmm]; split <;> omega
    have each : ∀ i, i < m → ∃ q : GAccepted, (∃ v1, GAcceptedAt W (a'.add (i * 4)) q v1 ∧ GAcceptedIn 0 W.heap.size W q v1) ∧ q.fits maxLen ∧ a'.block < W.heap.size := by
      intro i hi
      obtain ⟨cs', h1, h2⟩ := hall i hi
      rw [Tryd.cells_Accepted] at h1
      obtain ⟨_, hlen, hcell⟩ := World.cells?_some h1
      obtain ⟨q, v1, rfl, hIn, hfit⟩ := GAccepted_of hlen h2
      have d0 := hcell 0 (by omega)
      have d1 := hcell 1 (by omega)
      have d2 := hcell 2 (by omega)
      have d3 := hcell 3 (by omega)
      rw [show (a'.add (i * 4)).add 0 = a'.add (i * 4) from add_zeroG _] at d0
      rw [add_moreG _ 0] at d1
      rw [add_moreG _ 1] at d2
      rw [add_moreG _ 2] at d3
      exact ⟨q, ⟨v1, ⟨by simpa using d0, by simpa using d1, by simpa using d2, by simpa using d3⟩, hIn⟩, hfit, by have := World.block_lt_of_cell? _ _ d0; rw [add_blockG] at this; exact this⟩
    haveI : Inhabited GAccepted := ⟨⟨⟨#[]⟩, [], ⟨#[]⟩, ⟨#[]⟩⟩⟩
    obtain ⟨q, hq⟩ := Go.Deep.choose_lt each
    refine ⟨some a', (List.range len).map q, cap, by simp, ?_, by simp; omega, ?_⟩
    · intro i hi
      simp at hi
      obtain ⟨⟨v1, x1, x2⟩, -, x3⟩ := hq i (by omega)
      exact ⟨a', v1, rfl, Nat.zero_le _, x3, by simpa using x1, by simpa using x2⟩
    · intro f hf
      simp only [List.mem_map, List.mem_range] at hf
      obtain ⟨i, hi, rfl⟩ := hf
      exact (hq i (by omega)).2.1
end Go.Proofs.YthgjflgidalmlaaDoor
