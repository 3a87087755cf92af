
/- Mail as an argument: opened. (By tools/gen/structs.py.) -/
import Derived.Test.YtbepjjnjdhkcbaaDoorGenArgGone
import Derived.Test.YtbepjjnjdhkcbaaDoorGenMail
namespace Go.Proofs.YtbepjjnjdhkcbaaDoor
open Go.RowKit Go.Lib Go.ChangeShapes Go.WideShapes
set_option maxRecDepth 20000 in
theorem Tryd.cells_Mail : Tryd.prog.cellsOf 79 = 5 := by kernel_rfl
set_option maxRecDepth 20000 in
theorem Tryd.cells_sMail : Tryd.prog.cellsOf 46 = 1 := by kernel_rfl
set_option maxRecDepth 20000 in
theorem GMail_list {α : Type} {l : List α} (h : l.length = 5) : ∃ c0 c1 c2 c3 c4, l = [c0, c1, c2, c3, c4] := by
  match l, h with
  | [c0, c1, c2, c3, c4], _ => exact ⟨c0, c1, c2, c3, c4, rfl⟩
set_option maxRecDepth 20000 in
theorem GMail_of {H : Type} {enc : TypeId × Value → H} {W : World} {sp : Nat → Bool} {k0 : Nat} {cs : List Value} {y : DataW H × List MemPlace} (hlen : cs.length = 5) (h2 : DataW.trod enc Tryd.prog W 0 sp true k0 79 cs = some y) :
    ∃ (q : GMail) (v3 : Value), cs = [.int .i64 q.uid, .int .i64 q.modF, .int .i64 q.time, v3, .string q.message] ∧ GMailIn 0 W.heap.size W q v3 ∧ q.fits maxLen := by
  obtain ⟨xs, k, -, -, -, hxl, hf⟩ := DataW.trod_struct Tryd.underlying79 h2
  obtain ⟨x0, x1, x2, x3, x4, rfl⟩ := GMail_list hlen
  obtain ⟨y0, y1, y2, y3, y4, rfl⟩ := GMail_list (hxl.trans rfl)
  have g0 := hf 0 _ rfl
  simp [Tryd.cells2] at g0
  obtain ⟨z0, e0, -⟩ := DataW.trod_int Tryd.underlying2 g0
  have e0 : x0 = .int .i64 z0 := by simpa using e0
  have g1 := hf 1 _ rfl
  simp [Tryd.cells2] at g1
  obtain ⟨z1, e1, -⟩ := DataW.trod_int Tryd.underlying2 g1
  have e1 : x1 = .int .i64 z1 := by simpa using e1
  have g2 := hf 2 _ rfl
  simp [Tryd.cells2] at g2
  obtain ⟨z2, e2, -⟩ := DataW.trod_int Tryd.underlying2 g2
  have e2 : x2 = .int .i64 z2 := by simpa using e2
  have g3 := hf 3 _ rfl
  simp [Tryd.cells_sStr] at g3
  obtain ⟨o3, z3, c3, e3, t3, l3, b3⟩ := open_SStr g3
  have g4 := hf 4 _ rfl
  simp [Tryd.cells9] at g4
  obtain ⟨z4, e4, -, b4⟩ := DataW.trod_string Tryd.underlying9 g4
  have e4 : x4 = .string z4 := by simpa using e4
  subst e0 e1 e2 e3 e4
  exact ⟨⟨z0, z1, z2, z3, z4⟩, _, rfl, ⟨⟨_, _, rfl, t3⟩⟩, ⟨l3, b3, b4⟩⟩
set_option maxRecDepth 20000 in
theorem GMail_arg {H : Type} {enc : TypeId × Value → H} {W : World} {sp : Nat → Bool} {v : Value} {d : DataW H} {ps : List MemPlace} {r : Reach} {b0 : Nat} (hval : Value.okWide Tryd.prog W r b0 79 v) (h : DataW.Trod enc Tryd.prog W 0 sp true 79 v d ps) :
    ∃ (q : GMail) (v3 : Value), v = GMailV q v3 ∧ GMailIn 0 W.heap.size W q v3 ∧ q.fits maxLen := by
  obtain ⟨cs, rfl, hsz⟩ := Go.WideShapes.okWide_struct Tryd.underlying79 hval
  obtain ⟨fuel, hf⟩ := h
  obtain ⟨q, v3, e, hIn, hfit⟩ := GMail_of (by simp only [Value.cells]; rw [Array.length_toList]; exact hsz.trans (by kernel_rfl)) hf
  simp only [Value.cells] at e
  have e2 := congrArg List.toArray e
  rw [Array.toArray_toList] at e2
  subst e2
  exact ⟨q, v3, rfl, hIn, hfit⟩
set_option maxRecDepth 20000 in
theorem open_SMail {H : Type} {enc : TypeId × Value → H} {W : World} {sp : Nat → Bool} {v : Value} {y : DataW H × List MemPlace} {fuel : Nat} (hx : DataW.trod enc Tryd.prog W 0 sp true fuel 46 [v] = some y) :
    ∃ o F cap, v = .slice o F.length cap ∧ GMailsL 0 W.heap.size W o F ∧ F.length ≤ maxLen ∧ ∀ f ∈ F, f.fits maxLen := by
  rcases Go.Deep.open_slice Tryd.underlying46 hx with ⟨hc, -⟩ | ⟨a', len, cap, m, n, D, Pl, hc, -, hl, hm, hmm, -, hall⟩
  · simp at hc
    subst hc
    exact ⟨none, [], 0, rfl, fun i hi => absurd hi (Nat.not_lt_zero _), Nat.zero_le _, fun f hf => by cases hf⟩
  · simp at hc
    subst hc
    have hlm : len ≤ m := by rw [hmm]; split <;> omega
    have each : ∀ i, i < m → ∃ q : GMail, (∃ v3, GMailAt W (a'.add (i * 5)) q v3 ∧ GMailIn 0 W.heap.size W q v3) ∧ q.fits maxLen ∧ a'.block < W.heap.size := by
      intro i hi
      obtain ⟨cs', h1, h2⟩ := hall i hi
      rw [Tryd.cells_Mail] at h1
      obtain ⟨_, hlen, hcell⟩ := World.cells?_some h1
      obtain ⟨q, v3, rfl, hIn, hfit⟩ := GMail_of hlen h2
      have d0 := hcell 0 (by omega)
      have d1 := hcell 1 (by omega)
      have d2 := hcell 2 (by omega)
      have d3 := hcell 3 (by omega)
      have d4 := hcell 4 (by omega)
      rw [show (a'.add (i * 5)).add 0 = a'.add (i * 5) from add_zeroG _] at d0
      rw [add_moreG _ 0] at d1
      rw [add_moreG _ 1] at d2
      rw [add_moreG _ 2] at d3
      rw [add_moreG _ 3] at d4
      exact ⟨q, ⟨v3, ⟨by simpa using d0, by simpa using d1, by simpa using d2, by simpa using d3, by simpa using d4⟩, hIn⟩, hfit, by have := World.block_lt_of_cell? _ _ d0; rw [add_blockG] at this; exact this⟩
    haveI : Inhabited GMail := ⟨⟨0, 0, 0, [], ⟨#[]⟩⟩⟩
    obtain ⟨q, hq⟩ := Go.Deep.choose_lt each
    refine ⟨some a', (List.range len).map q, cap, by simp, ?_, by simp; omega, ?_⟩
    · intro i hi
      simp at hi
      obtain ⟨⟨v3, x1, x2⟩, -, x3⟩ := hq i (by omega)
      exact ⟨a', v3, rfl, Nat.zero_le _, x3, by simpa using x1, by simpa using x2⟩
    · intro f hf
      simp only [List.mem_map, List.mem_range] at hf
      obtain ⟨i, hi, rfl⟩ := hf
      exact (hq i (by omega)).2.1
end Go.Proofs.YtbepjjnjdhkcbaaDoor
