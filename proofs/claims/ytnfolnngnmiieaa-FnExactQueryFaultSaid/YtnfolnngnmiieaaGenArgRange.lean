
/- Range as an argument: opened. (By tools/gen/structs.py.) -/
import Derived.Test.YtnfolnngnmiieaaGenArgBase
import Derived.Test.YtnfolnngnmiieaaGenRange
namespace Go.Proofs.Ytnfolnngnmiieaa
open Go.RowKit Go.Lib Go.ChangeShapes Go.WideShapes
theorem Try.cells_Range : Try.prog.cellsOf 56 = 2 := by kernel_rfl
theorem Try.cells_sRange : Try.prog.cellsOf 30 = 1 := by kernel_rfl
theorem GRange_list {α : Type} {l : List α} (h : l.length = 2) : ∃ c0 c1, l = [c0, c1] := by
  match l, h with
  | [c0, c1], _ => exact ⟨c0, c1, rfl⟩
theorem GRange_of {H : Type} {enc : TypeId × Value → H} {W : World} {sp : Nat → Bool} {k0 : Nat} {cs : List Value} {y : DataW H × List MemPlace} (hlen : cs.length = 2) (h2 : DataW.trod enc Try.prog W 0 sp true k0 56 cs = some y) :
    ∃ (q : GRange), cs = [.int .i64 q.fromF, .int .i64 q.toF] ∧ q.fits maxLen := by
  obtain ⟨xs, k, -, -, -, hxl, hf⟩ := DataW.trod_struct Try.underlying56 h2
  obtain ⟨x0, x1, rfl⟩ := GRange_list hlen
  obtain ⟨y0, y1, rfl⟩ := GRange_list (hxl.trans rfl)
  have g0 := hf 0 _ rfl
  simp [Try.cells2] at g0
  obtain ⟨z0, e0, -⟩ := DataW.trod_int Try.underlying2 g0
  have e0 : x0 = .int .i64 z0 := by simpa using e0
  have g1 := hf 1 _ rfl
  simp [Try.cells2] at g1
  obtain ⟨z1, e1, -⟩ := DataW.trod_int Try.underlying2 g1
  have e1 : x1 = .int .i64 z1 := by simpa using e1
  subst e0 e1
  exact ⟨⟨z0, z1⟩, rfl, ⟨Nat.zero_le _, rfl⟩⟩
theorem GRange_arg {H : Type} {enc : TypeId × Value → H} {W : World} {sp : Nat → Bool} {v : Value} {d : DataW H} {ps : List MemPlace} {r : Reach} {b0 : Nat} (hval : Value.okWide Try.prog W r b0 56 v) (h : DataW.Trod enc Try.prog W 0 sp true 56 v d ps) :
    ∃ (q : GRange), v = GRangeV q ∧ q.fits maxLen := by
  obtain ⟨cs, rfl, hsz⟩ := Go.WideShapes.okWide_struct Try.underlying56 hval
  obtain ⟨fuel, hf⟩ := h
  obtain ⟨q, e, hfit⟩ := GRange_of (by simp only [Value.cells]; rw [Array.length_toList]; exact hsz.trans (by kernel_rfl)) hf
  simp only [Value.cells] at e
  have e2 := congrArg List.toArray e
  rw [Array.toArray_toList] at e2
  subst e2
  exact ⟨q, rfl, hfit⟩
theorem open_SRange {H : Type} {enc : TypeId × Value → H} {W : World} {sp : Nat → Bool} {v : Value} {y : DataW H × List MemPlace} {fuel : Nat} (hx : DataW.trod enc Try.prog W 0 sp true fuel 30 [v] = some y) :
    ∃ o F cap, v = .slice o F.length cap ∧ GRangesL 0 W.heap.size W o F ∧ F.length ≤ maxLen ∧ ∀ f ∈ F, f.fits maxLen := by
  rcases Go.Deep.open_slice Try.underlying30 hx with ⟨hc, -⟩ | ⟨a', len, cap, m, n, D, Pl, hc, -, hl, hm, hmm, -, hall⟩
  · simp at hc
    subst hc
    exact ⟨none, [], 0, rfl, fun i hi => absurd hi (Nat.not_lt_zero _), Nat.zero_le _, fun f hf => by cases hf⟩
  · simp at hc
    subst hc
    have hlm : len ≤ m := by rw [hmm]; split <;> omega
    have each : ∀ i, i < m → ∃ q : GRange, (GRangeAt W (a'.add (i * 2)) q) ∧ q.fits maxLen ∧ a'.block < W.heap.size := by
      intro i hi
      obtain ⟨cs', h1, h2⟩ := hall i hi
      rw [Try.cells_Range] at h1
      obtain ⟨_, hlen, hcell⟩ := World.cells?_some h1
      obtain ⟨q, rfl, hfit⟩ := GRange_of hlen h2
      have d0 := hcell 0 (by omega)
      have d1 := hcell 1 (by omega)
      rw [show (a'.add (i * 2)).add 0 = a'.add (i * 2) from add_zeroG _] at d0
      rw [add_moreG _ 0] at d1
      exact ⟨q, ⟨by simpa using d0, by simpa using d1⟩, hfit, by have := World.block_lt_of_cell? _ _ d0; rw [add_blockG] at this; exact this⟩
    haveI : Inhabited GRange := ⟨⟨0, 0⟩⟩
    obtain ⟨q, hq⟩ := Go.Deep.choose_lt each
    refine ⟨some a', (List.range len).map q, cap, by simp, ?_, by simp; omega, ?_⟩
    · intro i hi
      simp at hi
      obtain ⟨x1, -, x3⟩ := hq i (by omega)
      exact ⟨a', rfl, Nat.zero_le _, x3, by simpa using x1⟩
    · intro f hf
      simp only [List.mem_map, List.mem_range] at hf
      obtain ⟨i, hi, rfl⟩ := hf
      exact (hq i (by omega)).2.1
end Go.Proofs.Ytnfolnngnmiieaa
