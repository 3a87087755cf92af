
/- A list of nodes as an argument: opened. -/
import Derived.Test.YtmpakfpmcohcgaaNodes
import Derived.Deep.Slices
import Derived.SliceStrings
import Derived.ChangeSlices
import Derived.ChangeMaps5
import Derived.Carry
import Derived.ChangeOld
namespace Go.Proofs.Ytmpakfpmcohcgaa
open Go.RowKit Go.Lib Go.ChangeShapes Go.WideShapes
theorem add_more (a : Addr) (j : Nat) : a.add (j + 1) = ⟨a.block, a.off + (j + 1), none⟩ := by
  unfold Addr.add
  simp
theorem block_lt_at {W : World} {a : Addr} {i : Nat} {v : Value} (h : W.cell? (a.add i) = some v) : a.block < W.heap.size := by
  have hlt : (a.add i).block < W.heap.size := World.block_lt_of_cell? _ _ h
  have e : (a.add i).block = a.block := by unfold Addr.add; split <;> rfl
  rw [← e]; exact hlt
theorem open_textsN {H : Type} {enc : TypeId × Value → H} {P : Program} {W : World} {sp : Nat → Bool} {t e : TypeId} {v : Value} {y : DataW H × List MemPlace} {fuel : Nat}
    (ht : P.underlying t = some (.slice e)) (he : P.underlying e = some .string) (ce : P.cellsOf e = 1) (hx : DataW.trod enc P W 0 sp true fuel t [v] = some y) :
    ∃ F o cap, v = .slice o F.length cap ∧ Tx W.heap.size W o F ∧ F.length ≤ maxLen ∧ ∀ f ∈ F, f.size ≤ maxLen := by
  rcases Go.ChangeShapes.open_strings ht he ce hx with ⟨hc, -⟩ | ⟨a', len', cap', zs, hc, -, hl, hm, hz, -, hcell, hsz⟩
  · simp at hc
    subst hc
    exact ⟨[], none, 0, rfl, fun i hi => absurd hi (Nat.not_lt_zero _), Nat.zero_le _, fun f hf => by cases hf⟩
  · simp at hc
    subst hc
    have hlz : len' ≤ zs.length := by rw [hz]; split <;> omega
    refine ⟨zs.take len', some a', cap', by rw [List.length_take]; simp; omega, ?_, by rw [List.length_take]; omega, fun f hf => hsz f (List.mem_of_mem_take hf)⟩
    intro i hi
    rw [List.length_take] at hi
    have hc := hcell i (by omega)
    refine ⟨a', rfl, block_lt_at hc, ?_⟩
    rw [hc, List.getElem_take, List.getD_eq_getElem?_getD, List.getElem?_eq_getElem (by omega)]
    rfl
theorem open_intsN {H : Type} {enc : TypeId × Value → H} {P : Program} {W : World} {sp : Nat → Bool} {t e : TypeId} {v : Value} {y : DataW H × List MemPlace} {fuel : Nat}
    (ht : P.underlying t = some (.slice e)) (he : P.underlying e = some (.int .i64)) (ce : P.cellsOf e = 1) (hx : DataW.trod enc P W 0 sp true fuel t [v] = some y) :
    ∃ F o cap, v = .slice o F.length cap ∧ Ints W.heap.size W o F ∧ F.length ≤ maxLen := by
  rcases open_ints ht he ce hx with ⟨hc, -⟩ | ⟨a', len', cap', zs, hc, -, hl, hm, hz, -, hcell, -⟩
  · simp at hc
    subst hc
    exact ⟨[], none, 0, rfl, fun i hi => absurd hi (Nat.not_lt_zero _), Nat.zero_le _⟩
  · simp at hc
    subst hc
    have hlz : len' ≤ zs.length := by rw [hz]; split <;> omega
    refine ⟨zs.take len', some a', cap', by rw [List.length_take]; simp; omega, ?_, by rw [List.length_take]; omega⟩
    intro i hi
    rw [List.length_take] at hi
    have hc := hcell i (by omega)
    refine ⟨a', rfl, block_lt_at hc, ?_⟩
    rw [hc, List.getElem_take, List.getD_eq_getElem?_getD, List.getElem?_eq_getElem (by omega)]
    rfl
theorem list7 {α : Type} {l : List α} (h : l.length = 7) : ∃ c0 c1 c2 c3 c4 c5 c6, l = [c0, c1, c2, c3, c4, c5, c6] := by
  match l, h with
  | [c0, c1, c2, c3, c4, c5, c6], _ => exact ⟨c0, c1, c2, c3, c4, c5, c6, rfl⟩
theorem node_of {H : Type} {enc : TypeId × Value → H} {P : Program} {W : World} {sp : Nat → Bool} {e tt tn : TypeId} {f0 f1 f2 f3 f4 f5 f6 : Field} {n : Nat} {A : Addr} {cs : List Value} {y : DataW H × List MemPlace}
    (he : P.underlying e = some (.struct #[f0, f1, f2, f3, f4, f5, f6])) (ce : P.cellsOf e = 7)
    (o0 : f0.offset = 0) (o1 : f1.offset = 1) (o2 : f2.offset = 2) (o3 : f3.offset = 3) (o4 : f4.offset = 4) (o5 : f5.offset = 5) (o6 : f6.offset = 6)
    (t0 : f0.type = 2) (t1 : f1.type = 2) (t2 : f2.type = 2) (t3 : f3.type = 9) (t4 : f4.type = tt) (t5 : f5.type = tt) (t6 : f6.type = tn)
    (c2 : P.cellsOf 2 = 1) (c9 : P.cellsOf 9 = 1) (ctt : P.cellsOf tt = 1) (ctn : P.cellsOf tn = 1) (u2 : P.underlying 2 = some (.int .i64)) (u9 : P.underlying 9 = some .string) (utt : P.underlying tt = some (.slice 9)) (utn : P.underlying tn = some (.slice 2))
    (h1 : W.cells? 0 A (P.cellsOf e) = some cs) (h2 : DataW.trod enc P W 0 sp true n e cs = some y) :
    ∃ (q : Nd), (∃ vn vk vd, NdAt W A q vn vk vd ∧ NdIn W.heap.size W q vn vk vd) ∧ q.fits maxLen ∧ A.block < W.heap.size := by
  rw [ce] at h1
  obtain ⟨_, hlen, hcell⟩ := World.cells?_some h1
  obtain ⟨xs, k, -, -, -, hxl, hf⟩ := DataW.trod_struct he h2
  obtain ⟨v0, v1, v2, v3, v4, v5, v6, rfl⟩ := list7 hlen
  obtain ⟨y0, y1, y2, y3, y4, y5, y6, rfl⟩ := list7 (hxl.trans rfl)
  have g0 := hf 0 f0 rfl
  have g1 := hf 1 f1 rfl
  have g2 := hf 2 f2 rfl
  have g3 := hf 3 f3 rfl
  have g4 := hf 4 f4 rfl
  have g5 := hf 5 f5 rfl
  have g6 := hf 6 f6 rfl
  simp [o0, t0, c2] at g0
  simp [o1, t1, c2] at g1
  simp [o2, t2, c2] at g2
  simp [o3, t3, c9] at g3
  simp [o4, t4, ctt] at g4
  simp [o5, t5, ctt] at g5
  simp [o6, t6, ctn] at g6
  obtain ⟨z0, e0, -⟩ := DataW.trod_int u2 g0
  obtain ⟨z1, e1, -⟩ := DataW.trod_int u2 g1
  obtain ⟨z2, e2, -⟩ := DataW.trod_int u2 g2
  obtain ⟨z3, e3, -, b3⟩ := DataW.trod_string u9 g3
  obtain ⟨F4, p4, q4, e4, i4, l4, b4⟩ := open_textsN utt u9 c9 g4
  obtain ⟨F5, p5, q5, e5, i5, l5, b5⟩ := open_textsN utt u9 c9 g5
  obtain ⟨F6, p6, q6, e6, i6, l6⟩ := open_intsN utn u2 c2 g6
  have d0 := hcell 0 (by omega)
  have d1 := hcell 1 (by omega)
  have d2 := hcell 2 (by omega)
  have d3 := hcell 3 (by omega)
  have d4 := hcell 4 (by omega)
  have d5 := hcell 5 (by omega)
  have d6 := hcell 6 (by omega)
  rw [show A.add 0 = A by simp [Addr.add]] at d0
  rw [add_more A 0] at d1
  rw [add_more A 1] at d2
  rw [add_more A 2] at d3
  rw [add_more A 3] at d4
  rw [add_more A 4] at d5
  rw [add_more A 5] at d6
  have f0' : v0 = .int .i64 z0 := by simpa using e0
  have f1' : v1 = .int .i64 z1 := by simpa using e1
  have f2' : v2 = .int .i64 z2 := by simpa using e2
  have f3' : v3 = .string z3 := by simpa using e3
  subst f0' f1' f2' f3' e4 e5 e6
  exact ⟨⟨z0, z1, z2, z3, F4, F5, F6⟩, ⟨_, _, _, ⟨by simpa using d0, by simpa using d1, by simpa using d2, by simpa using d3, by simpa using d4, by simpa using d5, by simpa using d6⟩, ⟨⟨_, _, rfl, i4⟩, ⟨_, _, rfl, i5⟩, ⟨_, _, rfl, i6⟩⟩⟩, ⟨b3, l4, b4, l5, b5, l6⟩, World.block_lt_of_cell? _ _ d0⟩
theorem open_nodes {H : Type} {enc : TypeId × Value → H} {P : Program} {W : World} {sp : Nat → Bool} {t e tt tn : TypeId} {f0 f1 f2 f3 f4 f5 f6 : Field} {v : Value} {d : DataW H} {ps : List MemPlace}
    (ht : P.underlying t = some (.slice e)) (he : P.underlying e = some (.struct #[f0, f1, f2, f3, f4, f5, f6])) (ce : P.cellsOf e = 7)
    (o0 : f0.offset = 0) (o1 : f1.offset = 1) (o2 : f2.offset = 2) (o3 : f3.offset = 3) (o4 : f4.offset = 4) (o5 : f5.offset = 5) (o6 : f6.offset = 6)
    (t0 : f0.type = 2) (t1 : f1.type = 2) (t2 : f2.type = 2) (t3 : f3.type = 9) (t4 : f4.type = tt) (t5 : f5.type = tt) (t6 : f6.type = tn)
    (c2 : P.cellsOf 2 = 1) (c9 : P.cellsOf 9 = 1) (ctt : P.cellsOf tt = 1) (ctn : P.cellsOf tn = 1) (u2 : P.underlying 2 = some (.int .i64)) (u9 : P.underlying 9 = some .string) (utt : P.underlying tt = some (.slice 9)) (utn : P.underlying tn = some (.slice 2))
    {r : Reach} {b0 : Nat} (hval : Value.okWide P W r b0 t v) (h : DataW.Trod enc P W 0 sp true t v d ps) :
    ∃ o F cap, v = .slice o F.length cap ∧ Nds W.heap.size W o F ∧ F.length ≤ maxLen ∧ ∀ f ∈ F, f.fits maxLen := by
  obtain ⟨a, len, cap, rfl⟩ := okWide_slice ht hval
  obtain ⟨fuel, hx⟩ := h
  rcases Go.Deep.open_slice ht hx with ⟨hc, -⟩ | ⟨a', len', cap', m, n, D, Pl, hc, -, hl, hm, hmm, -, hall⟩
  · simp [Value.cells] at hc
    obtain ⟨rfl, rfl, rfl⟩ := hc
    exact ⟨none, [], 0, rfl, fun i hi => absurd hi (Nat.not_lt_zero _), Nat.zero_le _, fun f hf => by cases hf⟩
  · simp [Value.cells] at hc
    obtain ⟨rfl, rfl, rfl⟩ := hc
    have hlm : len ≤ m := by rw [hmm]; split <;> omega
    have each : ∀ i, i < m → ∃ q : Nd, (∃ vn vk vd, NdAt W (a'.add (i * 7)) q vn vk vd ∧ NdIn W.heap.size W q vn vk vd) ∧ q.fits maxLen ∧ a'.block < W.heap.size := by
      intro i hi
      obtain ⟨cs', h1, h2⟩ := hall i hi
      obtain ⟨q, q1, q2, q3⟩ := node_of he ce o0 o1 o2 o3 o4 o5 o6 t0 t1 t2 t3 t4 t5 t6 c2 c9 ctt ctn u2 u9 utt utn h1 h2
      rw [ce] at q1 q3
      rw [add_blockN] at q3
      exact ⟨q, q1, q2, q3⟩
    haveI : Inhabited Nd := ⟨⟨0, 0, 0, ⟨#[]⟩, [], [], []⟩⟩
    obtain ⟨q, hq⟩ := Go.Deep.choose_lt each
    refine ⟨some a', (List.range len).map q, cap, by simp, ?_, by simp; omega, ?_⟩
    · intro i hi
      simp at hi
      obtain ⟨⟨vn, vk, vd, x1, x2⟩, -, x3⟩ := hq i (by omega)
      refine ⟨a', vn, vk, vd, rfl, x3, ?_, ?_⟩
      · simpa using x1
      · simpa using x2
    · intro f hf
      simp only [List.mem_map, List.mem_range] at hf
      obtain ⟨i, hi, rfl⟩ := hf
      exact (hq i (by omega)).2.1
end Go.Proofs.Ytmpakfpmcohcgaa
