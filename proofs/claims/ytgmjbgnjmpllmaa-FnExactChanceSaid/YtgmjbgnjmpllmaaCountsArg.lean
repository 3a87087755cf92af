
/- A table of words, and a score, as arguments: opened. -/
import Derived.Test.YtgmjbgnjmpllmaaCounts
import Derived.Deep.Slices
import Derived.SliceStrings
import Derived.ChangeSlices
import Derived.ChangeMaps5
import Derived.Carry
import Derived.ChangeOld
import Derived.Lib.SmallJoins
namespace Go.Proofs.Ytgmjbgnjmpllmaa
open Go.RowKit Go.Lib Go.ChangeShapes Go.WideShapes
theorem add_moreW (a : Addr) (j : Nat) : a.add (j + 1) = ⟨a.block, a.off + (j + 1), none⟩ := by
  unfold Addr.add
  simp
theorem list3w {α : Type} {l : List α} (h : l.length = 3) : ∃ c0 c1 c2, l = [c0, c1, c2] := by
  match l, h with
  | [c0, c1, c2], _ => exact ⟨c0, c1, c2, rfl⟩
theorem block_lt_atW {W : World} {a : Addr} {i : Nat} {v : Value} (h : W.cell? (a.add i) = some v) : a.block < W.heap.size := by
  have hlt : (a.add i).block < W.heap.size := World.block_lt_of_cell? _ _ h
  have e : (a.add i).block = a.block := by unfold Addr.add; split <;> rfl
  rw [← e]; exact hlt
theorem open_textsW {H : Type} {enc : TypeId × Value → H} {P : Program} {W : World} {sp : Nat → Bool} {t e : TypeId} {v : Value} {y : DataW H × List MemPlace} {fuel : Nat}
    (ht : P.underlying t = some (.slice e)) (he : P.underlying e = some .string) (ce : P.cellsOf e = 1) (hx : DataW.trod enc P W 0 sp true fuel t [v] = some y) :
    ∃ F o cap, v = .slice o F.length cap ∧ Tx W.heap.size W o F ∧ F.length ≤ maxLen ∧ ∀ f ∈ F, f.size ≤ maxLen := by
  rcases Go.ChangeShapes.open_strings ht he ce hx with ⟨hc, -⟩ | ⟨a', len', cap', zs, hc, -, hl, hm, hz, -, hcell, hsz⟩
  · simp at hc
    subst hc
    exact ⟨[], none, 0, rfl, fun i hi => absurd hi (Nat.not_lt_zero _), Nat.zero_le _, fun f hf => by cases hf⟩
  · simp at hc
    subst hc
    have hlz : len' ≤ zs.length := by rw [hz]; split <;> omega
    refine ⟨zs.take len', some a', cap', by rw [List.length_take]; simp; omega, ?_, by rw [List.length_take]; omega, fun f hf => hsz f (List.mem_of_mem_take hf)⟩
    intro i hi
    rw [List.length_take] at hi
    have hc := hcell i (by omega)
    refine ⟨a', rfl, block_lt_atW hc, ?_⟩
    rw [hc, List.getElem_take, List.getD_eq_getElem?_getD, List.getElem?_eq_getElem (by omega)]
    rfl
theorem count_of {H : Type} {enc : TypeId × Value → H} {P : Program} {W : World} {sp : Nat → Bool} {e : TypeId} {f0 f1 f2 : Field} {n : Nat} {A : Addr} {cs : List Value} {y : DataW H × List MemPlace}
    (he : P.underlying e = some (.struct #[f0, f1, f2])) (ce : P.cellsOf e = 3) (o0 : f0.offset = 0) (o1 : f1.offset = 1) (o2 : f2.offset = 2) (t0 : f0.type = 9) (t1 : f1.type = 2) (t2 : f2.type = 2)
    (c2 : P.cellsOf 2 = 1) (c9 : P.cellsOf 9 = 1) (u2 : P.underlying 2 = some (.int .i64)) (u9 : P.underlying 9 = some .string)
    (h1 : W.cells? 0 A (P.cellsOf e) = some cs) (h2 : DataW.trod enc P W 0 sp true n e cs = some y) :
    ∃ (q : Wc), WcAt W A q ∧ q.word.size ≤ maxLen ∧ A.block < W.heap.size := by
  rw [ce] at h1
  obtain ⟨_, hlen, hcell⟩ := World.cells?_some h1
  obtain ⟨xs, k, -, -, -, hxl, hf⟩ := DataW.trod_struct he h2
  obtain ⟨v0, v1, v2, rfl⟩ := list3w hlen
  obtain ⟨y0, y1, y2, rfl⟩ := list3w (hxl.trans rfl)
  have g0 := hf 0 f0 rfl
  have g1 := hf 1 f1 rfl
  have g2 := hf 2 f2 rfl
  simp [o0, t0, c9] at g0
  simp [o1, t1, c2] at g1
  simp [o2, t2, c2] at g2
  obtain ⟨z0, e0, -, b0⟩ := DataW.trod_string u9 g0
  obtain ⟨z1, e1, -⟩ := DataW.trod_int u2 g1
  obtain ⟨z2, e2, -⟩ := DataW.trod_int u2 g2
  have d0 := hcell 0 (by omega)
  have d1 := hcell 1 (by omega)
  have d2 := hcell 2 (by omega)
  rw [show A.add 0 = A by simp [Addr.add]] at d0
  rw [add_moreW A 0] at d1
  rw [add_moreW A 1] at d2
  have f0' : v0 = .string z0 := by simpa using e0
  have f1' : v1 = .int .i64 z1 := by simpa using e1
  have f2' : v2 = .int .i64 z2 := by simpa using e2
  subst f0' f1' f2'
  exact ⟨⟨z0, z1, z2⟩, ⟨by simpa using d0, by simpa using d1, by simpa using d2⟩, b0, World.block_lt_of_cell? _ _ d0⟩
theorem open_counts {H : Type} {enc : TypeId × Value → H} {P : Program} {W : World} {sp : Nat → Bool} {t e : TypeId} {f0 f1 f2 : Field} {v : Value} {y : DataW H × List MemPlace} {fuel : Nat}
    (ht : P.underlying t = some (.slice e)) (he : P.underlying e = some (.struct #[f0, f1, f2])) (ce : P.cellsOf e = 3) (o0 : f0.offset = 0) (o1 : f1.offset = 1) (o2 : f2.offset = 2) (t0 : f0.type = 9) (t1 : f1.type = 2) (t2 : f2.type = 2)
    (c2 : P.cellsOf 2 = 1) (c9 : P.cellsOf 9 = 1) (u2 : P.underlying 2 = some (.int .i64)) (u9 : P.underlying 9 = some .string) (hx : DataW.trod enc P W 0 sp true fuel t [v] = some y) :
    ∃ o F cap, v = .slice o F.length cap ∧ Wcs W.heap.size W o F ∧ F.length ≤ maxLen ∧ ∀ f ∈ F, f.word.size ≤ maxLen := by
  rcases Go.Deep.open_slice ht hx with ⟨hc, -⟩ | ⟨a', len, cap, m, n, D, Pl, hc, -, hl, hm, hmm, -, hall⟩
  · simp at hc
    subst hc
    exact ⟨none, [], 0, rfl, fun i hi => absurd hi (Nat.not_lt_zero _), Nat.zero_le _, fun f hf => by cases hf⟩
  · simp at hc
    subst hc
    have hlm : len ≤ m := by rw [hmm]; split <;> omega
    have each : ∀ i, i < m → ∃ q : Wc, WcAt W (a'.add (i * 3)) q ∧ q.word.size ≤ maxLen ∧ a'.block < W.heap.size := by
      intro i hi
      obtain ⟨cs', h1, h2⟩ := hall i hi
      obtain ⟨q, q1, q2, q3⟩ := count_of he ce o0 o1 o2 t0 t1 t2 c2 c9 u2 u9 h1 h2
      rw [ce] at q1 q3
      rw [add_blockW] at q3
      exact ⟨q, q1, q2, q3⟩
    haveI : Inhabited Wc := ⟨⟨⟨#[]⟩, 0, 0⟩⟩
    obtain ⟨q, hq⟩ := Go.Deep.choose_lt each
    refine ⟨some a', (List.range len).map q, cap, by simp, ?_, by simp; omega, ?_⟩
    · intro i hi
      simp at hi
      obtain ⟨x1, -, x3⟩ := hq i (by omega)
      exact ⟨a', rfl, x3, by simpa using x1⟩
    · intro f hf
      simp only [List.mem_map, List.mem_range] at hf
      obtain ⟨i, hi, rfl⟩ := hf
      exact (hq i (by omega)).2.1
theorem open_table {H : Type} {enc : TypeId × Value → H} {P : Program} {W : World} {sp : Nat → Bool} {s t e : TypeId} {g0 g1 g2 f0 f1 f2 : Field} {v : Value} {d : DataW H} {ps : List MemPlace}
    (hs : P.underlying s = some (.struct #[g0, g1, g2])) (hone : Go.Deep.oneCellFields P #[g0, g1, g2] = true) (hC : P.cellsOf s = 3) (s0 : g0.type = 2) (s1 : g1.type = 2) (s2 : g2.type = t)
    (ht : P.underlying t = some (.slice e)) (he : P.underlying e = some (.struct #[f0, f1, f2])) (ce : P.cellsOf e = 3) (o0 : f0.offset = 0) (o1 : f1.offset = 1) (o2 : f2.offset = 2) (t0 : f0.type = 9) (t1 : f1.type = 2) (t2 : f2.type = 2)
    (c2 : P.cellsOf 2 = 1) (c9 : P.cellsOf 9 = 1) (u2 : P.underlying 2 = some (.int .i64)) (u9 : P.underlying 9 = some .string) {r : Reach} {b0 : Nat} (hval : Value.okWide P W r b0 s v) (h : DataW.Trod enc P W 0 sp true s v d ps) :
    ∃ g b o F cap, v = tbV g b (.slice o F.length cap) ∧ Wcs W.heap.size W o F ∧ F.length ≤ maxLen ∧ ∀ f ∈ F, f.word.size ≤ maxLen := by
  obtain ⟨v0, v1, v2, y0, y1, y2, n, rfl, -, -, h0, h1, h2⟩ := Go.Joins.open_agg3 hs hone hC hval h
  rw [s0] at h0
  rw [s1] at h1
  rw [s2] at h2
  obtain ⟨z0, e0, -⟩ := DataW.trod_int u2 h0
  obtain ⟨z1, e1, -⟩ := DataW.trod_int u2 h1
  obtain ⟨o, F, cap, rfl, x1, x2, x3⟩ := open_counts ht he ce o0 o1 o2 t0 t1 t2 c2 c9 u2 u9 h2
  have f0' : v0 = .int .i64 z0 := by simpa using e0
  have f1' : v1 = .int .i64 z1 := by simpa using e1
  subst f0' f1'
  exact ⟨z0, z1, o, F, cap, rfl, x1, x2, x3⟩
theorem open_score {H : Type} {enc : TypeId × Value → H} {P : Program} {W : World} {sp : Nat → Bool} {s t : TypeId} {g0 g1 g2 : Field} {v : Value} {d : DataW H} {ps : List MemPlace}
    (hs : P.underlying s = some (.struct #[g0, g1, g2])) (hone : Go.Deep.oneCellFields P #[g0, g1, g2] = true) (hC : P.cellsOf s = 3) (s0 : g0.type = 2) (s1 : g1.type = 2) (s2 : g2.type = t)
    (ht : P.underlying t = some (.slice 9)) (c9 : P.cellsOf 9 = 1) (u2 : P.underlying 2 = some (.int .i64)) (u9 : P.underlying 9 = some .string) {r : Reach} {b0 : Nat} (hval : Value.okWide P W r b0 s v) (h : DataW.Trod enc P W 0 sp true s v d ps) :
    ∃ g b o F cap, v = tbV g b (.slice o F.length cap) ∧ Tx W.heap.size W o F ∧ F.length ≤ maxLen ∧ ∀ f ∈ F, f.size ≤ maxLen := by
  obtain ⟨v0, v1, v2, y0, y1, y2, n, rfl, -, -, h0, h1, h2⟩ := Go.Joins.open_agg3 hs hone hC hval h
  rw [s0] at h0
  rw [s1] at h1
  rw [s2] at h2
  obtain ⟨z0, e0, -⟩ := DataW.trod_int u2 h0
  obtain ⟨z1, e1, -⟩ := DataW.trod_int u2 h1
  obtain ⟨F, o, cap, rfl, x1, x2, x3⟩ := open_textsW ht u9 c9 h2
  have f0' : v0 = .int .i64 z0 := by simpa using e0
  have f1' : v1 = .int .i64 z1 := by simpa using e1
  subst f0' f1'
  exact ⟨z0, z1, o, F, cap, rfl, x1, x2, x3⟩
end Go.Proofs.Ytgmjbgnjmpllmaa
