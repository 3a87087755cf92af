
/- A list of fields as an argument: opened. -/
import Derived.Test.YtmmdicndjebbjaaFields
import Derived.Deep.SlicePairs
import Derived.ChangeMaps5
import Derived.Carry
import Derived.ChangeOld
namespace Go.Proofs.Ytmmdicndjebbjaa
open Go.RowKit Go.Lib Go.ChangeShapes Go.WideShapes
def strOf : Value → ByteArray
  | .string s => s
  | _ => ⟨#[]⟩
theorem cell_lt {w : World} {a : Addr} {v : Value} (h : w.cell? a = some v) : a.block < w.heap.size := by
  by_cases hb : a.block < w.heap.size
  · exact hb
  · have e : w.heap[a.block]? = none := Array.getElem?_eq_none (by omega)
    simp [World.cell?, e] at h
theorem add_next (a : Addr) (i : Nat) : a.add (i * 2 + 1) = ⟨(a.add (i * 2)).block, (a.add (i * 2)).off + 1, none⟩ := by
  unfold Addr.add
  by_cases h : i * 2 = 0
  · simp [h]
  · simp [h]
    omega
theorem open_fields {H : Type} {enc : TypeId × Value → H} {P : Program} {W : World} {sp : Nat → Bool} {t e : TypeId} {f0 f1 : Field} {v : Value} {d : DataW H} {ps : List MemPlace}
    (ht : P.underlying t = some (.slice e)) (he : P.underlying e = some (.struct #[f0, f1])) (ce : P.cellsOf e = 2) (o0 : f0.offset = 0) (o1 : f1.offset = 1) (t0 : f0.type = 9) (t1 : f1.type = 9)
    (c9 : P.cellsOf 9 = 1) (u9 : P.underlying 9 = some .string) {r : Reach} {b0 : Nat} (hval : Value.okWide P W r b0 t v) (h : DataW.Trod enc P W 0 sp true t v d ps) :
    ∃ o F cap, v = .slice o F.length cap ∧ Fld W.heap.size W o F ∧ F.length ≤ maxLen ∧ ∀ f ∈ F, f.1.size ≤ maxLen ∧ f.2.size ≤ maxLen := by
  obtain ⟨a, len, cap, rfl⟩ := okWide_slice ht hval
  obtain ⟨fuel, hx⟩ := h
  rcases Go.Deep.open_slice_pairs ht he ce o0 o1 (by rw [t0]; exact c9) (by rw [t1]; exact c9) hx with ⟨hc, -⟩ | ⟨a', len', cap', m, n, V0, V1, D0, D1, P0, P1, hc, -, hl, hm, hmm, -, hall⟩
  · simp [Value.cells] at hc
    obtain ⟨rfl, rfl, rfl⟩ := hc
    exact ⟨none, [], 0, rfl, fun i hi => absurd hi (Nat.not_lt_zero _), Nat.zero_le _, fun f hf => by cases hf⟩
  · simp [Value.cells] at hc
    obtain ⟨rfl, rfl, rfl⟩ := hc
    have hlm : len ≤ m := by rw [hmm]; split <;> omega
    have hE : ∀ i, i < m → ∃ s0 s1 : ByteArray, V0 i = .string s0 ∧ V1 i = .string s1 ∧ s0.size ≤ maxLen ∧ s1.size ≤ maxLen := by
      intro i hi
      obtain ⟨-, -, h2, h3⟩ := hall i hi
      rw [t0] at h2
      rw [t1] at h3
      obtain ⟨s0, e0, -, z0⟩ := DataW.trod_string u9 h2
      obtain ⟨s1, e1, -, z1⟩ := DataW.trod_string u9 h3
      exact ⟨s0, s1, by simpa using e0, by simpa using e1, z0, z1⟩
    refine ⟨some a', (List.range len).map fun i => (strOf (V0 i), strOf (V1 i)), cap, by simp, ?_, by simp; omega, ?_⟩
    · intro i hi
      simp at hi
      obtain ⟨h0, h1, -, -⟩ := hall i (by omega)
      obtain ⟨s0, s1, e0, e1, -, -⟩ := hE i (by omega)
      rw [e0] at h0
      rw [e1, add_next] at h1
      have hb := cell_lt h0
      rw [add_block] at hb
      refine ⟨a', rfl, hb, ?_, ?_⟩
      · simp [e0, strOf, h0]
      · simp [e1, strOf, h1]
    · intro f hf
      simp only [List.mem_map, List.mem_range] at hf
      obtain ⟨i, hi, rfl⟩ := hf
      obtain ⟨s0, s1, e0, e1, z0, z1⟩ := hE i (by omega)
      simp [e0, e1, strOf, z0, z1]
end Go.Proofs.Ytmmdicndjebbjaa
