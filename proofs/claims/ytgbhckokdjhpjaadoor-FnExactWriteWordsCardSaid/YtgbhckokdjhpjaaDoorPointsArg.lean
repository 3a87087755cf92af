
/- A list of numbers as an argument. -/
import Derived.Test.YtgbhckokdjhpjaaDoorPoints
import Derived.ChangeSlices
import Derived.ProofKit
import Derived.ChangeOld
import Derived.OpenShut
import Derived.ShutString
namespace Go.Proofs.YtgbhckokdjhpjaaDoor
open Go.ChangeShapes Go.WideShapes Go.ChangeAt Go.RowKit
theorem open_points {H : Type} {enc : TypeId × Value → H} {P : Program} {W : World} {sp : Nat → Bool} {t e : TypeId} {v : Value} {d : DataW H} {ps : List MemPlace}
    (ht : P.underlying t = some (.slice e)) (he : P.underlying e = some (.int .i64)) (ce : P.cellsOf e = 1) {r : Reach} {b0 : Nat} (hval : Value.okWide P W r b0 t v) (h : DataW.Trod enc P W 0 sp true t v d ps) :
    ∃ o F cap, v = .slice o F.length cap ∧ Ints W.heap.size W o F ∧ F.length ≤ maxLen := by
  obtain ⟨a, len, cap, rfl⟩ := okWide_slice ht hval
  obtain ⟨fuel, hx⟩ := h
  rcases open_ints ht he ce hx with ⟨hc, -⟩ | ⟨a', len', cap', zs, hc, -, hl, hm, hz, -, hcell, -⟩
  · simp [Value.cells] at hc
    obtain ⟨rfl, rfl, rfl⟩ := hc
    exact ⟨none, [], 0, rfl, fun i hi => absurd hi (Nat.not_lt_zero _), Nat.zero_le _⟩
  · simp [Value.cells] at hc
    obtain ⟨rfl, rfl, rfl⟩ := hc
    have hlz : len ≤ zs.length := by rw [hz]; split <;> omega
    refine ⟨some a', zs.take len, cap, by rw [List.length_take]; simp; omega, ?_, by rw [List.length_take]; omega⟩
    intro i hi
    rw [List.length_take] at hi
    have hc := hcell i (by omega)
    refine ⟨a', rfl, ?_, ?_⟩
    · have hlt : (a'.add i).block < W.heap.size := by
        unfold World.cell? at hc
        by_cases hb : (a'.add i).block < W.heap.size
        · exact hb
        · rw [Array.getElem?_eq_none (by omega)] at hc; simp at hc
      have e : (a'.add i).block = a'.block := by unfold Addr.add; split <;> rfl
      rw [← e]; exact hlt
    · rw [hc, List.getElem_take, List.getD_eq_getElem?_getD, List.getElem?_eq_getElem (by omega)]
      rfl
end Go.Proofs.YtgbhckokdjhpjaaDoor
