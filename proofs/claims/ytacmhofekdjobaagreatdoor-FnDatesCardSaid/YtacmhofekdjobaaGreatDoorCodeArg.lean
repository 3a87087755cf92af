
/- Bytes as an argument of a law. -/
import Derived.Test.YtacmhofekdjobaaGreatDoorDraw
import Derived.ProofKit
import Derived.OpenShut
import Derived.ShutString
import Derived.ChangeOld
import Derived.ChangeSlices
import Derived.Below
import Derived.Carry
namespace Go.Proofs.YtacmhofekdjobaaGreatDoor
open Go.ChangeShapes Go.WideShapes Go.ChangeAt Go.RowKit
set_option maxRecDepth 20000 in
theorem wf8 (n : Int) (h : (Lit.int .u8 n).wf = true) : 0 ≤ n ∧ n < 256 := by
  have h' : (decide (IntKind.u8.min ≤ n) && decide (n ≤ IntKind.u8.max)) = true := h
  simp only [Bool.and_eq_true, decide_eq_true_eq] at h'
  have e0 : IntKind.u8.min = 0 := by decide
  have e1 : IntKind.u8.max = 255 := by decide
  omega
set_option maxRecDepth 20000 in
/-- Bytes as an argument. -/
theorem open_code {H : Type} {enc : TypeId × Value → H} {P : Program} {W : World} {sp : Nat → Bool} {t e : TypeId} {v : Value} {d : DataW H} {ps : List MemPlace}
    (ht : P.underlying t = some (.slice e)) (he : P.underlying e = some (.int .u8)) (ce : P.cellsOf e = 1) {r : Reach} {b0 : Nat} (hval : Value.okWide P W r b0 t v) (h : DataW.Trod enc P W 0 sp true t v d ps) :
    ∃ o c cap, v = .slice o c.length cap ∧ Code W.heap.size W o c ∧ c.length ≤ maxLen := by
  obtain ⟨a, len, cap, rfl⟩ := okWide_slice ht hval
  obtain ⟨fuel, hx⟩ := h
  rcases open_ints ht he ce hx with ⟨hc, -⟩ | ⟨a', len', cap', zs, hc, -, hl, hm, hz, -, hcell, hwf⟩
  · simp [Value.cells] at hc
    obtain ⟨rfl, rfl, rfl⟩ := hc
    exact ⟨none, [], 0, rfl, fun i hi => absurd hi (Nat.not_lt_zero _), Nat.zero_le _⟩
  · simp [Value.cells] at hc
    obtain ⟨rfl, rfl, rfl⟩ := hc
    have hlz : len ≤ zs.length := by rw [hz]; split <;> omega
    refine ⟨some a', (zs.take len).map fun n => UInt8.ofNat n.toNat, cap, by rw [List.length_map, List.length_take]; simp; omega, ?_, by rw [List.length_map, List.length_take]; omega⟩
    intro i hi
    rw [List.length_map, List.length_take] at hi
    have hc := hcell i (by omega)
    refine ⟨a', rfl, ?_, ?_⟩
    · have hlt : (a'.add i).block < W.heap.size := World.block_lt_of_cell? _ _ hc
      rw [← addr_block a' i]; exact hlt
    · have hw := wf8 zs[i] (hwf _ (List.getElem_mem (by omega)))
      have e : (((zs.take len).map fun n => UInt8.ofNat n.toNat)[i]'(by rw [List.length_map, List.length_take]; omega)).toNat = zs[i].toNat := by
        rw [List.getElem_map, List.getElem_take]
        simp [UInt8.toNat_ofNat']
        omega
      rw [e, hc, List.getD_eq_getElem?_getD, List.getElem?_eq_getElem (by omega)]
      show some (Value.int .u8 zs[i]) = _
      congr 2
      omega
end Go.Proofs.YtacmhofekdjobaaGreatDoor
