
/- The walks of the two WriteHead. -/
import Derived.Test.YtoekkjdkjmhmhaaHeadTests
import Derived.Test.YtoekkjdkjmhmhaaFields
namespace Go.Proofs.Ytoekkjdkjmhmhaa
open Go.RowKit Go.Lib
theorem heap_alloc_at (w : World) (o : Obj) : (w.alloc o).heap[w.heap.size]? = some o := by
  show (w.heap.push o)[w.heap.size]? = some o
  simp
/-- A field's variable: its two cells. -/
theorem var_cells {w : World} {g : Nat} {n v : ByteArray} {t : TypeId} {z : Nat × Nat} (h : w.heap[g]? = some (.cells #[.string n, .string v] t z)) :
    w.cell? ⟨g, 0, none⟩ = some (.string n) ∧ w.cell? ⟨g, 1, none⟩ = some (.string v) := by
  constructor <;> simp [World.cell?, h]
theorem Own.some_len {B : Nat} {v : Value} {p : List UInt8} {w : World} (h : Own B v p w) (hp : 0 < p.length) : ∃ g cap L, v = .slice (some ⟨g, 0, none⟩) L cap ∧ L = p.length := by
  rcases h.form with ⟨rfl, rfl⟩ | ⟨g, cap, rfl⟩
  · simp at hp
  · exact ⟨g, cap, _, rfl, rfl⟩
end Go.Proofs.Ytoekkjdkjmhmhaa
