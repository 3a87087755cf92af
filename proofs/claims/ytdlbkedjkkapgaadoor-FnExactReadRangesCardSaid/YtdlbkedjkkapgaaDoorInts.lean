
/- Lists of numbers that were handed in; the law's helpers over them, and over texts. -/
import Derived.Test.YtdlbkedjkkapgaaDoorTexts
namespace Go.Proofs.YtdlbkedjkkapgaaDoor
open Go.RowKit Go.Lib Go.Maps
/-- The slice of numbers at o, in blocks below B. -/
def Ints (B : Nat) (w : World) (o : Option Addr) (ps : List Int) : Prop := ∀ k (h : k < ps.length), ∃ a, o = some a ∧ a.block < B ∧ w.cell? (a.add k) = some (.int .i64 ps[k])
theorem Ints.below {B : Nat} {w w' : World} {o : Option Addr} {ps : List Int} (h : Ints B w o ps) (hb : Below B w w') : Ints B w' o ps := by
  intro k hk
  obtain ⟨a, rfl, ha, hc⟩ := h k hk
  refine ⟨a, rfl, ha, ?_⟩
  rw [← hc]
  have e : (a.add k).block = a.block := by unfold Addr.add; split <;> rfl
  exact hb.cell (by rw [e]; exact ha)
theorem Ints.mono {B B' : Nat} {w : World} {o : Option Addr} {ps : List Int} (h : Ints B w o ps) (hB : B ≤ B') : Ints B' w o ps := by
  intro k hk
  obtain ⟨a, rfl, ha, hc⟩ := h k hk
  exact ⟨a, rfl, by omega, hc⟩
theorem Tryd.info2 : (Tryd.prog.info? 2).map (fun i => (i.zero, i.size, i.bytes)) = some (some (.int .i64 0), 1, 8) := by kernel_rfl
end Go.Proofs.YtdlbkedjkkapgaaDoor
