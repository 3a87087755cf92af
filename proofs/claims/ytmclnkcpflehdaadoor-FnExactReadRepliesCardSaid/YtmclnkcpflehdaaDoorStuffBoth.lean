
/- The walks of the two Stuff. -/
import Derived.Test.YtmclnkcpflehdaaDoorBase
import Derived.Test.YtmclnkcpflehdaaDoorLinesBoth
import Derived.Test.YtmclnkcpflehdaaDoorStuffPlain
namespace Go.Proofs.YtmclnkcpflehdaaDoor
open Go.RowKit Go.Lib
theorem OwnS.row {B : Nat} {v : Value} {ps : List (List UInt8)} {w : World} (h : OwnS B v ps w) : ∃ ao cap, v = .slice ao ps.length cap ∧ ∀ (j : Nat) (hj : j < ps.length), ∃ g, g < w.heap.size ∧ ao = some ⟨g, 0, none⟩ ∧ w.cell? ⟨g, j, none⟩ = some (txtL ps[j]) := by
  rcases h.form with ⟨hv, h0⟩ | ⟨g, cap, hv, hB, hg, -⟩
  · subst h0
    exact ⟨none, 0, hv, fun j hj => by simp at hj⟩
  · subst hv
    exact ⟨_, cap, rfl, fun j hj => ⟨g, hg, rfl, h.cell j hj⟩⟩
theorem lines_pack (s : ByteArray) : ∃ ls, ls = Pl.lines s.data.toList ∧ ls.length ≤ s.size ∧ (∀ k, (Pl.stuffL (ls.take k)).length ≤ 4 * s.size) ∧ ∀ (k : Nat) (h : k < ls.length), ls[k].length ≤ s.size := by
  have hll : s.data.toList.length = s.size := by simp
  refine ⟨_, rfl, ?_, ?_, ?_⟩
  · have := Pl.lines_total _ s.data.toList (Nat.le_refl _); omega
  · intro k; rw [← hll]; exact Pl.stuff_len s.data.toList k
  · intro k h; rw [← hll]; exact Pl.line_len s.data.toList k h
end Go.Proofs.YtmclnkcpflehdaaDoor
