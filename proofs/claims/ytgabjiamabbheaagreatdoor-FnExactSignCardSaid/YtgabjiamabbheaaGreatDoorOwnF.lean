
/- A list of fields that the call itself makes; the result's variable. -/
import Derived.Test.YtgabjiamabbheaaGreatDoorReadWhere
import Derived.Test.YtgabjiamabbheaaGreatDoorWriteHead
namespace Go.Proofs.YtgabjiamabbheaaGreatDoor
open Go.RowKit Go.Lib
abbrev Fl := List UInt8 × List UInt8
def txt (l : List UInt8) : Value := .string ⟨l.toArray⟩
def cellsF (F : List Fl) : List Value := F.flatMap fun f => [txt f.1, txt f.2]
set_option maxRecDepth 20000 in
theorem cellsF_len (F : List Fl) : (cellsF F).length = F.length * 2 := by
  induction F with
  | nil => rfl
  | cons f r ih => simp [cellsF, List.flatMap_cons] at ih ⊢; omega
set_option maxRecDepth 20000 in
theorem cellsF_app (F G : List Fl) : cellsF (F ++ G) = cellsF F ++ cellsF G := by simp [cellsF]
set_option maxRecDepth 20000 in
theorem cellsF_get (F : List Fl) (j : Nat) (h : j < F.length) : (cellsF F)[j * 2]? = some (txt F[j].1) ∧ (cellsF F)[j * 2 + 1]? = some (txt F[j].2) := by
  induction F generalizing j with
  | nil => simp at h
  | cons f r ih =>
    cases j with
    | zero => simp [cellsF]
    | succ j =>
      have := ih j (by simpa using h)
      rw [show (j + 1) * 2 = j * 2 + 1 + 1 by omega]
      simpa [cellsF] using this
/-- The slice v, whose array is among the blocks from B on, holds just the fields F. -/
def OwnF (B : Nat) (v : Value) (F : List Fl) (w : World) : Prop := w.ownsRow B 51 2 v F.length (cellsF F)
set_option maxRecDepth 20000 in
theorem OwnF.nil (B : Nat) (w : World) : OwnF B (.slice none 0 0) [] w := World.ownsRow_nil _ _ _ _
set_option maxRecDepth 20000 in
theorem OwnF.made (B : Nat) (w : World) (h : B ≤ w.heap.size) : OwnF B (.slice (some ⟨w.heap.size, 0, none⟩) 0 0) [] (w.alloc (.cells #[] 51)) :=
  World.ownsRow_made w #[] 0 h (by unfold maxLen; omega) rfl
set_option maxRecDepth 20000 in
theorem OwnF.form {B : Nat} {v : Value} {F : List Fl} {w : World} (h : OwnF B v F w) : (v = .slice none 0 0 ∧ F = []) ∨ ∃ g cap, v = .slice (some ⟨g, 0, none⟩) F.length cap := by
  rcases h.2 with ⟨rfl, h0⟩ | ⟨g, cap, cur, rfl, -⟩
  · exact .inl ⟨rfl, List.length_eq_zero_iff.1 h0⟩
  · exact .inr ⟨g, cap, rfl⟩
set_option maxRecDepth 20000 in
theorem OwnF.beside {B : Nat} {v : Value} {F : List Fl} {w : World} (h : OwnF B v F w) {fv : Nat} {cs : Array Value} {t : TypeId} {z : Nat × Nat} (ht : t ≠ 51) (hf : w.heap[fv]? = some (.cells cs t z)) : v.ownBlock ≠ some fv := by
  intro e
  rcases h.2 with ⟨rfl, -⟩ | ⟨g, cap, cur, rfl, -, hg, -⟩
  · cases e
  · cases e
    rw [hf] at hg
    simp only [Option.some.injEq, Obj.cells.injEq] at hg
    exact ht hg.2.1
set_option maxRecDepth 20000 in
/-- An append of one field, beside a variable. -/
theorem wp_appF {P : Program} {W w : World} {ops : Array Oper} {rest : List Oper} {o : Oper} {a : Act} {Q : Exit → Act → World → Prop} (hgd : o.guard = none) (s x : Operand) (t : TypeId)
    (ho : o.op = .call { callee := .builtin .append, args := #[s, x], argTypes := #[t, t] })
    (i : TypeInfo) (ht : P.underlying t = some (.slice 51)) (hi : P.info? 51 = some i) (hz : i.zero = some (.agg #[.string ⟨#[]⟩, .string ⟨#[]⟩])) (hsize : i.size = 2) (hby : i.bytes = 32)
    (B : Nat) (v : Value) (F : List Fl) (hs : a.eval s = v) (hown : OwnF B v F w) (f : Fl) (cs : Array Value) (hcs : cs = #[txt f.1, txt f.2])
    (c : Nat) (hx : a.eval x = .slice (some ⟨w.heap.size, 0, none⟩) 1 c) (hlen : F.length ≤ 1000000) (hB : B ≤ W.heap.size) (hb : Below B W w)
    (fv : Nat) (ob : Array Value) (tv : TypeId) (z : Nat × Nat) (htv : tv ≠ 51) (hfv : w.heap[fv]? = some (.cells ob tv z))
    (h : ∀ v' w', OwnF B v' (F ++ [f]) w' → Below B W w' → w'.heap[fv]? = some (.cells ob tv z) → wpList P ops Q rest (a.put o.dst v') w') : wpList P ops Q (o :: rest) a (w.alloc (.cells cs 51)) := by
  subst hcs
  have hsz := hb.size
  have hlt : fv < w.heap.size := by
    by_cases h : fv < w.heap.size
    · exact h
    · rw [Array.getElem?_eq_none (by omega)] at hfv; cases hfv
  refine wpList_append_own _ hgd s x t ho B 51 i _ 2 32 ht hi hz hsize hby rfl (by decide) v F.length (cellsF F) hs (hown.alloc _) ⟨w.heap.size, 0, none⟩ 1 c [txt f.1, txt f.2] hx
    rfl ?_ ?_ (by unfold maxLen; omega) (by omega) (by simp; omega) ?_
  · intro j u hj
    rw [add_off]
    match j, hj with
    | 0, hj => simp at hj; subst hj; simp
    | 1, hj => simp at hj; subst hj; simp
  · intro u hu
    simp at hu
    rcases hu with rfl | rfl <;> rfl
  · intro v' w' h1 h2 _
    refine h v' w' ?_ ?_ ?_
    · unfold OwnF
      rw [cellsF_app, List.length_append]
      exact h1
    · exact (hb.alloc (by omega) _).grown h2 (by simp; omega) (fun k hk => (World.ownsRow.lt hown k hk).1)
    · exact grown_beside h2 ((Below.heap_alloc w _ fv hlt).trans hfv) (hown.beside htv hfv)
end Go.Proofs.YtgabjiamabbheaaGreatDoor
