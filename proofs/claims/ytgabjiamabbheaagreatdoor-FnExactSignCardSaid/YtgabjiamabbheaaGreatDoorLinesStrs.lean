
/- A slice of texts that the call itself makes and appends to: laws of no program. -/
import Derived.WalkKit
import Derived.Laws.OwnMore
import Derived.Test.YtgabjiamabbheaaGreatDoorBytes
namespace Go.Proofs.YtgabjiamabbheaaGreatDoor
open Go.RowKit Go.Lib

set_option maxRecDepth 20000 in
theorem mkHidL {p : Prop} (h : p) : Hid p := h

set_option maxRecDepth 20000 in
theorem szL (l : List UInt8) : (⟨l.toArray⟩ : ByteArray).size = l.length := by
  show l.toArray.size = l.length
  simp

def txtL (l : List UInt8) : Value := .string ⟨l.toArray⟩

/-- The slice v, whose array is among the blocks from B on, holds just the texts ps. -/
def OwnS (B : Nat) (v : Value) (ps : List (List UInt8)) (w : World) : Prop := w.ownsRow B 9 1 v ps.length (ps.map txtL)

set_option maxRecDepth 20000 in
theorem OwnS.nil (B : Nat) (w : World) : OwnS B (.slice none 0 0) [] w := World.ownsRow_nil _ _ _ _
set_option maxRecDepth 20000 in
theorem OwnS.made (B : Nat) (w : World) (h : B ≤ w.heap.size) : OwnS B (.slice (some ⟨w.heap.size, 0, none⟩) 0 0) [] (w.alloc (.cells #[] 9)) :=
  World.ownsRow_made w #[] 0 h (by unfold maxLen; omega) rfl
set_option maxRecDepth 20000 in
theorem OwnS.form {B : Nat} {v : Value} {ps : List (List UInt8)} {w : World} (h : OwnS B v ps w) : (v = .slice none 0 0 ∧ ps = []) ∨ ∃ g cap, v = .slice (some ⟨g, 0, none⟩) ps.length cap ∧ B ≤ g ∧ g < w.heap.size ∧ ps.length ≤ cap := by
  have hl := World.ownsRow.lt h
  rcases h.2 with ⟨rfl, h0⟩ | ⟨g, cap, cur, rfl, hB, -, hc, -⟩
  · exact .inl ⟨rfl, List.length_eq_zero_iff.1 h0⟩
  · exact .inr ⟨g, cap, rfl, hB, (hl g rfl).2, hc⟩
set_option maxRecDepth 20000 in
theorem OwnS.cell {B g cap n : Nat} {ps : List (List UInt8)} {w : World} (h : OwnS B (.slice (some ⟨g, 0, none⟩) n cap) ps w) (j : Nat) (hj : j < ps.length) :
    w.cell? ⟨g, j, none⟩ = some (txtL ps[j]) := by
  have := World.ownsRow.cells h (g := g) rfl j (txtL ps[j]) (by simp [hj])
  rwa [add_off] at this
set_option maxRecDepth 20000 in
theorem OwnS.low {B B' : Nat} {v : Value} {ps : List (List UInt8)} {w : World} (h : OwnS B v ps w) (hB : B' ≤ B) : OwnS B' v ps w := by
  refine ⟨h.1, ?_⟩
  rcases h.2 with h | ⟨g, cap, cur, h1, h2, h3⟩
  · exact .inl h
  · exact .inr ⟨g, cap, cur, h1, by omega, h3⟩
set_option maxRecDepth 20000 in
/-- What lies below a place stays there while only what is from there on turns. -/
theorem OwnS.keep {B C : Nat} {v : Value} {ps : List (List UInt8)} {w w' : World} (h : OwnS B v ps w) (hC : w.heap.size ≤ C) (hb : Below C w w') : OwnS B v ps w' := by
  refine ⟨h.1, ?_⟩
  rcases h.2 with h | ⟨g, cap, cur, h1, h2, h3, h4⟩
  · exact .inl h
  · refine .inr ⟨g, cap, cur, h1, h2, ?_, h4⟩
    have hg : g < w.heap.size := by
      by_cases hg : g < w.heap.size
      · exact hg
      · rw [Array.getElem?_eq_none (by omega)] at h3; cases h3
    rw [hb.block g (by omega), h3]

set_option maxRecDepth 20000 in
/-- An append of one text: it is laid in a block of its own first. -/
theorem wp_appS {P : Program} {W w : World} {ops : Array Oper} {rest : List Oper} {o : Oper} {a : Act} {Q : Exit → Act → World → Prop} (hgd : o.guard = none) (s x : Operand) (t : TypeId)
    (ho : o.op = .call { callee := .builtin .append, args := #[s, x], argTypes := #[t, t] })
    (i : TypeInfo) (ht : P.underlying t = some (.slice 9)) (hi : P.info? 9 = some i) (hz : i.zero = some (.string ByteArray.empty)) (hsize : i.size = 1) (hby : i.bytes = 16)
    (B : Nat) (v : Value) (p : List (List UInt8)) (hs : a.eval s = v) (hown : OwnS B v p w) (u : ByteArray) (new : List UInt8) (hu : u = ⟨new.toArray⟩)
    (hx : a.eval x = .slice (some ⟨w.heap.size, 0, none⟩) 1 1) (hlen : p.length ≤ 8000000000) (hB : B ≤ W.heap.size) (hb : Below B W w)
    (h : ∀ v' w', OwnS B v' (p ++ [new]) w' → Below B W w' → wpList P ops Q rest (a.put o.dst v') w') : wpList P ops Q (o :: rest) a (w.alloc (.cells #[.string u] 9)) := by
  subst hu
  have hsz := hb.size
  refine wpList_append_own _ hgd s x t ho B 9 i (.string ByteArray.empty) 1 16 ht hi hz hsize hby rfl (by decide) v p.length (p.map txtL) hs (hown.alloc _) ⟨w.heap.size, 0, none⟩ 1 1 [txtL new] hx
    rfl ?_ ?_ (by unfold maxLen; omega) (by omega) (by simp; omega) ?_
  · intro j u hj
    match j, hj with
    | 0, hj => simp at hj; subst hj; simp [Addr.add, txtL]
  · intro u hu
    simp at hu
    subst hu
    rfl
  · intro v' w' h1 h2 _
    refine h v' w' ?_ ?_
    · unfold OwnS
      rw [List.map_append, List.length_append]
      exact h1
    · exact (hb.alloc (by omega) _).grown h2 (by simp; omega) (fun k hk => (World.ownsRow.lt hown k hk).1)

end Go.Proofs.YtgabjiamabbheaaGreatDoor
