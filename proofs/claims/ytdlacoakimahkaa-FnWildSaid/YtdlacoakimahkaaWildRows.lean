
/- Lists of numbers, of pieces and of truths that the call itself makes. -/
import Derived.Test.YtdlacoakimahkaaWildPlain
import Derived.Test.YtdlacoakimahkaaLinesStrs
import Derived.WalkSmall
namespace Go.Proofs.Ytdlacoakimahkaa
open Go.RowKit Go.Lib
theorem Try.info3 : (Try.prog.info? 3).map (fun i => (i.zero, i.size, i.bytes)) = some (some (.int .i64 0), 1, 8) := by kernel_rfl
theorem Try.info9 : (Try.prog.info? 9).map (fun i => (i.zero, i.size, i.bytes)) = some (some (.string ByteArray.empty), 1, 16) := by kernel_rfl
theorem Try.infoP : (Try.prog.info? 41).map (fun i => (i.zero, i.size, i.bytes)) = some (some (.agg #[.bool false, .bool false, .int .u8 0]), 3, 3) := by kernel_rfl
def intCells (P : List Int) : List Value := P.map (.int .i64)
/-- The slice v, whose array is among the blocks from B on, holds just the numbers P. -/
def OwnI (B : Nat) (v : Value) (P : List Int) (w : World) : Prop := w.ownsRow B 3 1 v P.length (intCells P)
theorem OwnI.made (B : Nat) (w : World) (h : B ≤ w.heap.size) : OwnI B (.slice (some ⟨w.heap.size, 0, none⟩) 0 0) [] (w.alloc (.cells #[] 3)) :=
  World.ownsRow_made w #[] 0 h (by unfold maxLen; omega) rfl
theorem OwnI.form {B : Nat} {v : Value} {P : List Int} {w : World} (h : OwnI B v P w) : ∃ o cap, v = .slice o P.length cap ∧ (∀ (j : Nat) (hj : j < P.length), ∃ g, o = some ⟨g, 0, none⟩ ∧ B ≤ g ∧ g < w.heap.size ∧ w.cell? ⟨g, j, none⟩ = some (.int .i64 P[j])) := by
  have hl := World.ownsRow.lt h
  have hh := h
  rcases h.2 with ⟨rfl, h0⟩ | ⟨g, cap, cur, rfl, hB, -, hc, -⟩
  · refine ⟨none, 0, by rw [h0], fun j hj => by omega⟩
  · refine ⟨_, cap, rfl, fun j hj => ⟨g, rfl, hB, (hl g rfl).2, ?_⟩⟩
    have := World.ownsRow.cells hh (g := g) rfl j (.int .i64 P[j]) (by simp [intCells, hj])
    rwa [add_off] at this
theorem OwnI.keep {B C : Nat} {v : Value} {P : List Int} {w w' : World} (h : OwnI B v P w) (hC : w.heap.size ≤ C) (hb : Below C w w') : OwnI B v P w' := by
  refine ⟨h.1, ?_⟩
  rcases h.2 with h | ⟨g, cap, cur, h1, h2, h3, h4⟩
  · exact .inl h
  · refine .inr ⟨g, cap, cur, h1, h2, ?_, h4⟩
    have hg : g < w.heap.size := by
      by_cases hg : g < w.heap.size
      · exact hg
      · rw [Array.getElem?_eq_none (by omega)] at h3; cases h3
    rw [hb.block g (by omega), h3]
/-- An append of one number. -/
theorem wp_appI {P : Program} {W w : World} {ops : Array Oper} {rest : List Oper} {o : Oper} {a : Act} {Q : Exit → Act → World → Prop} (hgd : o.guard = none) (s x : Operand) (t : TypeId)
    (ho : o.op = .call { callee := .builtin .append, args := #[s, x], argTypes := #[t, t] })
    (i : TypeInfo) (ht : P.underlying t = some (.slice 3)) (hi : P.info? 3 = some i) (hz : i.zero = some (.int .i64 0)) (hsize : i.size = 1) (hby : i.bytes = 8)
    (B : Nat) (v : Value) (p : List Int) (hs : a.eval s = v) (hown : OwnI B v p w) (new : Int)
    (hx : a.eval x = .slice (some ⟨w.heap.size, 0, none⟩) 1 1) (hlen : p.length ≤ 1000000) (hB : B ≤ W.heap.size) (hb : Below B W w)
    (h : ∀ v' w', OwnI B v' (p ++ [new]) w' → Below B W w' → wpList P ops Q rest (a.put o.dst v') w') : wpList P ops Q (o :: rest) a (w.alloc (.cells #[.int .i64 new] 3)) := by
  have hsz := hb.size
  refine wpList_append_own _ hgd s x t ho B 3 i (.int .i64 0) 1 8 ht hi hz hsize hby rfl (by decide) v p.length (intCells p) hs (hown.alloc _) ⟨w.heap.size, 0, none⟩ 1 1 [.int .i64 new] hx
    rfl ?_ ?_ (by unfold maxLen; omega) (by omega) (by simp; omega) ?_
  · intro j u hj
    match j, hj with
    | 0, hj => simp at hj; subst hj; simp [Addr.add]
  · intro u hu
    simp at hu
    subst hu
    rfl
  · intro v' w' h1 h2 _
    refine h v' w' ?_ ?_
    · unfold OwnI
      rw [intCells, List.map_append, List.length_append]
      exact h1
    · exact (hb.alloc (by omega) _).grown h2 (by simp; omega) (fun k hk => (World.ownsRow.lt hown k hk).1)
/-- The byte of a piece. -/
def pb (x : Int) : Int := if x = -1 then 42 else if x = -2 then 63 else x
def pcCells (P : List Int) : List Value := P.flatMap fun x => [.bool (x == -1), .bool (x == -2), .int .u8 (pb x)]
theorem pcCells_len (P : List Int) : (pcCells P).length = P.length * 3 := by
  induction P with
  | nil => rfl
  | cons f r ih => simp [pcCells, List.flatMap_cons] at ih ⊢; omega
theorem pcCells_get (P : List Int) (j : Nat) (h : j < P.length) : (pcCells P)[j * 3]? = some (.bool (P[j] == -1)) ∧ (pcCells P)[j * 3 + 1]? = some (.bool (P[j] == -2)) ∧ (pcCells P)[j * 3 + 2]? = some (.int .u8 (pb P[j])) := by
  induction P generalizing j with
  | nil => simp at h
  | cons f r ih =>
    cases j with
    | zero => simp [pcCells]
    | succ j =>
      have := ih j (by simpa using h)
      rw [show (j + 1) * 3 = j * 3 + 1 + 1 + 1 by omega]
      simpa [pcCells] using this
/-- The slice v holds just the pieces P. -/
def OwnP (B : Nat) (v : Value) (P : List Int) (w : World) : Prop := w.ownsRow B 41 3 v P.length (pcCells P)
theorem OwnP.nil (B : Nat) (w : World) : OwnP B (.slice none 0 0) [] w := World.ownsRow_nil _ _ _ _
theorem OwnP.form {B : Nat} {v : Value} {P : List Int} {w : World} (h : OwnP B v P w) : ∃ o cap, v = .slice o P.length cap ∧ (∀ (j : Nat) (hj : j < P.length), ∃ g, o = some ⟨g, 0, none⟩ ∧ B ≤ g ∧ g < w.heap.size ∧ w.cell? ⟨g, j * 3, none⟩ = some (.bool (P[j] == -1)) ∧ w.cell? ⟨g, j * 3 + 1, none⟩ = some (.bool (P[j] == -2)) ∧ w.cell? ⟨g, j * 3 + 2, none⟩ = some (.int .u8 (pb P[j]))) := by
  have hl := World.ownsRow.lt h
  have hh := h
  rcases h.2 with ⟨rfl, h0⟩ | ⟨g, cap, cur, rfl, hB, -, hc, -⟩
  · refine ⟨none, 0, by rw [h0], fun j hj => by omega⟩
  · refine ⟨_, cap, rfl, fun j hj => ⟨g, rfl, hB, (hl g rfl).2, ?_⟩⟩
    obtain ⟨e1, e2, e3⟩ := pcCells_get P j hj
    have c1 := World.ownsRow.cells hh (g := g) rfl _ _ e1
    have c2 := World.ownsRow.cells hh (g := g) rfl _ _ e2
    have c3 := World.ownsRow.cells hh (g := g) rfl _ _ e3
    rw [add_off] at c1 c2 c3
    exact ⟨c1, c2, c3⟩
theorem OwnP.keep {B C : Nat} {v : Value} {P : List Int} {w w' : World} (h : OwnP B v P w) (hC : w.heap.size ≤ C) (hb : Below C w w') : OwnP B v P w' := by
  refine ⟨h.1, ?_⟩
  rcases h.2 with h | ⟨g, cap, cur, h1, h2, h3, h4⟩
  · exact .inl h
  · refine .inr ⟨g, cap, cur, h1, h2, ?_, h4⟩
    have hg : g < w.heap.size := by
      by_cases hg : g < w.heap.size
      · exact hg
      · rw [Array.getElem?_eq_none (by omega)] at h3; cases h3
    rw [hb.block g (by omega), h3]
/-- An append of one piece. -/
theorem wp_appP {P : Program} {W w : World} {ops : Array Oper} {rest : List Oper} {o : Oper} {a : Act} {Q : Exit → Act → World → Prop} (hgd : o.guard = none) (s x : Operand) (t : TypeId)
    (ho : o.op = .call { callee := .builtin .append, args := #[s, x], argTypes := #[t, t] })
    (i : TypeInfo) (ht : P.underlying t = some (.slice 41)) (hi : P.info? 41 = some i) (hz : i.zero = some (.agg #[.bool false, .bool false, .int .u8 0])) (hsize : i.size = 3) (hby : i.bytes = 3)
    (B : Nat) (v : Value) (p : List Int) (hs : a.eval s = v) (hown : OwnP B v p w) (new : Int) (cs : Array Value) (hcs : cs = #[.bool (new == -1), .bool (new == -2), .int .u8 (pb new)])
    (hx : a.eval x = .slice (some ⟨w.heap.size, 0, none⟩) 1 1) (hlen : p.length ≤ 1000000) (hB : B ≤ W.heap.size) (hb : Below B W w)
    (h : ∀ v' w', OwnP B v' (p ++ [new]) w' → Below B W w' → wpList P ops Q rest (a.put o.dst v') w') : wpList P ops Q (o :: rest) a (w.alloc (.cells cs 41)) := by
  subst hcs
  have hsz := hb.size
  refine wpList_append_own _ hgd s x t ho B 41 i _ 3 3 ht hi hz hsize hby rfl (by decide) v p.length (pcCells p) hs (hown.alloc _) ⟨w.heap.size, 0, none⟩ 1 1 [.bool (new == -1), .bool (new == -2), .int .u8 (pb new)] hx
    rfl ?_ ?_ (by unfold maxLen; omega) (by omega) (by simp; omega) ?_
  · intro j u hj
    rw [add_off]
    match j, hj with
    | 0, hj => simp at hj; subst hj; simp
    | 1, hj => simp at hj; subst hj; simp
    | 2, hj => simp at hj; subst hj; simp
  · intro u hu
    simp at hu
    rcases hu with rfl | rfl | rfl <;> rfl
  · intro v' w' h1 h2 _
    refine h v' w' ?_ ?_
    · unfold OwnP
      rw [pcCells, List.flatMap_append, List.length_append]
      exact h1
    · exact (hb.alloc (by omega) _).grown h2 (by simp; omega) (fun k hk => (World.ownsRow.lt hown k hk).1)
end Go.Proofs.Ytdlacoakimahkaa
