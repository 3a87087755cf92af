
/- Encode, the specification's side. -/
import Derived.Test.YtgbhckokdjhpjaaDoorEncForm
namespace Go.Proofs.YtgbhckokdjhpjaaDoor
open Go.RowKit Go.Lib Go.Maps
/-- An append of bytes that lie in a slice of their own. -/
theorem wp_appo {P : Program} {W w : World} {ops : Array Oper} {rest : List Oper} {o : Oper} {a : Act} {Q : Exit → Act → World → Prop} (hgd : o.guard = none) (s x : Operand) (t : TypeId)
    (ho : o.op = .call { callee := .builtin .append, args := #[s, x], argTypes := #[t, t] })
    (i : TypeInfo) (ht : P.underlying t = some (.slice 5)) (hi : P.info? 5 = some i) (hz : i.zero = some (.int .u8 0)) (hsize : i.size = 1) (hby : i.bytes = 1)
    (B : Nat) (v : Value) (p : List UInt8) (hs : a.eval s = v) (hown : Own B v p w) (B2 : Nat) (v2 : Value) (news : List UInt8) (hx : a.eval x = v2) (hown2 : Own B2 v2 news w) (hne : news ≠ [])
    (hlen : p.length + news.length ≤ 140737488355328) (hB : B ≤ W.heap.size) (hb : Below B W w)
    (h : ∀ v' w', Own B v' (p ++ news) w' → Below B W w' → wpList P ops Q rest (a.put o.dst v') w') : wpList P ops Q (o :: rest) a w := by
  have hsz := hb.size
  rcases hown2.form with ⟨-, h0⟩ | ⟨g, cap, rfl⟩
  · exact absurd h0 hne
  refine wpList_append_own _ hgd s x t ho B 5 i (.int .u8 0) 1 1 ht hi hz hsize hby rfl (by decide) v p.length (byteCells p) hs hown ⟨g, 0, none⟩ news.length cap (byteCells news) hx
    (by rw [byteCells_length, Nat.mul_one]) ?_ ?_ (by unfold maxLen; omega) (by omega) (by omega) ?_
  · intro j u hj
    have hj2 : j < news.length := by
      have := (List.getElem?_eq_some_iff.1 hj).1
      simpa [byteCells_length] using this
    rw [add_off, hown2.cell j hj2]
    simpa [byteCells, hj2] using hj
  · intro u hu
    simp only [byteCells, List.mem_map] at hu
    obtain ⟨b, -, rfl⟩ := hu
    rfl
  · intro v' w' h1 h2 _
    refine h v' w' ?_ ?_
    · unfold Own
      rw [byteCells_append, List.length_append]
      exact h1
    · exact hb.grown h2 (by omega) (fun k hk => (World.ownsRow.lt hown k hk).1)
theorem Own.keepb {B : Nat} {v : Value} {p : List UInt8} {w w' : World} (h : Own B v p w) (hb : Below w.heap.size w w') : Own B v p w' := by
  obtain ⟨h1, h2⟩ := h
  refine ⟨h1, ?_⟩
  rcases h2 with h2 | ⟨g, cap, cur, e1, e2, e3, e4⟩
  · exact .inl h2
  · refine .inr ⟨g, cap, cur, e1, e2, ?_, e4⟩
    rw [hb.block g (heap_lt e3)]
    exact e3
end Go.Proofs.YtgbhckokdjhpjaaDoor
