
/- A slice of bytes that the call itself makes and appends to: laws of no program. -/
import Derived.WalkKit
import Derived.Lib.UnsafeStr
import Derived.Lib.AppendStr
import Derived.Laws.IdiomStrings
namespace Go.Proofs.Ytonnmbkfjiddnaa
open Go.RowKit Go.Lib

/-- The slice v, whose array is among the blocks from B on, holds just the bytes p. -/
def Own (B : Nat) (v : Value) (p : List UInt8) (w : World) : Prop := w.ownsRow B 5 1 v p.length (byteCells p)

theorem add_off (g j : Nat) : (⟨g, 0, none⟩ : Addr).add j = ⟨g, j, none⟩ := by
  by_cases h : j = 0
  · subst h; rfl
  · simp [Addr.add, h]

theorem Own.nil (B : Nat) (w : World) : Own B (.slice none 0 0) [] w := World.ownsRow_nil _ _ _ _
theorem Own.made (B : Nat) (w : World) (h : B ≤ w.heap.size) : Own B (.slice (some ⟨w.heap.size, 0, none⟩) 0 0) [] (w.alloc (.cells #[] 5)) :=
  World.ownsRow_made w #[] 0 h (by unfold maxLen; omega) rfl
theorem Own.form {B : Nat} {v : Value} {p : List UInt8} {w : World} (h : Own B v p w) : (v = .slice none 0 0 ∧ p = []) ∨ ∃ g cap, v = .slice (some ⟨g, 0, none⟩) p.length cap := by
  rcases h.2 with ⟨rfl, h0⟩ | ⟨g, cap, cur, rfl, -⟩
  · exact .inl ⟨rfl, List.length_eq_zero_iff.1 h0⟩
  · exact .inr ⟨g, cap, rfl⟩
theorem Own.cell {B g cap n : Nat} {p : List UInt8} {w : World} (h : Own B (.slice (some ⟨g, 0, none⟩) n cap) p w) (j : Nat) (hj : j < p.length) :
    w.cell? ⟨g, j, none⟩ = some (.int .u8 (p[j].toNat : Int)) := by
  have := World.ownsRow.cells h (g := g) rfl j (.int .u8 (p[j].toNat : Int)) (by simp [byteCells, hj])
  rwa [add_off] at this

/-- An append of some bytes: they are laid in a block of their own first. -/
theorem wp_app {P : Program} {W w : World} {ops : Array Oper} {rest : List Oper} {o : Oper} {a : Act} {Q : Exit → Act → World → Prop} (hgd : o.guard = none) (s x : Operand) (t : TypeId)
    (ho : o.op = .call { callee := .builtin .append, args := #[s, x], argTypes := #[t, t] })
    (i : TypeInfo) (ht : P.underlying t = some (.slice 5)) (hi : P.info? 5 = some i) (hz : i.zero = some (.int .u8 0)) (hsize : i.size = 1) (hby : i.bytes = 1)
    (B : Nat) (v : Value) (p : List UInt8) (hs : a.eval s = v) (hown : Own B v p w) (cs : Array Value) (news : List UInt8) (hcs : cs.toList = byteCells news)
    (n c : Nat) (hn : n = news.length) (hx : a.eval x = .slice (some ⟨w.heap.size, 0, none⟩) n c) (hlen : p.length + news.length ≤ 140737488355328) (hB : B ≤ W.heap.size) (hb : Below B W w)
    (h : ∀ v' w', Own B v' (p ++ news) w' → Below B W w' → wpList P ops Q rest (a.put o.dst v') w') : wpList P ops Q (o :: rest) a (w.alloc (.cells cs 5)) := by
  subst hn
  have hsz := hb.size
  refine wpList_append_own _ hgd s x t ho B 5 i (.int .u8 0) 1 1 ht hi hz hsize hby rfl (by decide) v p.length (byteCells p) hs (hown.alloc _) ⟨w.heap.size, 0, none⟩ news.length c (byteCells news) hx
    (by rw [byteCells_length, Nat.mul_one]) ?_ ?_ (by unfold maxLen; omega) (by omega) (by simp; omega) ?_
  · intro j u hj
    have e2 : cs[j]? = some u := by rw [← Array.getElem?_toList, hcs]; exact hj
    rw [add_off]
    simp [e2]
  · intro u hu
    simp only [byteCells, List.mem_map] at hu
    obtain ⟨b, -, rfl⟩ := hu
    rfl
  · intro v' w' h1 h2 _
    refine h v' w' ?_ ?_
    · unfold Own
      rw [byteCells_append, List.length_append]
      exact h1
    · exact (hb.alloc (by omega) _).grown h2 (by simp; omega) (fun k hk => (World.ownsRow.lt hown k hk).1)

/-- An append of a text. -/
theorem wp_apps {P : Program} {W w : World} {ops : Array Oper} {rest : List Oper} {o : Oper} {a : Act} {Q : Exit → Act → World → Prop} (hgd : o.guard = none) (s x : Operand) (t u : TypeId)
    (ho : o.op = .call { callee := .builtin .append, args := #[s, x], argTypes := #[t, u] })
    (i : TypeInfo) (ht : P.underlying t = some (.slice 5)) (hu : P.underlying u = some .string) (hi : P.info? 5 = some i) (hz : i.zero = some (.int .u8 0)) (hsize : i.size = 1) (hby : i.bytes = 1)
    (B : Nat) (v : Value) (p : List UInt8) (hs : a.eval s = v) (hown : Own B v p w) (news : ByteArray)
    (hx : a.eval x = .string news) (hlen : p.length + news.size ≤ 140737488355328) (hB : B ≤ W.heap.size) (hb : Below B W w)
    (h : ∀ v' w', Own B v' (p ++ news.data.toList) w' → Below B W w' → wpList P ops Q rest (a.put o.dst v') w') : wpList P ops Q (o :: rest) a w := by
  have hsz := hb.size
  refine wpList_append_own_string _ hgd s x t u ho B 5 i ht hu hi hz hsize hby v p.length (byteCells p) hs hown news hx (by unfold maxLen; omega) hlen (by omega) ?_
  intro v' w' h1 h2 _
  refine h v' w' ?_ ?_
  · unfold Own
    rw [byteCells_append, List.length_append]
    exact h1
  · exact hb.grown h2 (by omega) (fun k hk => (World.ownsRow.lt hown k hk).1)

/-- The bytes as a text again. -/
theorem Own.back {P : Program} {B : Nat} {v : Value} {p : List UInt8} {w : World} (h : Own B v p w) (src dst : TypeId) (hs : P.underlying src = some (.slice 5)) (he : P.underlying 5 = some (.int .u8)) (hd : P.underlying dst = some .string) :
    (convert src dst v).run P w = .ok (.string ⟨p.toArray⟩) w := by
  rcases h.form with ⟨rfl, rfl⟩ | ⟨g, cap, rfl⟩
  · have := run_convert_bytes_string (P := P) w src dst 5 none 0 0 hs he hd
    rw [this]; rfl
  · exact run_convert_bytes_back w src dst 5 ⟨g, 0, none⟩ cap p hs he hd (fun j hj => by rw [add_off]; exact h.cell j hj)

end Go.Proofs.Ytonnmbkfjiddnaa
