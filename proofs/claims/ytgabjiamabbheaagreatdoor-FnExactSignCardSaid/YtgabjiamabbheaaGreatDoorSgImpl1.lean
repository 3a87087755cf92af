
/- What a head's sum is told of, the program's side: parts. -/
import Derived.Test.YtgabjiamabbheaaGreatDoorSgDelete
import Derived.Test.YtgabjiamabbheaaGreatDoorSgPlain3
import Derived.Test.YtgabjiamabbheaaGreatDoorCanonFImpl
import Derived.Maps.AppendAt
import Derived.OrdersHeld
namespace Go.Proofs.YtgabjiamabbheaaGreatDoor
open Go.RowKit Go.Lib Go.Maps
def toBA (F : List Fl) : List Fd := F.map fun f => (⟨f.1.toArray⟩, ⟨f.2.toArray⟩)
set_option maxRecDepth 20000 in
theorem toBA_len (F : List Fl) : (toBA F).length = F.length := by simp [toBA]
set_option maxRecDepth 20000 in
theorem toBA_at (F : List Fl) (k : Nat) (h : k < F.length) : (toBA F)[k]? = some (⟨F[k].1.toArray⟩, ⟨F[k].2.toArray⟩) := by
  unfold toBA
  rw [List.getElem?_map, List.getElem?_eq_getElem h]
  rfl
set_option maxRecDepth 20000 in
theorem toBA_erase (F : List Fl) (k : Nat) : toBA (F.eraseIdx k) = (toBA F).eraseIdx k := by
  unfold toBA
  rw [List.eraseIdx_eq_take_drop_succ, List.eraseIdx_eq_take_drop_succ, List.map_append, List.map_take, List.map_drop]
set_option maxRecDepth 20000 in
theorem OwnF.fld {B : Nat} {v : Value} {F : List Fl} {w : World} (h : OwnF B v F w) : ∃ o cap, v = .slice o F.length cap ∧ Fld w.heap.size w o (toBA F) := by
  rcases h.2 with ⟨rfl, h0⟩ | ⟨g, cap, cur, rfl, hB, hg, hc⟩
  · obtain rfl : F = [] := List.length_eq_zero_iff.1 h0
    exact ⟨none, 0, rfl, fun i hi => absurd hi (by simp [toBA])⟩
  · refine ⟨_, cap, rfl, ?_⟩
    intro i hi
    have hi' : i < F.length := by simpa [toBA] using hi
    obtain ⟨d0, d1⟩ := cellsF_get F i hi'
    have c0 := World.ownsRow.cells h (g := g) rfl (i * 2) _ d0
    have c1 := World.ownsRow.cells h (g := g) rfl (i * 2 + 1) _ d1
    rw [add_off] at c0 c1
    refine ⟨_, rfl, (Array.getElem?_eq_some_iff.1 hg).1, ?_, ?_⟩
    · rw [add_off, c0]; simp [toBA, txt]
    · rw [add_off]
      show w.cell? ⟨g, i * 2 + 1, none⟩ = _
      rw [c1]; simp [toBA, txt]
set_option maxRecDepth 20000 in
theorem nm_mt (L : List Fd) (m : ByteArray) : lastTo (nmAt L m) L.length = lastTo (mtAt (nmF m) L) L.length := by
  apply lastTo_congr
  intro i hi
  unfold nmAt mtAt nmF
  rw [dif_pos hi, List.getElem?_eq_getElem hi]
  rfl
set_option maxRecDepth 20000 in
theorem own_apartF {B B' : Nat} {v u : Value} {O : List UInt8} {L : List Fl} {w : World} (h : Own B v O w) (k : OwnF B' u L w) : v.ownBlock = none ∨ v.ownBlock ≠ u.ownBlock := by
  rcases h.2 with ⟨rfl, -⟩ | ⟨g, cap, cur, rfl, -, hg, -⟩
  · exact .inl rfl
  · right
    rcases k.2 with ⟨rfl, -⟩ | ⟨g', cap', cur', rfl, -, hg', -⟩
    · intro e; cases e
    · intro e
      have e2 : g = g' := by simpa [Value.ownBlock] using e
      subst e2
      rw [hg] at hg'
      simp at hg'
set_option maxRecDepth 20000 in
theorem opAppS {w : World} {o : Oper} {a : Act} {K : Act → World → Prop} {Q : Exit → Act → World → Prop} (s x : Operand) (t u : TypeId)
    (ho : o.op = .call { callee := .builtin .append, args := #[s, x], argTypes := #[t, u] })
    (i : TypeInfo) (ht : Tryz.prog.underlying t = some (.slice 5)) (hu : Tryz.prog.underlying u = some .string) (hi : Tryz.prog.info? 5 = some i) (hz : i.zero = some (.int .u8 0)) (hsize : i.size = 1) (hby : i.bytes = 1)
    (B : Nat) (v : Value) (p : List UInt8) (hs : a.eval s = v) (hown : Own B v p w) (news : ByteArray) (hx : a.eval x = .string news) (hlen : p.length + news.size ≤ 140737488355328) (hB : B ≤ w.heap.size)
    (h : ∀ v' w', Own B v' (p ++ news.data.toList) w' → w.grownBy w' v.ownBlock → K (a.put o.dst v') w') : o.wp Tryz.prog a w K Q := by
  obtain ⟨v', w', hr, h2, h3, h4⟩ := run_append_own_string (P := Tryz.prog) w B t u o.type 5 i ht hu hi hz hsize hby v p.length (byteCells p) hown news (by unfold maxLen; omega) hlen hB
  unfold Oper.wp execOp
  simp only [ho, resolve, invoke, builtin, Sem.run_bind, Sem.run_pure, Result.andThen_ok, List.map_toArray, List.map_cons, List.map_nil, hs, hx, hr]
  refine h v' w' ?_ h3
  unfold Own
  rw [byteCells_append, List.length_append]
  exact h2
end Go.Proofs.YtgabjiamabbheaaGreatDoor
