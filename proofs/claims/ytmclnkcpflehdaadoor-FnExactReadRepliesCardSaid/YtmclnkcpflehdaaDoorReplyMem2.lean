
/- Replies in memory: appends in a drawn order, what a call answers. -/
import Derived.Test.YtmclnkcpflehdaaDoorReplyMem
import Derived.Test.YtmclnkcpflehdaaDoorReplyPlain
namespace Go.Proofs.YtmclnkcpflehdaaDoor
open Go.RowKit Go.Lib Go.Maps
set_option maxRecDepth 20000 in
theorem Rp.set {B R0 j : Nat} {v u : Value} {E : List RpE} {w : World} (h : Rp B v E w) (hR : R0 < B) : Rp B v E (w.setCell ⟨R0, j, none⟩ u) := by
  have hg := grG_set w R0 j u
  have key : ∀ (x : Value), (∀ k, x.ownBlock = some k → B ≤ k) → x.ownBlock = none ∨ x.ownBlock ≠ some R0 := by
    intro x hx
    cases ho : x.ownBlock with
    | none => exact .inl rfl
    | some k => exact .inr (by have := hx k ho; intro e; cases e; omega)
  exact ⟨World.ownsRow.kept h.row hg (key _ fun k hk => (World.ownsRow.lt h.row k hk).1), fun i hi => (h.own i hi).keep hg (key _ fun k hk => (World.ownsRow.lt (h.own i hi) k hk).1), h.sep⟩
set_option maxRecDepth 20000 in
theorem OwnX.lowerP {B B' : Nat} {v : Value} {P : List ByteArray} {w : World} (h : OwnX B v P w) (hB : B' ≤ B) : OwnX B' v P w := by
  refine ⟨h.1, ?_⟩
  rcases h.2 with h | ⟨g, cap, cur, h1, h2, h3⟩
  · exact .inl h
  · exact .inr ⟨g, cap, cur, h1, by omega, h3⟩
set_option maxRecDepth 20000 in
theorem Rp.lower {B B' : Nat} {v : Value} {E : List RpE} {w : World} (h : Rp B v E w) (hB : B' ≤ B) : Rp B' v E w := by
  refine ⟨⟨h.row.1, ?_⟩, fun i hi => (h.own i hi).lowerP hB, h.sep⟩
  rcases h.row.2 with h | ⟨g, cap, cur, h1, h2, h3⟩
  · exact .inl h
  · exact .inr ⟨g, cap, cur, h1, by omega, h3⟩
set_option maxRecDepth 20000 in
theorem Rp.drew {B : Nat} {v : Value} {E : List RpE} {w : World} (h : Rp B v E w) : Rp B v E w.drew := ⟨h.row, h.own, h.sep⟩
set_option maxRecDepth 20000 in
theorem OwnX.made1 (B : Nat) (w : World) (hB : B ≤ w.heap.size) (a : ByteArray) : OwnX B (.slice (some ⟨w.heap.size, 0, none⟩) 1 1) [a] (w.alloc (.cells #[.string a] 9)) :=
  ⟨rfl, .inr ⟨w.heap.size, 1, _, rfl, hB, heap_alloc_at _ _, Nat.le_refl _, by unfold maxLen; omega, rfl, rfl⟩⟩
/-- What a call of ReadReplies comes to. -/
def RpOut (B : Nat) (z : Option (List GReply)) (w : World) (e : Ending) (w' : World) : Prop :=
  ∃ v E, e = .returned (.agg #[.bool z.isSome, v]) ∧ Rp B v E w' ∧ E.map (·.1) = z.getD [] ∧ Below B w w'
set_option maxRecDepth 20000 in
theorem outNone {B : Nat} {w w' : World} (hb : Below B w w') : RpOut B none w (.returned (.agg #[.bool false, .slice none 0 0])) w' := ⟨_, [], rfl, Rp.nil _ _, rfl, hb⟩
set_option maxRecDepth 20000 in
theorem outSome {B : Nat} {w w' : World} {v : Value} {E : List RpE} (R : List GReply) (h : Rp B v E w') (hE : E.map (·.1) = R) (hb : Below B w w') : RpOut B (some R) w (.returned (.agg #[.bool true, v])) w' := ⟨v, E, rfl, h, hE, hb⟩
set_option maxRecDepth 20000 in
theorem opAppX {w : World} {o : Oper} {a : Act} {K : Act → World → Prop} {Q : Exit → Act → World → Prop} (s x : Operand)
    (ho : o.op = .call { callee := .builtin .append, args := #[s, x], argTypes := #[30, 30] })
    (B : Nat) (v : Value) (C : List ByteArray) (hs : a.eval s = v) (hown : OwnX B v C w) (u : ByteArray) (g c : Nat) (hx : a.eval x = .slice (some ⟨g, 0, none⟩) 1 c) (hnew : w.cell? ⟨g, 0, none⟩ = some (.string u)) (hlen : C.length ≤ 1000000) (hB : B ≤ w.heap.size)
    (h : ∀ v' w', OwnX B v' (C ++ [u]) w' → w.grownBy w' v.ownBlock → (v'.ownBlock = v.ownBlock ∨ v'.ownBlock = some w.heap.size) → K (a.put o.dst v') w') : o.wp Tryd.prog a w K Q := by
  obtain ⟨i0, hi0, hz0, hz1, hz2⟩ := info_parts Tryd.info9X
  unfold OwnX at hown
  obtain ⟨v', w', hr, h2, h3, h4, h5⟩ := run_append_own_at (P := Tryd.prog) w B 30 o.type 9 i0 (.string ⟨#[]⟩) 1 16 Tryd.underlying30 hi0 hz0 hz1 hz2 rfl (by decide) v C.length (strCellsX C) hown ⟨g, 0, none⟩ 1 c [.string u] rfl (by
    intro j y hj
    match j, hj with
    | 0, hj => simp at hj; subst hj; simpa [Addr.add] using hnew) (by
    intro y hy
    simp at hy
    subst hy
    rfl) (by unfold maxLen; omega) (by omega) hB
  unfold Oper.wp execOp
  simp only [ho, resolve, invoke, builtin, Sem.run_bind, Sem.run_pure, Result.andThen_ok, List.map_toArray, List.map_cons, List.map_nil, hs, hx, hr]
  refine h v' w' ?_ h3 h5
  unfold OwnX strCellsX
  rw [List.map_append, List.length_append]
  exact h2
set_option maxRecDepth 20000 in
theorem opAppRp {w : World} {o : Oper} {a : Act} {K : Act → World → Prop} {Q : Exit → Act → World → Prop} (s x : Operand)
    (ho : o.op = .call { callee := .builtin .append, args := #[s, x], argTypes := #[22, 22] })
    (B : Nat) (v : Value) (E : List RpE) (hs : a.eval s = v) (hown : w.ownsRow B 34 2 v E.length (rpCells E)) (e : RpE) (g c : Nat) (hx : a.eval x = .slice (some ⟨g, 0, none⟩) 1 c) (hn0 : w.cell? ⟨g, 0, none⟩ = some (.int .i64 e.1.code)) (hn1 : w.cell? ⟨g, 1, none⟩ = some e.2) (hone : e.2.oneCell' = true) (hlen : E.length ≤ 1000000) (hB : B ≤ w.heap.size)
    (h : ∀ v' w', w'.ownsRow B 34 2 v' (E.length + 1) (rpCells (E ++ [e])) → w.grownBy w' v.ownBlock → K (a.put o.dst v') w') : o.wp Tryd.prog a w K Q := by
  obtain ⟨i0, hi0, hz0, hz1, hz2⟩ := info_parts Tryd.infoGReply
  obtain ⟨v', w', hr, h2, h3, h4, h5⟩ := run_append_own_at (P := Tryd.prog) w B 22 o.type 34 i0 (.agg #[.int .i64 0, .slice none 0 0]) 2 32 Tryd.underlying22 hi0 hz0 hz1 hz2 rfl (by decide) v E.length (rpCells E) hown ⟨g, 0, none⟩ 1 c [.int .i64 e.1.code, e.2] rfl (by
    intro j y hj
    rw [add_off]
    match j, hj with
    | 0, hj => simp at hj; subst hj; exact hn0
    | 1, hj => simp at hj; subst hj; exact hn1) (by
    intro y hy
    simp at hy
    rcases hy with rfl | rfl
    · rfl
    · exact hone) (by unfold maxLen; omega) (by omega) hB
  unfold Oper.wp execOp
  simp only [ho, resolve, invoke, builtin, Sem.run_bind, Sem.run_pure, Result.andThen_ok, List.map_toArray, List.map_cons, List.map_nil, hs, hx, hr]
  refine h v' w' ?_ h3
  rw [rpCells_app]
  exact h2
namespace Rl
def tl (c : Int) (P : List ByteArray) : List GReply := if P = [] then [] else [⟨c, P⟩]
set_option maxRecDepth 20000 in
theorem next (x : List UInt8) (r : List (List UInt8)) (R : List GReply) (c : Int) (P : List ByteArray) (h : ok x = true) (hc : P = [] ∨ c = code x) :
    ∃ R' c' P', rd (x :: r) R c P = rd r R' c' P' ∧ more x = !P'.isEmpty ∧ R ++ [⟨code x, P ++ [text x]⟩] = R' ++ tl c' P' ∧ P'.length ≤ P.length + 1 := by
  rw [rd, if_pos h, if_neg (by rintro ⟨h1, h2⟩; rcases hc with e | e; exact h1 e; exact h2 e)]
  cases hm : more x
  · refine ⟨R ++ [⟨code x, P ++ [text x]⟩], 0, [], by simp, by simp, by simp [tl], by simp⟩
  · refine ⟨R, code x, P ++ [text x], by simp, by simp, by simp [tl], by simp⟩
set_option maxRecDepth 20000 in
theorem bad (x : List UInt8) (r : List (List UInt8)) (R : List GReply) (c : Int) (P : List ByteArray) (h : ok x = false ∨ (P ≠ [] ∧ c ≠ code x)) : rd (x :: r) R c P = none := by
  rw [rd]
  rcases h with h | h
  · rw [h]; rfl
  · rw [if_pos h]
    split <;> rfl
end Rl
/-- The room for the answer. -/
structure RoomR (w W : World) : Prop where
  size : W.heap.size = w.heap.size + 1
  below : Below w.heap.size w W
  c0 : W.cell? ⟨w.heap.size, 0, none⟩ = some (.bool false)
  c1 : W.cell? ⟨w.heap.size, 1, none⟩ = some (.slice none 0 0)
  f0 : W.frozen? ⟨w.heap.size, 0, none⟩ = false
  f1 : W.frozen? ⟨w.heap.size, 1, none⟩ = false
set_option maxRecDepth 20000 in
theorem roomR (w : World) : RoomR w (w.alloc (.cells #[.bool false, .slice none 0 0] 24)) :=
  ⟨by simp, (Below.refl _ _).alloc (Nat.le_refl _) _, by simp, by simp, by simp, by simp⟩
set_option maxRecDepth 20000 in
theorem RoomR.on {w W W' : World} (h : RoomR w W) (hb : Below W.heap.size W W') :
    W'.cell? ⟨w.heap.size, 0, none⟩ = some (.bool false) ∧ W'.cell? ⟨w.heap.size, 1, none⟩ = some (.slice none 0 0) ∧ W'.frozen? ⟨w.heap.size, 0, none⟩ = false ∧ W'.frozen? ⟨w.heap.size, 1, none⟩ = false := by
  have hs := h.size
  exact ⟨(hb.cell (p := ⟨w.heap.size, 0, none⟩) (by simp; omega)).trans h.c0, (hb.cell (p := ⟨w.heap.size, 1, none⟩) (by simp; omega)).trans h.c1, (hb.frozen (p := ⟨w.heap.size, 0, none⟩) (by simp; omega)).trans h.f0, (hb.frozen (p := ⟨w.heap.size, 1, none⟩) (by simp; omega)).trans h.f1⟩
end Go.Proofs.YtmclnkcpflehdaaDoor
