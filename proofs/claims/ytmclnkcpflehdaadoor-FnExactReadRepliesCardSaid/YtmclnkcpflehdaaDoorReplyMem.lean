
/- Replies in memory: their row, and a row of texts for each. -/
import Derived.Test.YtmclnkcpflehdaaDoorOwnX
import Derived.Test.YtmclnkcpflehdaaDoorGenReply
import Derived.Maps.AppendAt
namespace Go.Proofs.YtmclnkcpflehdaaDoor
open Go.RowKit Go.Lib Go.Maps
/-- A reply and the slice of its texts. -/
abbrev RpE := GReply × Value
def rpCells (E : List RpE) : List Value := E.flatMap fun e => [.int .i64 e.1.code, e.2]
theorem rpCells_len (E : List RpE) : (rpCells E).length = E.length * 2 := by
  induction E with
  | nil => rfl
  | cons r t ih => simp only [rpCells, List.flatMap_cons, List.length_append, List.length_cons, List.length_nil] at ih ⊢; omega
theorem rpCells_app (E : List RpE) (e : RpE) : rpCells (E ++ [e]) = rpCells E ++ [.int .i64 e.1.code, e.2] := by
  simp [rpCells, List.flatMap_append]
theorem rpCells_at (E : List RpE) : ∀ (i : Nat) (h : i < E.length), (rpCells E)[i * 2]? = some (.int .i64 E[i].1.code) ∧ (rpCells E)[i * 2 + 1]? = some E[i].2 := by
  induction E with
  | nil => intro i h; exact absurd h (Nat.not_lt_zero _)
  | cons r t ih =>
    intro i h
    have e : rpCells (r :: t) = .int .i64 r.1.code :: r.2 :: rpCells t := rfl
    rw [e]
    cases i with
    | zero => exact ⟨rfl, rfl⟩
    | succ i =>
      have := ih i (by simpa using h)
      rw [show (i + 1) * 2 = i * 2 + 1 + 1 by omega]
      simpa using this
theorem rpCells_set (E : List RpE) : ∀ (i : Nat) (r : RpE), i < E.length → rpCells (E.set i r) = ((rpCells E).set (i * 2) (.int .i64 r.1.code)).set (i * 2 + 1) r.2 := by
  induction E with
  | nil => intro i r h; exact absurd h (Nat.not_lt_zero _)
  | cons x t ih =>
    intro i r h
    have e : ∀ (z : RpE) (l : List RpE), rpCells (z :: l) = .int .i64 z.1.code :: z.2 :: rpCells l := fun _ _ => rfl
    cases i with
    | zero => rw [List.set_cons_zero, e, e]; rfl
    | succ i =>
      rw [List.set_cons_succ, e, e, ih i r (by simpa using h), show (i + 1) * 2 = i * 2 + 1 + 1 by omega]
      rfl
theorem own_apartP {w : World} {B B' s s' n n' : Nat} {e e' : TypeId} {v v' : Value} {xs xs' : List Value} (h : w.ownsRow B e s v n xs) (h' : w.ownsRow B' e' s' v' n' xs') (he : e ≠ e') : v.ownBlock = none ∨ v.ownBlock ≠ v'.ownBlock := by
  rcases h.2 with ⟨rfl, -⟩ | ⟨g, cap, cur, rfl, -, hg, -⟩
  · exact .inl rfl
  · right
    rcases h'.2 with ⟨rfl, -⟩ | ⟨g', cap', cur', rfl, -, hg', -⟩
    · simp [Value.ownBlock]
    · intro e1
      simp only [Value.ownBlock, Option.some.injEq] at e1
      rw [e1, hg'] at hg
      simp only [Option.some.injEq, Obj.cells.injEq] at hg
      exact he hg.2.1.symm
def Far (a b : Value) : Prop := a.ownBlock = none ∨ a.ownBlock ≠ b.ownBlock
theorem Far.symm {a b : Value} (h : Far a b) : Far b a := by
  rcases h with h | h
  · cases hb : b.ownBlock with
    | none => exact .inl hb
    | some k => right; rw [hb, h]; simp
  · exact .inr (Ne.symm h)
/-- The slice v, whose array is among the blocks from B on, holds just the replies E, each of which has a row of texts of its own among these blocks. -/
structure Rp (B : Nat) (v : Value) (E : List RpE) (w : World) : Prop where
  row : w.ownsRow B 34 2 v E.length (rpCells E)
  own : ∀ (i : Nat) (h : i < E.length), OwnX B E[i].2 E[i].1.lines w
  sep : (E.map (·.2)).Pairwise Far
theorem Rp.far {B : Nat} {v : Value} {E : List RpE} {w : World} (h : Rp B v E w) (i j : Nat) (hi : i < E.length) (hj : j < E.length) (hne : i ≠ j) : Far E[i].2 E[j].2 := by
  have hp := List.pairwise_iff_getElem.1 h.sep
  by_cases hij : i < j
  · have := hp i j (by simpa using hi) (by simpa using hj) hij
    simpa using this
  · have := hp j i (by simpa using hj) (by simpa using hi) (by omega)
    exact Far.symm (by simpa using this)
theorem Rp.nil (B : Nat) (w : World) : Rp B (.slice none 0 0) [] w := ⟨World.ownsRow_nil w B _ 2, fun _ h => absurd h (Nat.not_lt_zero _), List.Pairwise.nil⟩
theorem Rp.shape {B : Nat} {v : Value} {E : List RpE} {w : World} (h : Rp B v E w) : ∃ o cap, v = .slice o E.length cap := by
  rcases h.row.2 with ⟨rfl, h0⟩ | ⟨g, cap, cur, rfl, -⟩
  · exact ⟨none, 0, by rw [h0]⟩
  · exact ⟨_, cap, rfl⟩
theorem Rp.rowfar {B : Nat} {v : Value} {E : List RpE} {w : World} (h : Rp B v E w) (i : Nat) (hi : i < E.length) : Far v E[i].2 := own_apartP h.row (show w.ownsRow B 9 1 _ _ _ from h.own i hi) (by decide)
theorem Rp.below {B : Nat} {v : Value} {E : List RpE} {w w' : World} (h : Rp B v E w) (hb : Below w.heap.size w w') : Rp B v E w' := by
  refine ⟨World.ownsRow.kept h.row (row := none) ⟨hb.os, hb.tape, hb.output, hb.size, fun k hk _ => hb.block k hk⟩ ?_, fun i hi => (h.own i hi).below hb, h.sep⟩
  cases hv : v.ownBlock with
  | none => exact .inl rfl
  | some k => exact .inr (by simp)
theorem Rp.gl {B : Nat} {o : Option Addr} {n cap : Nat} {E : List RpE} {w : World} (h : Rp B (.slice o n cap) E w) : GReplysL B w.heap.size w o (E.map (·.1)) := by
  intro i hi0
  have hi : i < E.length := by simpa using hi0
  have hl := World.ownsRow.lt h.row
  have hrow := h.row
  rcases hrow.2 with ⟨h1, h0⟩ | ⟨g, cap', cur, h1, hB, -⟩
  · omega
  · simp only [Value.slice.injEq] at h1
    obtain ⟨rfl, rfl, rfl⟩ := h1
    have d0 := World.ownsRow.cells hrow (g := g) rfl (i * 2) _ (rpCells_at E i hi).1
    have d1 := World.ownsRow.cells hrow (g := g) rfl (i * 2 + 1) _ (rpCells_at E i hi).2
    refine ⟨⟨g, 0, none⟩, E[i].2, rfl, hB, (hl g rfl).2, ?_, ?_⟩
    · rw [add_off] at d0 d1 ⊢
      rw [List.getElem_map]
      exact ⟨d0, d1⟩
    · rw [List.getElem_map]
      have hx := h.own i hi
      obtain ⟨oo, cc, hv⟩ := hx.shape
      rw [hv] at hx
      exact ⟨⟨oo, cc, hv, hx.txL⟩⟩
theorem grownAlloc {w w' : World} {ob : Obj} {r : Option Nat} (h : (w.alloc ob).grownBy w' r) : w.grownBy w' r := by
  have hb : Below w.heap.size w (w.alloc ob) := (Below.refl _ _).alloc (Nat.le_refl _) _
  exact ⟨h.os.trans hb.os, h.tape.trans hb.tape, h.output.trans hb.output, Nat.le_trans hb.size h.size, fun k hk hn => (h.block k (Nat.lt_of_lt_of_le hk hb.size) hn).trans (hb.block k hk)⟩
/-- One more reply behind the others. -/
theorem Rp.push {B : Nat} {v v' : Value} {E : List RpE} {e : RpE} {w w' : World} (h : Rp B v E w) (he : OwnX B e.2 e.1.lines w) (hf : ∀ (i : Nat) (hi : i < E.length), Far E[i].2 e.2) (hrow : w'.ownsRow B 34 2 v' (E.length + 1) (rpCells (E ++ [e]))) (hg : w.grownBy w' v.ownBlock) : Rp B v' (E ++ [e]) w' := by
  refine ⟨by rw [List.length_append]; exact hrow, ?_, ?_⟩
  · intro i hi
    by_cases hlt : i < E.length
    · rw [List.getElem_append_left hlt]
      exact (h.own i hlt).keep hg (Far.symm (h.rowfar i hlt))
    · have hi2 : i = E.length := by simp at hi; omega
      subst hi2
      rw [List.getElem_append_right (Nat.le_refl _)]
      simp only [Nat.sub_self, List.getElem_cons_zero]
      exact he.keep hg (own_apartP (show w.ownsRow B 9 1 _ _ _ from he) h.row (by decide))
  · rw [List.map_append, List.pairwise_append]
    refine ⟨h.sep, by simp, ?_⟩
    intro a ha b hb
    simp only [List.map_cons, List.map_nil, List.mem_cons, List.not_mem_nil, or_false] at hb
    subst hb
    obtain ⟨i, hi, rfl⟩ := List.getElem_of_mem ha
    rw [List.getElem_map]
    exact hf i (by simpa using hi)
/-- A reply's texts are others now, in a row that is its own still, or a new one. -/
theorem Rp.lines {B g cap : Nat} {E : List RpE} {w w1 : World} (h : Rp B (.slice (some ⟨g, 0, none⟩) E.length cap) E w) (i : Nat) (hi : i < E.length) (lv : Value) (P : List ByteArray) (hx : OwnX B lv P w1) (hg : w.grownBy w1 E[i].2.ownBlock) (hl : lv.ownBlock = E[i].2.ownBlock ∨ ∃ k, w.heap.size ≤ k ∧ lv.ownBlock = some k) :
    Rp B (.slice (some ⟨g, 0, none⟩) E.length cap) (E.set i (⟨E[i].1.code, P⟩, lv)) (w1.setCell ⟨g, i * 2 + 1, none⟩ lv) := by
  have hrow1 := World.ownsRow.kept h.row hg (Far.symm (Far.symm (h.rowfar i hi)))
  obtain ⟨hst, hsg⟩ := World.ownsRow.stored hrow1 (i * 2 + 1) lv
  have hlt1 : ∀ (j : Nat) (hj : j < E.length), ∀ k, E[j].2.ownBlock = some k → k < w.heap.size := fun j hj k hk => (World.ownsRow.lt (h.own j hj) k hk).2
  refine ⟨?_, ?_, ?_⟩
  · rw [List.length_set, rpCells_set E i _ hi]
    have e1 : (rpCells E).set (i * 2) (.int .i64 E[i].1.code) = rpCells E := by
      have := (rpCells_at E i hi).1
      exact List.ext_getElem? fun j => by
        rw [List.getElem?_set]
        split
        · rename_i hij
          subst hij
          split
          · exact this.symm
          · rename_i hn
            rw [rpCells_len] at hn
            omega
        · rfl
    simp only [e1]
    exact hst
  · intro j hj
    have hj' : j < E.length := by simpa using hj
    have hgr : ∀ k, (Value.slice (some ⟨g, 0, none⟩) E.length cap).ownBlock = some k → k = g := fun k hk => by simp [Value.ownBlock] at hk; exact hk.symm
    rw [List.getElem_set]
    split
    · rename_i hij
      subst hij
      exact hx.keep hsg (own_apartP (show w1.ownsRow B 9 1 _ _ _ from hx) hrow1 (by decide))
    · rename_i hij
      have h1 := (h.own j hj').keep hg (h.far j i hj' hi (fun e => hij e.symm))
      exact h1.keep hsg (own_apartP (show w1.ownsRow B 9 1 _ _ _ from h1) hrow1 (by decide))
  · have hp := List.pairwise_iff_getElem.1 h.sep
    rw [List.pairwise_iff_getElem]
    intro a b ha hb hab
    have ha' : a < E.length := by simpa using ha
    have hb' : b < E.length := by simpa using hb
    have key : ∀ (j : Nat) (hj : j < E.length), j ≠ i → Far E[j].2 lv := by
      intro j hj hji
      rcases hl with e | ⟨k, hk, e⟩
      · have := h.far j i hj hi hji
        unfold Far at this ⊢
        rw [e]
        exact this
      · cases hv : E[j].2.ownBlock with
        | none => exact .inl hv
        | some q =>
          right
          rw [hv, e]
          intro e2
          have := hlt1 j hj q hv
          simp only [Option.some.injEq] at e2
          omega
    rw [List.getElem_map, List.getElem_map, List.getElem_set, List.getElem_set]
    split
    · rename_i h1
      subst h1
      rw [if_neg (by omega)]
      exact Far.symm (key b hb' (by omega))
    · rename_i h1
      split
      · rename_i h2
        subst h2
        exact key a ha' (fun e => h1 e.symm)
      · have := hp a b (by simpa using ha') (by simpa using hb') hab
        simpa using this
/-- A reply's texts are turned where they lie. -/
theorem Rp.turn {B : Nat} {v : Value} {E : List RpE} {w w1 : World} (h : Rp B v E w) (i : Nat) (hi : i < E.length) (P : List ByteArray) (hx : OwnX B E[i].2 P w1) (hg : w.grownBy w1 E[i].2.ownBlock) :
    Rp B v (E.set i (⟨E[i].1.code, P⟩, E[i].2)) w1 := by
  have hrow1 := World.ownsRow.kept h.row hg (h.rowfar i hi)
  refine ⟨?_, ?_, ?_⟩
  · rw [List.length_set, rpCells_set E i _ hi]
    have e1 : (rpCells E).set (i * 2) (.int .i64 E[i].1.code) = rpCells E := by
      have := (rpCells_at E i hi).1
      exact List.ext_getElem? fun j => by
        rw [List.getElem?_set]
        split
        · rename_i hij
          subst hij
          split
          · exact this.symm
          · rename_i hn
            rw [rpCells_len] at hn
            omega
        · rfl
    have e2 : (rpCells E).set (i * 2 + 1) E[i].2 = rpCells E := by
      have := (rpCells_at E i hi).2
      exact List.ext_getElem? fun j => by
        rw [List.getElem?_set]
        split
        · rename_i hij
          subst hij
          split
          · exact this.symm
          · rename_i hn
            rw [rpCells_len] at hn
            omega
        · rfl
    simp only [e1, e2]
    exact hrow1
  · intro j hj
    have hj' : j < E.length := by simpa using hj
    rw [List.getElem_set]
    split
    · rename_i hij
      subst hij
      exact hx
    · rename_i hij
      exact (h.own j hj').keep hg (h.far j i hj' hi (fun e => hij e.symm))
  · have e : (E.set i (⟨E[i].1.code, P⟩, E[i].2)).map (·.2) = E.map (·.2) := by
      rw [List.map_set]
      exact List.ext_getElem? fun j => by
        rw [List.getElem?_set]
        split
        · rename_i hij
          subst hij
          simp [hi]
        · rfl
    rw [e]
    exact h.sep
/-- A reply's code is turned. -/
theorem Rp.coded {B g cap : Nat} {E : List RpE} {w : World} (h : Rp B (.slice (some ⟨g, 0, none⟩) E.length cap) E w) (i : Nat) (hi : i < E.length) (k : Int) :
    Rp B (.slice (some ⟨g, 0, none⟩) E.length cap) (E.set i (⟨k, E[i].1.lines⟩, E[i].2)) (w.setCell ⟨g, i * 2, none⟩ (.int .i64 k)) ∧ w.grownBy (w.setCell ⟨g, i * 2, none⟩ (.int .i64 k)) (some g) := by
  obtain ⟨hst, hsg⟩ := World.ownsRow.stored h.row (i * 2) (.int .i64 k)
  refine ⟨⟨?_, ?_, ?_⟩, hsg⟩
  · rw [List.length_set, rpCells_set E i _ hi]
    have e2 : ((rpCells E).set (i * 2) (.int .i64 k)).set (i * 2 + 1) E[i].2 = (rpCells E).set (i * 2) (.int .i64 k) := by
      have := (rpCells_at E i hi).2
      exact List.ext_getElem? fun j => by
        rw [List.getElem?_set]
        split
        · rename_i hij
          subst hij
          rw [List.getElem?_set_ne (by omega)]
          split
          · exact this.symm
          · rename_i hn
            rw [List.length_set, rpCells_len] at hn
            omega
        · rfl
    simp only [e2]
    exact hst
  · intro j hj
    have hj' : j < E.length := by simpa using hj
    rw [List.getElem_set]
    split
    · rename_i hij
      subst hij
      exact (h.own i hi).keep hsg (own_apartP (show w.ownsRow B 9 1 _ _ _ from h.own i hi) h.row (by decide))
    · exact (h.own j hj').keep hsg (own_apartP (show w.ownsRow B 9 1 _ _ _ from h.own j hj') h.row (by decide))
  · have e : (E.set i (⟨k, E[i].1.lines⟩, E[i].2)).map (·.2) = E.map (·.2) := by
      rw [List.map_set]
      exact List.ext_getElem? fun j => by
        rw [List.getElem?_set]
        split
        · rename_i hij
          subst hij
          simp [hi]
        · rfl
    rw [e]
    exact h.sep
end Go.Proofs.YtmclnkcpflehdaaDoor
