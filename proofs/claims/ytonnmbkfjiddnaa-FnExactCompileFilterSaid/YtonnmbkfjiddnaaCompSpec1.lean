
/- Instructions in memory: their row, and rows of texts for each. -/

/- The specification's maker of code: one instruction more; where one leads. (By tools/gen/speccomp.py.) -/
import Derived.Test.YtonnmbkfjiddnaaOwnX
import Derived.Test.YtonnmbkfjiddnaaCodes2
import Derived.Maps.AppendAt
import Derived.OrdersHeld
import Derived.RegionTactic
namespace Go.Proofs.Ytonnmbkfjiddnaa
open Go.RowKit Go.Lib Go.Maps
/-- An instruction and the slices of its three lists. -/
abbrev CdE := Cd × Value × Value × Value
def cell9 (e : CdE) : List Value := [.int .i64 e.1.op, .int .i64 e.1.to, .int .i64 e.1.nd.kind, .int .i64 e.1.nd.num, .int .i64 e.1.nd.mat, .string e.1.nd.text, e.2.1, e.2.2.1, e.2.2.2]
def cdCells (E : List CdE) : List Value := E.flatMap cell9
theorem cell9_len (e : CdE) : (cell9 e).length = 9 := rfl
theorem cdCells_len (E : List CdE) : (cdCells E).length = E.length * 9 := by
  induction E with
  | nil => rfl
  | cons r t ih => simp only [cdCells, List.flatMap_cons, List.length_append, cell9_len, List.length_cons] at ih ⊢; omega
theorem cdCells_app (E : List CdE) (e : CdE) : cdCells (E ++ [e]) = cdCells E ++ cell9 e := by simp [cdCells, List.flatMap_append]
theorem cdCells_at (E : List CdE) : ∀ (i : Nat) (h : i < E.length) (j : Nat), j < 9 → (cdCells E)[i * 9 + j]? = (cell9 E[i])[j]? := by
  induction E with
  | nil => intro i h; exact absurd h (Nat.not_lt_zero _)
  | cons r t ih =>
    intro i h j hj
    have e : cdCells (r :: t) = cell9 r ++ cdCells t := rfl
    rw [e]
    cases i with
    | zero =>
      rw [List.getElem?_append_left (by rw [cell9_len]; omega)]
      simp
    | succ i =>
      have h' : i < t.length := by simpa using h
      rw [List.getElem?_append_right (by rw [cell9_len]; omega), cell9_len, show (i + 1) * 9 + j - 9 = i * 9 + j by omega, ih i h' j hj]
      rfl
theorem cdCells_to (E : List CdE) : ∀ (i : Nat) (h : i < E.length) (k : Int), cdCells (E.set i (⟨E[i].1.op, k, E[i].1.nd⟩, E[i].2)) = (cdCells E).set (i * 9 + 1) (.int .i64 k) := by
  induction E with
  | nil => intro i h; exact absurd h (Nat.not_lt_zero _)
  | cons r t ih =>
    intro i h k
    have e : ∀ (x : CdE) (l : List CdE), cdCells (x :: l) = cell9 x ++ cdCells l := fun _ _ => rfl
    cases i with
    | zero => rfl
    | succ i =>
      have h' : i < t.length := by simpa using h
      rw [List.set_cons_succ, e, e, List.getElem_cons_succ, ih i h' k, List.set_append_right _ _ (by rw [cell9_len]; omega), cell9_len, show (i + 1) * 9 + 1 - 9 = i * 9 + 1 by omega]
theorem own_apart9 {w : World} {B B' s s' n n' : Nat} {e e' : TypeId} {v v' : Value} {xs xs' : List Value} (h : w.ownsRow B e s v n xs) (h' : w.ownsRow B' e' s' v' n' xs') (he : e ≠ e') : v.ownBlock = none ∨ v.ownBlock ≠ v'.ownBlock := by
  rcases h.2 with ⟨rfl, -⟩ | ⟨g, cap, cur, rfl, -, hg, -⟩
  · exact .inl rfl
  · right
    rcases h'.2 with ⟨rfl, -⟩ | ⟨g', cap', cur', rfl, -, hg', -⟩
    · simp [Value.ownBlock]
    · intro e1
      simp only [Value.ownBlock, Option.some.injEq] at e1
      rw [e1, hg'] at hg
      simp only [Option.some.injEq, Obj.cells.injEq] at hg
      exact he hg.2.1.symm
/-- A list of texts that is empty, or has a row of its own. -/
abbrev Sl := Value × List ByteArray
def LsX (B : Nat) (w : World) (s : Sl) : Prop := (∃ o cap, s.1 = .slice o s.2.length cap) ∧ (s.2 ≠ [] → OwnX B s.1 s.2 w)
def FarX (a b : Sl) : Prop := a.2 = [] ∨ b.2 = [] ∨ a.1.ownBlock ≠ b.1.ownBlock
theorem FarX.symm {a b : Sl} (h : FarX a b) : FarX b a := by
  rcases h with h | h | h
  · exact .inr (.inl h)
  · exact .inl h
  · exact .inr (.inr (Ne.symm h))
theorem LsX.keep {B : Nat} {w w' : World} {s : Sl} {row : Option Nat} (h : LsX B w s) (hg : w.grownBy w' row) (hne : s.2 = [] ∨ s.1.ownBlock = none ∨ s.1.ownBlock ≠ row) : LsX B w' s := by
  refine ⟨h.1, fun hn => (h.2 hn).keep hg ?_⟩
  rcases hne with h | h
  · exact absurd h hn
  · exact h
theorem LsX.below {B : Nat} {w w' : World} {s : Sl} (h : LsX B w s) (hb : Below w.heap.size w w') : LsX B w' s := ⟨h.1, fun hn => (h.2 hn).below hb⟩
theorem LsX.nil (B : Nat) (w : World) : LsX B w (.slice none 0 0, []) := ⟨⟨none, 0, rfl⟩, fun h => absurd rfl h⟩
theorem LsX.tx {B : Nat} {w : World} {s : Sl} (h : LsX B w s) : ∃ o cap, s.1 = .slice o s.2.length cap ∧ Tx w.heap.size w o s.2 := by
  obtain ⟨⟨o, cap, e⟩, h2⟩ := h
  refine ⟨o, cap, e, ?_⟩
  by_cases hn : s.2 = []
  · rw [hn]
    intro i hi
    exact absurd hi (Nat.not_lt_zero _)
  · have hx := h2 hn
    rw [e] at hx
    intro i hi
    obtain ⟨a, rfl, h3, h4, h5⟩ := hx.txL i hi
    exact ⟨a, rfl, h4, h5⟩
/-- The lists of texts of instructions. -/
def slots (E : List CdE) : List Sl := E.flatMap fun e => [(e.2.1, e.1.nd.names), (e.2.2.1, e.1.nd.keys)]
theorem slots_app (E : List CdE) (e : CdE) : slots (E ++ [e]) = slots E ++ [(e.2.1, e.1.nd.names), (e.2.2.1, e.1.nd.keys)] := by simp [slots, List.flatMap_append]
theorem slots_to (E : List CdE) (i : Nat) (h : i < E.length) (k : Int) : slots (E.set i (⟨E[i].1.op, k, E[i].1.nd⟩, E[i].2)) = slots E := by
  induction E generalizing i with
  | nil => exact absurd h (Nat.not_lt_zero _)
  | cons r t ih =>
    cases i with
    | zero => rfl
    | succ i =>
      have h' : i < t.length := by simpa using h
      have e : ∀ (x : CdE) (l : List CdE), slots (x :: l) = [(x.2.1, x.1.nd.names), (x.2.2.1, x.1.nd.keys)] ++ slots l := fun _ _ => rfl
      rw [List.set_cons_succ, e, e, List.getElem_cons_succ, ih i h']
/-- The slice v, whose array is among the blocks from B on, holds just the instructions E; each list of texts is empty or has a row of its own among these blocks; there are no kids. -/
structure Cw (B : Nat) (v : Value) (E : List CdE) (w : World) : Prop where
  row : w.ownsRow B 50 9 v E.length (cdCells E)
  own : ∀ s ∈ slots E, LsX B w s
  sep : (slots E).Pairwise FarX
  kids : ∀ e ∈ E, e.1.nd.kids = [] ∧ ∃ o c, e.2.2.2 = .slice o 0 c
theorem Cw.nil (B : Nat) (w : World) : Cw B (.slice none 0 0) [] w := ⟨World.ownsRow_nil w B _ 9, fun _ h => (List.not_mem_nil h).elim, List.Pairwise.nil, fun _ h => (List.not_mem_nil h).elim⟩
theorem Cw.shape {B : Nat} {v : Value} {E : List CdE} {w : World} (h : Cw B v E w) : ∃ o cap, v = .slice o E.length cap := by
  rcases h.row.2 with ⟨rfl, h0⟩ | ⟨g, cap, cur, rfl, -⟩
  · exact ⟨none, 0, by rw [h0]⟩
  · exact ⟨_, cap, rfl⟩
theorem Cw.rowfar {B : Nat} {v : Value} {E : List CdE} {w : World} (h : Cw B v E w) (s : Sl) (hs : s ∈ slots E) : s.2 = [] ∨ s.1.ownBlock = none ∨ s.1.ownBlock ≠ v.ownBlock := by
  by_cases hn : s.2 = []
  · exact .inl hn
  · exact .inr (own_apart9 (show w.ownsRow B 9 1 _ _ _ from (h.own s hs).2 hn) h.row (by decide))
theorem Cw.below {B : Nat} {v : Value} {E : List CdE} {w w' : World} (h : Cw B v E w) (hb : Below w.heap.size w w') : Cw B v E w' := by
  refine ⟨World.ownsRow.kept h.row (row := none) ⟨hb.os, hb.tape, hb.output, hb.size, fun k hk _ => hb.block k hk⟩ ?_, fun s hs => (h.own s hs).below hb, h.sep, h.kids⟩
  cases hv : v.ownBlock with
  | none => exact .inl rfl
  | some k => exact .inr (by simp)
/-- A cell of a block below B is written. -/
theorem Cw.set {B R0 j : Nat} {v u : Value} {E : List CdE} {w : World} (h : Cw B v E w) (hR : R0 < B) : Cw B v E (w.setCell ⟨R0, j, none⟩ u) := by
  have hg := grG_set w R0 j u
  have key : ∀ (x : Value), (∀ k, x.ownBlock = some k → B ≤ k) → x.ownBlock = none ∨ x.ownBlock ≠ some R0 := by
    intro x hx
    cases ho : x.ownBlock with
    | none => exact .inl rfl
    | some k => exact .inr (by have := hx k ho; intro e; cases e; omega)
  refine ⟨World.ownsRow.kept h.row hg (key _ fun k hk => (World.ownsRow.lt h.row k hk).1), fun s hs => (h.own s hs).keep hg ?_, h.sep, h.kids⟩
  by_cases hn : s.2 = []
  · exact .inl hn
  · exact .inr (key _ fun k hk => (World.ownsRow.lt ((h.own s hs).2 hn) k hk).1)
theorem Cw.drew {B : Nat} {v : Value} {E : List CdE} {w : World} (h : Cw B v E w) : Cw B v E w.drew := ⟨h.row, h.own, h.sep, h.kids⟩
/-- One more instruction behind the others. -/
theorem Cw.push {B : Nat} {v v' : Value} {E : List CdE} {e : CdE} {w w' : World} (h : Cw B v E w) (hn : LsX B w (e.2.1, e.1.nd.names)) (hk : LsX B w (e.2.2.1, e.1.nd.keys)) (hf : FarX (e.2.1, e.1.nd.names) (e.2.2.1, e.1.nd.keys))
    (hfar : ∀ s ∈ slots E, FarX s (e.2.1, e.1.nd.names) ∧ FarX s (e.2.2.1, e.1.nd.keys)) (hkd : e.1.nd.kids = [] ∧ ∃ o c, e.2.2.2 = .slice o 0 c)
    (hrow : w'.ownsRow B 50 9 v' (E.length + 1) (cdCells (E ++ [e]))) (hg : w.grownBy w' v.ownBlock) : Cw B v' (E ++ [e]) w' := by
  have ap : ∀ s : Sl, LsX B w s → s.2 = [] ∨ s.1.ownBlock = none ∨ s.1.ownBlock ≠ v.ownBlock := fun s hs => by
    by_cases hne : s.2 = []
    · exact .inl hne
    · exact .inr (own_apart9 (show w.ownsRow B 9 1 _ _ _ from hs.2 hne) h.row (by decide))
  refine ⟨by rw [List.length_append]; exact hrow, ?_, ?_, ?_⟩
  · intro s hs
    rw [slots_app] at hs
    rcases List.mem_append.1 hs with hs | hs
    · exact (h.own s hs).keep hg (h.rowfar s hs)
    · simp only [List.mem_cons, List.not_mem_nil, or_false] at hs
      rcases hs with rfl | rfl
      · exact hn.keep hg (ap _ hn)
      · exact hk.keep hg (ap _ hk)
  · rw [slots_app, List.pairwise_append]
    refine ⟨h.sep, by simpa using hf, ?_⟩
    intro a ha b hb
    simp only [List.mem_cons, List.not_mem_nil, or_false] at hb
    rcases hb with rfl | rfl
    · exact (hfar a ha).1
    · exact (hfar a ha).2
  · intro x hx
    rcases List.mem_append.1 hx with hx | hx
    · exact h.kids x hx
    · obtain rfl : x = e := by simpa using hx
      exact hkd
/-- Where an instruction leads is told. -/
theorem Cw.told {B g cap : Nat} {E : List CdE} {w : World} (h : Cw B (.slice (some ⟨g, 0, none⟩) E.length cap) E w) (i : Nat) (hi : i < E.length) (k : Int) :
    Cw B (.slice (some ⟨g, 0, none⟩) E.length cap) (E.set i (⟨E[i].1.op, k, E[i].1.nd⟩, E[i].2)) (w.setCell ⟨g, i * 9 + 1, none⟩ (.int .i64 k)) ∧ w.grownBy (w.setCell ⟨g, i * 9 + 1, none⟩ (.int .i64 k)) (some g) := by
  obtain ⟨hst, hsg⟩ := World.ownsRow.stored h.row (i * 9 + 1) (.int .i64 k)
  refine ⟨⟨?_, ?_, ?_, ?_⟩, hsg⟩
  · rw [List.length_set, cdCells_to E i hi]
    exact hst
  · intro s hs
    rw [slots_to E i hi] at hs
    exact (h.own s hs).keep hsg (h.rowfar s hs)
  · rw [slots_to E i hi]
    exact h.sep
  · intro x hx
    rcases List.mem_or_eq_of_mem_set hx with hx | rfl
    · exact h.kids x hx
    · exact h.kids E[i] (List.getElem_mem hi)
theorem Cw.fresh {B : Nat} {v : Value} {E : List CdE} {w : World} (h : Cw B v E w) (s : Sl) (hs : s.2 = [] ∨ ∃ k, w.heap.size ≤ k ∧ s.1.ownBlock = some k) : ∀ t ∈ slots E, FarX t s := by
  intro t ht
  by_cases hn : t.2 = []
  · exact .inl hn
  · rcases hs with hs | ⟨k, hk, e⟩
    · exact .inr (.inl hs)
    · refine .inr (.inr ?_)
      rw [e]
      intro e2
      have := (World.ownsRow.lt ((h.own t ht).2 hn) k e2).2
      omega
/-- The row as a list of instructions that can be read. -/
theorem Cw.cds {B : Nat} {o : Option Addr} {n cap : Nat} {E : List CdE} {w : World} (h : Cw B (.slice o n cap) E w) : Cds w.heap.size w o (E.map (·.1)) := by
  intro i hi0
  have hi : i < E.length := by simpa using hi0
  have hl := World.ownsRow.lt h.row
  have hrow := h.row
  rcases hrow.2 with ⟨h1, h0⟩ | ⟨g, cap', cur, h1, hB, -⟩
  · omega
  · simp only [Value.slice.injEq] at h1
    obtain ⟨rfl, rfl, rfl⟩ := h1
    have d : ∀ (j : Nat) (x : Value), j < 9 → (cell9 E[i])[j]? = some x → w.cell? ⟨g, i * 9 + j, none⟩ = some x := fun j x hj hx => by
      have := World.ownsRow.cells hrow (g := g) rfl (i * 9 + j) x (by rw [cdCells_at E i hi j hj]; exact hx)
      rw [add_off] at this
      simpa using this
    refine ⟨⟨g, 0, none⟩, E[i].2.1, E[i].2.2.1, E[i].2.2.2, rfl, (hl g rfl).2, ?_, ?_⟩
    · rw [add_off, List.getElem_map]
      have z : ∀ j, (0 + i * 9) + j = i * 9 + j := fun j => by omega
      refine ⟨?_, ?_, ?_, ?_, ?_, ?_, ?_, ?_, ?_⟩
      · exact d 0 _ (by omega) rfl
      · exact d 1 _ (by omega) rfl
      · exact d 2 _ (by omega) rfl
      · exact d 3 _ (by omega) rfl
      · exact d 4 _ (by omega) rfl
      · exact d 5 _ (by omega) rfl
      · exact d 6 _ (by omega) rfl
      · exact d 7 _ (by omega) rfl
      · exact d 8 _ (by omega) rfl
    · rw [List.getElem_map]
      have hm1 : (E[i].2.1, E[i].1.nd.names) ∈ slots E := List.mem_flatMap.2 ⟨E[i], List.getElem_mem hi, by simp⟩
      have hm2 : (E[i].2.2.1, E[i].1.nd.keys) ∈ slots E := List.mem_flatMap.2 ⟨E[i], List.getElem_mem hi, by simp⟩
      obtain ⟨hk0, oo, cc, hk1⟩ := h.kids E[i] (List.getElem_mem hi)
      refine ⟨(h.own _ hm1).tx, (h.own _ hm2).tx, ⟨oo, cc, by rw [hk0]; exact hk1, ?_⟩⟩
      rw [hk0]
      intro j hj
      exact absurd hj (Nat.not_lt_zero _)
end Go.Proofs.Ytonnmbkfjiddnaa
namespace Go.Proofs.Ytonnmbkfjiddnaa
open Go.RowKit Go.Lib Go.Maps
theorem two_cellsM {w : World} {b : Nat} {x y : Value} {t : TypeId} {z : Nat × Nat} (h : w.heap[b]? = some (.cells #[x, y] t z)) : w.cell? ⟨b, 0, none⟩ = some x ∧ w.cell? ⟨b, 1, none⟩ = some y := by
  constructor <;> simp [World.cell?, h]
theorem two_frozenM {w : World} {b : Nat} {x y : Value} {t : TypeId} (h : w.heap[b]? = some (.cells #[x, y] t (0, 0))) (j : Nat) : w.frozen? ⟨b, j, none⟩ = false := by
  simp [World.frozen?, h]
theorem heap_ltM {w : World} {b : Nat} {o : Obj} (h : w.heap[b]? = some o) : b < w.heap.size := by
  by_cases hb : b < w.heap.size
  · exact hb
  · rw [Array.getElem?_eq_none (by omega)] at h
    cases h
/-- The maker in block g: its nodes, and its code behind it. -/
structure Mk (t : TypeId) (g : Nat) (nv v : Value) (E : List CdE) (w : World) : Prop where
  blk : w.heap[g]? = some (.cells #[nv, v] t (0, 0))
  cw : Cw (g + 1) v E w
/-- What a call of the maker's changes: its own block, and the row r. -/
structure Ef (g : Nat) (r : Option Nat) (w w' : World) : Prop where
  os : w'.os = w.os
  tape : w'.tape = w.tape
  output : w'.output = w.output
  size : w.heap.size ≤ w'.heap.size
  keep : ∀ k, k < w.heap.size → k ≠ g → some k ≠ r → w'.heap[k]? = w.heap[k]?
/-- The row v' is v's, or new. -/
def Nw (w : World) (v v' : Value) : Prop := v'.ownBlock = v.ownBlock ∨ ∃ k, w.heap.size ≤ k ∧ v'.ownBlock = some k
theorem Ef.trans {g : Nat} {v v1 : Value} {w w1 w2 : World} (h : Ef g v.ownBlock w w1) (hn : Nw w v v1) (h2 : Ef g v1.ownBlock w1 w2) : Ef g v.ownBlock w w2 := by
  refine ⟨h2.os.trans h.os, h2.tape.trans h.tape, h2.output.trans h.output, Nat.le_trans h.size h2.size, fun k hk hg hr => (h2.keep k (Nat.lt_of_lt_of_le hk h.size) hg ?_).trans (h.keep k hk hg hr)⟩
  rcases hn with e | ⟨q, hq, e⟩
  · rw [e]; exact hr
  · rw [e]
    intro e2
    simp only [Option.some.injEq] at e2
    omega
theorem Nw.trans {w w1 : World} {v v1 v2 : Value} (h : Nw w v v1) (hs : w.heap.size ≤ w1.heap.size) (h2 : Nw w1 v1 v2) : Nw w v v2 := by
  rcases h2 with e | ⟨k, hk, e⟩
  · rcases h with e1 | ⟨k, hk, e1⟩
    · exact .inl (e.trans e1)
    · exact .inr ⟨k, hk, e.trans e1⟩
  · exact .inr ⟨k, by omega, e⟩
theorem Ef.low {t : TypeId} {g : Nat} {nv v : Value} {E : List CdE} {w w' : World} (h : Ef g v.ownBlock w w') (hM : Mk t g nv v E w) : Below g w w' :=
  ⟨h.os, h.tape, h.output, h.size, fun k hk => h.keep k (Nat.lt_trans hk (heap_ltM hM.blk)) (by omega) (fun e => by have := (World.ownsRow.lt hM.cw.row k e.symm).1; omega)⟩
/-- Blocks that are made ahead of a call. -/
theorem Ef.ahead {g : Nat} {r : Option Nat} {w w1 w2 : World} (hb : Below w.heap.size w w1) (h : Ef g r w1 w2) : Ef g r w w2 :=
  ⟨h.os.trans hb.os, h.tape.trans hb.tape, h.output.trans hb.output, Nat.le_trans hb.size h.size, fun k hk hg hr => (h.keep k (Nat.lt_of_lt_of_le hk hb.size) hg hr).trans (hb.block k hk)⟩
theorem Nw.ahead {w w1 : World} {v v1 : Value} (hs : w.heap.size ≤ w1.heap.size) (h : Nw w1 v v1) : Nw w v v1 := by
  rcases h with e | ⟨k, hk, e⟩
  · exact .inl e
  · exact .inr ⟨k, by omega, e⟩
theorem Mk.below {t : TypeId} {g : Nat} {nv v : Value} {E : List CdE} {w w' : World} (h : Mk t g nv v E w) (hb : Below w.heap.size w w') : Mk t g nv v E w' := ⟨(hb.block g (heap_ltM h.blk)).trans h.blk, h.cw.below hb⟩
/-- What a call of the maker's comes to: its code is E' then. -/
def Run (t : TypeId) (g : Nat) (nv v : Value) (E' : List CdE) (w w' : World) : Prop := ∃ v', Mk t g nv v' E' w' ∧ Ef g v.ownBlock w w' ∧ Nw w v v'
theorem opAppCw {w : World} {o : Oper} {a : Act} {K : Act → World → Prop} {Q : Exit → Act → World → Prop} (s x : Operand)
    (ho : o.op = .call { callee := .builtin .append, args := #[s, x], argTypes := #[24, 24] })
    (B : Nat) (v : Value) (E : List CdE) (hs : a.eval s = v) (hown : w.ownsRow B 50 9 v E.length (cdCells E)) (e : CdE) (g c : Nat) (hx : a.eval x = .slice (some ⟨g, 0, none⟩) 1 c)
    (hnew : ∀ (j : Nat) (y : Value), (cell9 e)[j]? = some y → w.cell? ⟨g, j, none⟩ = some y) (hone : ∀ y ∈ cell9 e, y.oneCell' = true) (hlen : E.length ≤ 1000000) (hB : B ≤ w.heap.size)
    (h : ∀ v' w', w'.ownsRow B 50 9 v' (E.length + 1) (cdCells (E ++ [e])) → w.grownBy w' v.ownBlock → Nw w v v' → K (a.put o.dst v') w') : o.wp Try.prog a w K Q := by
  obtain ⟨i0, hi0, hz0, hz1, hz2⟩ := info_parts Try.infoC
  obtain ⟨v', w', hr, h2, h3, h4, h5⟩ := run_append_own_at (P := Try.prog) w B 24 o.type 50 i0 _ 9 _ Try.underlying24 hi0 hz0 hz1 hz2 rfl (by decide) v E.length (cdCells E) hown ⟨g, 0, none⟩ 1 c (cell9 e) rfl (by
    intro j y hj
    rw [add_off]
    exact hnew j y hj) hone (by unfold maxLen; omega) (by omega) hB
  unfold Oper.wp execOp
  simp only [ho, resolve, invoke, builtin, Sem.run_bind, Sem.run_pure, Result.andThen_ok, List.map_toArray, List.map_cons, List.map_nil, hs, hx, hr]
  refine h v' w' ?_ h3 (by rcases h5 with e | e; exact .inl e; exact .inr ⟨_, Nat.le_refl _, e⟩)
  rw [cdCells_app]
  exact h2
abbrev bx7 (n : Nd) (vn vk vd : Value) : Obj := .cells #[.int .i64 n.kind, .int .i64 n.num, .int .i64 n.mat, .string n.text, vn, vk, vd] 44
abbrev bx9 (op : Int) (n : Nd) (vn vk vd : Value) : Obj := .cells #[.int .i64 op, .int .i64 0, .int .i64 n.kind, .int .i64 n.num, .int .i64 n.mat, .string n.text, vn, vk, vd] 50
theorem nine_cells {w : World} {g t : Nat} {z : Nat × Nat} (e : CdE) (h : w.heap[g]? = some (.cells (cell9 e).toArray t z)) (j : Nat) (y : Value) (hy : (cell9 e)[j]? = some y) : w.cell? ⟨g, j, none⟩ = some y := by
  simp [World.cell?, h, hy]
set_option maxHeartbeats 4000000 in
theorem specPut (g : Nat) (nv v : Value) (E : List CdE) (op : Int) (n : Nd) (vn vk vd : Value) (w : World) (hM : Mk 41 g nv v E w) (hlen : E.length ≤ 100000)
    (hn : LsX (g + 1) w (vn, n.names)) (hk : LsX (g + 1) w (vk, n.keys)) (hf : FarX (vn, n.names) (vk, n.keys)) (hfar : ∀ s ∈ slots E, FarX s (vn, n.names) ∧ FarX s (vk, n.keys)) (hkd : n.kids = [] ∧ ∃ o c, vd = .slice o 0 c) :
    Calls Try.prog 16 #[.pointer (some ⟨g, 0, none⟩), .int .i64 op, ndV n vn vk vd] w fun e w' => e = .returned (.int .i64 E.length) ∧ Run 41 g nv v (E ++ [(⟨op, 0, n⟩, vn, vk, vd)]) w w' := by
  obtain ⟨hblk, hC⟩ := hM
  have hgl := heap_ltM hblk
  have hn0 := hn
  have hk0 := hk
  have hkd0 := hkd
  obtain ⟨⟨on, cn, e1⟩, -⟩ := hn0
  obtain ⟨⟨ok, ck, e2⟩, -⟩ := hk0
  obtain ⟨-, od, cd, e3⟩ := hkd0
  dsimp only at e1 e2
  obtain ⟨o, cap, hv⟩ := hC.shape
  have hone : Hid (∀ y ∈ cell9 (⟨op, 0, n⟩, vn, vk, vd), y.oneCell' = true) := by
    show ∀ y ∈ _, _
    intro y hy
    simp only [cell9, List.mem_cons, List.not_mem_nil, or_false] at hy
    rcases hy with rfl | rfl | rfl | rfl | rfl | rfl | rfl | rfl | rfl <;> first | rfl | (rw [e1]; rfl) | (rw [e2]; rfl) | (rw [e3]; rfl)
  obtain ⟨W1, hW1⟩ : ∃ W1, w.alloc (bx7 n vn vk vd) = W1 := ⟨_, rfl⟩
  have b1 : Below w.heap.size w W1 := by rw [← hW1]; exact (Below.refl _ _).alloc (Nat.le_refl _) _
  have hs1 : W1.heap.size = w.heap.size + 1 := by rw [← hW1]; simp
  have hbx : W1.heap[w.heap.size]? = some (bx7 n vn vk vd) := by rw [← hW1]; exact heap_alloc_at _ _
  obtain ⟨W2, hW2⟩ : ∃ W2, (W1.alloc (bx9 op n vn vk vd)).drew = W2 := ⟨_, rfl⟩
  have b2 : Below w.heap.size w W2 := by rw [← hW2]; exact (b1.alloc (by omega) _).drew
  have hs2 : W2.heap.size = w.heap.size + 2 := by rw [← hW2]; simp [World.drew, hs1]
  have y1 : W1.cell? ⟨g, 1, none⟩ = some v := (two_cellsM ((b1.block g hgl).trans hblk)).2
  have y2 : (W1.alloc (bx9 op n vn vk vd)).cell? ⟨g, 1, none⟩ = some v := (two_cellsM (((b1.alloc (by omega) _).block g hgl).trans hblk)).2
  have d0 : W1.cell? ⟨w.heap.size, 0, none⟩ = some (.int .i64 n.kind) := by simp [World.cell?, hbx]
  have d1 : W1.cell? ⟨w.heap.size, 1, none⟩ = some (.int .i64 n.num) := by simp [World.cell?, hbx]
  have d2 : W1.cell? ⟨w.heap.size, 2, none⟩ = some (.int .i64 n.mat) := by simp [World.cell?, hbx]
  have d3 : W1.cell? ⟨w.heap.size, 3, none⟩ = some (.string n.text) := by simp [World.cell?, hbx]
  have d4 : W1.cell? ⟨w.heap.size, 4, none⟩ = some vn := by simp [World.cell?, hbx]
  have d5 : W1.cell? ⟨w.heap.size, 5, none⟩ = some vk := by simp [World.cell?, hbx]
  have d6 : W1.cell? ⟨w.heap.size, 6, none⟩ = some vd := by simp [World.cell?, hbx]
  have hC2 := mkHid (hC.below b2)
  have hn2 := mkHid (hn.below b2)
  have hk2 := mkHid (hk.below b2)
  have hb2 := mkHid (show W2.heap[g]? = some (.cells #[nv, v] 41 (0, 0)) from (b2.block g hgl).trans hblk)
  have hnew : Hid (∀ (j : Nat) (y : Value), (cell9 (⟨op, 0, n⟩, vn, vk, vd))[j]? = some y → W2.cell? ⟨W1.heap.size, j, none⟩ = some y) := by
    show ∀ _ _, _
    intro j y hy
    refine nine_cells (t := 50) (z := (0, 0)) _ ?_ j y hy
    have := heap_alloc_at W1 (bx9 op n vn vk vd)
    rw [← hW2]
    exact this
  have HW1 := mkHid hW1
  have HW2 := mkHid hW2
  have Hb2 := mkHid b2
  have Hs2 := mkHid hs2
  have hN := mkHid hf
  have hFar := mkHid hfar
  have hKd := mkHid hkd
  have Hs1 := mkHid hs1
  clear hblk hC hn hk hf hfar hkd hW1 hW2 b1 b2 hs2 hbx hs1
  subst e1 e2 e3 hv
  unfold ndV
  go_enter Try.func16, Try.ntmps16
  go_wp2
  rw [HW1.out]
  refine wp_region_any (by kernel_rfl) ?_
  refine wpAny_take (i := 0) (v := .pointer (some ⟨g, 0, none⟩)) rfl (by kernel_rfl) (by kernel_rfl) (by kernel_rfl) (fun _ _ _ h => h) (Or.inl ⟨by rfl, ?_⟩) ?_
  · intro w
    go_simp
    all_goals first | done | (intro h; exfalso; omega) | omega
  go_simp
  refine wpAny_take (i := 1) (v := .pointer (some ⟨g, 0, none⟩)) rfl (by kernel_rfl) (by kernel_rfl) (by kernel_rfl) (fun _ _ _ h => h) (Or.inl ⟨by rfl, ?_⟩) ?_
  · intro w
    go_simp
    all_goals first | done | (intro h; exfalso; omega) | omega
  go_simp
  refine wpAny_take (i := 2) (v := .pointer (some ⟨g, 0, none⟩)) rfl (by kernel_rfl) (by kernel_rfl) (by kernel_rfl) (fun _ _ _ h => h) (Or.inl ⟨by rfl, ?_⟩) ?_
  · intro w
    go_simp
    all_goals first | done | (intro h; exfalso; omega) | omega
  go_simp
  refine wpAny_take (i := 3) (v := .pointer (some ⟨g, 1, none⟩)) rfl (by kernel_rfl) (by kernel_rfl) (by kernel_rfl) (fun _ _ _ h => h) (Or.inl ⟨by rfl, ?_⟩) ?_
  · intro w
    go_simp
    all_goals first | done | (intro h; exfalso; omega) | omega
  go_simp
  refine wpAny_take (i := 5) (v := .int .i64 op) rfl (by kernel_rfl) (by kernel_rfl) (by kernel_rfl) (fun _ _ _ h => h) (Or.inl ⟨by rfl, ?_⟩) ?_
  · intro w
    go_simp
    all_goals first | done | (intro h; exfalso; omega) | omega
  go_simp
  refine wpAny_ready (rs := [4, 6]) (by kernel_rfl) (by simp) ?_
  refine AllReady.cons rfl (fun K hK => ?_) (AllReady.cons rfl (fun K hK => ?_) AllReady.nil)
  · go_simp
    refine hK _ _ ?_
    clear hK K
    go_simp
    refine wpAny_ready (rs := [6]) (by kernel_rfl) (by simp) ?_
    refine AllReady.cons rfl (fun K hK => ?_) AllReady.nil
    go_simp
    refine hK _ _ ?_
    clear hK K
    go_simp
    refine wpAny_take (i := 7) (v := .agg #[.int .i64 op, .int .i64 0, .int .i64 n.kind, .int .i64 n.num, .int .i64 n.mat, .string n.text, .slice on n.names.length cn, .slice ok n.keys.length ck, .slice od 0 cd]) rfl (by kernel_rfl) (by kernel_rfl) (by kernel_rfl) (fun _ _ _ h => h) (Or.inl ⟨by rfl, ?_⟩) ?_
    · intro w
      go_simp
      all_goals first | done | (intro h; exfalso; omega) | omega
    go_simp
    refine wpAny_ready (rs := [8]) (by kernel_rfl) (by simp) ?_
    refine AllReady.cons rfl (fun K hK => ?_) AllReady.nil
    go_simp
    refine hK _ _ ?_
    clear hK K
    go_simp
    refine wpAny_ready (rs := [9]) (by kernel_rfl) (by simp) ?_
    refine AllReady.cons rfl (fun K hK => ?_) AllReady.nil
    rw [HW2.out]
    refine opAppCw _ _ rfl (g + 1) (.slice o E.length cap) E rfl hC2.out.row (⟨op, 0, n⟩, .slice on n.names.length cn, .slice ok n.keys.length ck, .slice od 0 cd) W1.heap.size 1 rfl hnew.out hone.out (by omega) (by rw [Hs2.out]; omega) ?_
    intro y5 w6 hrow6 hg6 hnw6
    have hC6 := hC2.out.push hn2.out hk2.out hN.out hFar.out hKd.out hrow6 hg6
    have hlow : ∀ k, (Value.slice o E.length cap).ownBlock = some k → g + 1 ≤ k := fun k hk => (World.ownsRow.lt hC2.out.row k hk).1
    have hO6 : w6.heap[g]? = some (.cells #[nv, .slice o E.length cap] 41 (0, 0)) := (hg6.block g (by rw [Hs2.out]; omega) (fun e => by have := hlow _ e.symm; omega)).trans hb2.out
    have hb6 : Ef g (Value.slice o E.length cap).ownBlock w w6 := Ef.ahead Hb2.out ⟨hg6.os, hg6.tape, hg6.output, hg6.size, fun k hk _ hr => hg6.block k hk hr⟩
    have hN6 := mkHid (Nw.ahead (show w.heap.size ≤ W2.heap.size by rw [Hs2.out]; omega) hnw6)
    have x6 := (two_cellsM hO6).2
    have z6 := two_frozenM hO6 1
    obtain ⟨o5, k5, hv5⟩ := hC6.shape
    rw [show (E ++ [((⟨op, 0, n⟩ : Cd), Value.slice on n.names.length cn, Value.slice ok n.keys.length ck, Value.slice od 0 cd)]).length = E.length + 1 from by simp] at hv5
    subst hv5
    refine hK _ _ ?_
    clear hK K
    go_simp
    refine wpAny_take (i := 10) (v := .pointer (some ⟨g, 0, none⟩)) rfl (by kernel_rfl) (by kernel_rfl) (by kernel_rfl) (fun _ _ _ h => h) (Or.inl ⟨by rfl, ?_⟩) ?_
    · intro w
      go_simp
      all_goals first | done | (intro h; exfalso; omega) | omega
    go_simp
    refine wpAny_take (i := 11) (v := .pointer (some ⟨g, 1, none⟩)) rfl (by kernel_rfl) (by kernel_rfl) (by kernel_rfl) (fun _ _ _ h => h) (Or.inl ⟨by rfl, ?_⟩) ?_
    · intro w
      go_simp
      all_goals first | done | (intro h; exfalso; omega) | omega
    go_simp
    refine wpAny_ready (rs := [12]) (by kernel_rfl) (by simp) ?_
    refine AllReady.cons rfl (fun K hK => ?_) AllReady.nil
    go_simp
    refine hK _ _ ?_
    clear hK K
    go_simp
    refine wpAny_done (by kernel_rfl) ?_ _
    have hM7 : Hid (Mk 41 g nv (.slice o5 (E.length + 1) k5) _ (w6.setCell ⟨g, 1, none⟩ (.slice o5 (E.length + 1) k5))) := ⟨by simp [World.setCell, Array.getElem?_modify, hO6], hC6.set (by omega)⟩
    have hE7 : Hid (Ef g (Value.slice o E.length cap).ownBlock w (w6.setCell ⟨g, 1, none⟩ (.slice o5 (E.length + 1) k5))) := ⟨hb6.os, hb6.tape, hb6.output, by simpa using hb6.size, fun k hk hg hr => ((grG_set w6 g 1 _).block k (Nat.lt_of_lt_of_le hk hb6.size) (by simpa using hg)).trans (hb6.keep k hk hg hr)⟩
    have x7 : (w6.setCell ⟨g, 1, none⟩ (.slice o5 (E.length + 1) k5)).cell? ⟨g, 1, none⟩ = some (.slice o5 (E.length + 1) k5) := by simp [World.setCell, World.cell?, Array.getElem?_modify, hO6]
    clear hrow6 hg6 hC6 hO6 x6 z6 hb6 hnw6
    go_wp2
    go_ret
    exact ⟨by go_num, _, hM7.out, hE7.out, hN6.out⟩
  · go_simp
    refine hK _ _ ?_
    clear hK K
    go_simp
    refine wpAny_take (i := 7) (v := .agg #[.int .i64 op, .int .i64 0, .int .i64 n.kind, .int .i64 n.num, .int .i64 n.mat, .string n.text, .slice on n.names.length cn, .slice ok n.keys.length ck, .slice od 0 cd]) rfl (by kernel_rfl) (by kernel_rfl) (by kernel_rfl) (fun _ _ _ h => h) (Or.inl ⟨by rfl, ?_⟩) ?_
    · intro w
      go_simp
      all_goals first | done | (intro h; exfalso; omega) | omega
    go_simp
    refine wpAny_ready (rs := [4, 8]) (by kernel_rfl) (by simp) ?_
    refine AllReady.cons rfl (fun K hK => ?_) (AllReady.cons rfl (fun K hK => ?_) AllReady.nil)
    · go_simp
      refine hK _ _ ?_
      clear hK K
      go_simp
      refine wpAny_ready (rs := [8]) (by kernel_rfl) (by simp) ?_
      refine AllReady.cons rfl (fun K hK => ?_) AllReady.nil
      go_simp
      refine hK _ _ ?_
      clear hK K
      go_simp
      refine wpAny_ready (rs := [9]) (by kernel_rfl) (by simp) ?_
      refine AllReady.cons rfl (fun K hK => ?_) AllReady.nil
      rw [HW2.out]
      refine opAppCw _ _ rfl (g + 1) (.slice o E.length cap) E rfl hC2.out.row (⟨op, 0, n⟩, .slice on n.names.length cn, .slice ok n.keys.length ck, .slice od 0 cd) W1.heap.size 1 rfl hnew.out hone.out (by omega) (by rw [Hs2.out]; omega) ?_
      intro y5 w6 hrow6 hg6 hnw6
      have hC6 := hC2.out.push hn2.out hk2.out hN.out hFar.out hKd.out hrow6 hg6
      have hlow : ∀ k, (Value.slice o E.length cap).ownBlock = some k → g + 1 ≤ k := fun k hk => (World.ownsRow.lt hC2.out.row k hk).1
      have hO6 : w6.heap[g]? = some (.cells #[nv, .slice o E.length cap] 41 (0, 0)) := (hg6.block g (by rw [Hs2.out]; omega) (fun e => by have := hlow _ e.symm; omega)).trans hb2.out
      have hb6 : Ef g (Value.slice o E.length cap).ownBlock w w6 := Ef.ahead Hb2.out ⟨hg6.os, hg6.tape, hg6.output, hg6.size, fun k hk _ hr => hg6.block k hk hr⟩
      have hN6 := mkHid (Nw.ahead (show w.heap.size ≤ W2.heap.size by rw [Hs2.out]; omega) hnw6)
      have x6 := (two_cellsM hO6).2
      have z6 := two_frozenM hO6 1
      obtain ⟨o5, k5, hv5⟩ := hC6.shape
      rw [show (E ++ [((⟨op, 0, n⟩ : Cd), Value.slice on n.names.length cn, Value.slice ok n.keys.length ck, Value.slice od 0 cd)]).length = E.length + 1 from by simp] at hv5
      subst hv5
      refine hK _ _ ?_
      clear hK K
      go_simp
      refine wpAny_take (i := 10) (v := .pointer (some ⟨g, 0, none⟩)) rfl (by kernel_rfl) (by kernel_rfl) (by kernel_rfl) (fun _ _ _ h => h) (Or.inl ⟨by rfl, ?_⟩) ?_
      · intro w
        go_simp
        all_goals first | done | (intro h; exfalso; omega) | omega
      go_simp
      refine wpAny_take (i := 11) (v := .pointer (some ⟨g, 1, none⟩)) rfl (by kernel_rfl) (by kernel_rfl) (by kernel_rfl) (fun _ _ _ h => h) (Or.inl ⟨by rfl, ?_⟩) ?_
      · intro w
        go_simp
        all_goals first | done | (intro h; exfalso; omega) | omega
      go_simp
      refine wpAny_ready (rs := [12]) (by kernel_rfl) (by simp) ?_
      refine AllReady.cons rfl (fun K hK => ?_) AllReady.nil
      go_simp
      refine hK _ _ ?_
      clear hK K
      go_simp
      refine wpAny_done (by kernel_rfl) ?_ _
      have hM7 : Hid (Mk 41 g nv (.slice o5 (E.length + 1) k5) _ (w6.setCell ⟨g, 1, none⟩ (.slice o5 (E.length + 1) k5))) := ⟨by simp [World.setCell, Array.getElem?_modify, hO6], hC6.set (by omega)⟩
      have hE7 : Hid (Ef g (Value.slice o E.length cap).ownBlock w (w6.setCell ⟨g, 1, none⟩ (.slice o5 (E.length + 1) k5))) := ⟨hb6.os, hb6.tape, hb6.output, by simpa using hb6.size, fun k hk hg hr => ((grG_set w6 g 1 _).block k (Nat.lt_of_lt_of_le hk hb6.size) (by simpa using hg)).trans (hb6.keep k hk hg hr)⟩
      have x7 : (w6.setCell ⟨g, 1, none⟩ (.slice o5 (E.length + 1) k5)).cell? ⟨g, 1, none⟩ = some (.slice o5 (E.length + 1) k5) := by simp [World.setCell, World.cell?, Array.getElem?_modify, hO6]
      clear hrow6 hg6 hC6 hO6 x6 z6 hb6 hnw6
      go_wp2
      go_ret
      exact ⟨by go_num, _, hM7.out, hE7.out, hN6.out⟩
    · go_simp
      refine hK _ _ ?_
      clear hK K
      go_simp
      refine wpAny_ready (rs := [4]) (by kernel_rfl) (by simp) ?_
      refine AllReady.cons rfl (fun K hK => ?_) AllReady.nil
      go_simp
      refine hK _ _ ?_
      clear hK K
      go_simp
      refine wpAny_ready (rs := [9]) (by kernel_rfl) (by simp) ?_
      refine AllReady.cons rfl (fun K hK => ?_) AllReady.nil
      rw [HW2.out]
      refine opAppCw _ _ rfl (g + 1) (.slice o E.length cap) E rfl hC2.out.row (⟨op, 0, n⟩, .slice on n.names.length cn, .slice ok n.keys.length ck, .slice od 0 cd) W1.heap.size 1 rfl hnew.out hone.out (by omega) (by rw [Hs2.out]; omega) ?_
      intro y5 w6 hrow6 hg6 hnw6
      have hC6 := hC2.out.push hn2.out hk2.out hN.out hFar.out hKd.out hrow6 hg6
      have hlow : ∀ k, (Value.slice o E.length cap).ownBlock = some k → g + 1 ≤ k := fun k hk => (World.ownsRow.lt hC2.out.row k hk).1
      have hO6 : w6.heap[g]? = some (.cells #[nv, .slice o E.length cap] 41 (0, 0)) := (hg6.block g (by rw [Hs2.out]; omega) (fun e => by have := hlow _ e.symm; omega)).trans hb2.out
      have hb6 : Ef g (Value.slice o E.length cap).ownBlock w w6 := Ef.ahead Hb2.out ⟨hg6.os, hg6.tape, hg6.output, hg6.size, fun k hk _ hr => hg6.block k hk hr⟩
      have hN6 := mkHid (Nw.ahead (show w.heap.size ≤ W2.heap.size by rw [Hs2.out]; omega) hnw6)
      have x6 := (two_cellsM hO6).2
      have z6 := two_frozenM hO6 1
      obtain ⟨o5, k5, hv5⟩ := hC6.shape
      rw [show (E ++ [((⟨op, 0, n⟩ : Cd), Value.slice on n.names.length cn, Value.slice ok n.keys.length ck, Value.slice od 0 cd)]).length = E.length + 1 from by simp] at hv5
      subst hv5
      refine hK _ _ ?_
      clear hK K
      go_simp
      refine wpAny_take (i := 10) (v := .pointer (some ⟨g, 0, none⟩)) rfl (by kernel_rfl) (by kernel_rfl) (by kernel_rfl) (fun _ _ _ h => h) (Or.inl ⟨by rfl, ?_⟩) ?_
      · intro w
        go_simp
        all_goals first | done | (intro h; exfalso; omega) | omega
      go_simp
      refine wpAny_take (i := 11) (v := .pointer (some ⟨g, 1, none⟩)) rfl (by kernel_rfl) (by kernel_rfl) (by kernel_rfl) (fun _ _ _ h => h) (Or.inl ⟨by rfl, ?_⟩) ?_
      · intro w
        go_simp
        all_goals first | done | (intro h; exfalso; omega) | omega
      go_simp
      refine wpAny_ready (rs := [12]) (by kernel_rfl) (by simp) ?_
      refine AllReady.cons rfl (fun K hK => ?_) AllReady.nil
      go_simp
      refine hK _ _ ?_
      clear hK K
      go_simp
      refine wpAny_done (by kernel_rfl) ?_ _
      have hM7 : Hid (Mk 41 g nv (.slice o5 (E.length + 1) k5) _ (w6.setCell ⟨g, 1, none⟩ (.slice o5 (E.length + 1) k5))) := ⟨by simp [World.setCell, Array.getElem?_modify, hO6], hC6.set (by omega)⟩
      have hE7 : Hid (Ef g (Value.slice o E.length cap).ownBlock w (w6.setCell ⟨g, 1, none⟩ (.slice o5 (E.length + 1) k5))) := ⟨hb6.os, hb6.tape, hb6.output, by simpa using hb6.size, fun k hk hg hr => ((grG_set w6 g 1 _).block k (Nat.lt_of_lt_of_le hk hb6.size) (by simpa using hg)).trans (hb6.keep k hk hg hr)⟩
      have x7 : (w6.setCell ⟨g, 1, none⟩ (.slice o5 (E.length + 1) k5)).cell? ⟨g, 1, none⟩ = some (.slice o5 (E.length + 1) k5) := by simp [World.setCell, World.cell?, Array.getElem?_modify, hO6]
      clear hrow6 hg6 hC6 hO6 x6 z6 hb6 hnw6
      go_wp2
      go_ret
      exact ⟨by go_num, _, hM7.out, hE7.out, hN6.out⟩
end Go.Proofs.Ytonnmbkfjiddnaa
