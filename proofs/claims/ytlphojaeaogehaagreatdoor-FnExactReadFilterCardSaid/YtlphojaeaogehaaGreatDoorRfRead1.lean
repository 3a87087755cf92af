
/- A tree of a filter's nodes in memory: their row, and rows of their lists. -/

/- Plain mathematics of Phrase: lists of bytes alone; no program. -/

/- The bytes of phrases and atoms. -/

/- The walks of the model's Phrase. -/

/- Tokens of a script in memory, on the specification's side. -/

/- The specification's reader of a script: its state; is. -/
import Derived.Test.YtlphojaeaogehaaGreatDoorAppN
import Derived.Test.YtlphojaeaogehaaGreatDoorNodeKids
import Derived.Maps.AppendAt
import Derived.Test.YtlphojaeaogehaaGreatDoorReadPlain
import Derived.Lib.SplitLaws
import Derived.Test.YtlphojaeaogehaaGreatDoorRfParse
import Derived.Test.YtlphojaeaogehaaGreatDoorHeadTests
import Derived.Lib.QuietBelow
import Derived.Deep.QuietTactic
import Derived.BigQuiet
import Derived.OrdersHeld
namespace Go.Proofs.YtlphojaeaogehaaGreatDoor
open Go.RowKit Go.Lib Go.Maps
set_option maxRecDepth 20000 in
theorem heap_ltM {w : World} {b : Nat} {o : Obj} (h : w.heap[b]? = some o) : b < w.heap.size := by
  by_cases hb : b < w.heap.size
  · exact hb
  · rw [Array.getElem?_eq_none (by omega)] at h
    cases h
/-- A node and the slices of its three lists. -/
abbrev NdE := Nd × Value × Value × Value
def cell7 (e : NdE) : List Value := [.int .i64 e.1.kind, .int .i64 e.1.num, .int .i64 e.1.mat, .string e.1.text, e.2.1, e.2.2.1, e.2.2.2]
def ndCells (E : List NdE) : List Value := E.flatMap cell7
set_option maxRecDepth 20000 in
theorem cell7_len (e : NdE) : (cell7 e).length = 7 := rfl
set_option maxRecDepth 20000 in
theorem ndCells_len (E : List NdE) : (ndCells E).length = E.length * 7 := by
  induction E with
  | nil => rfl
  | cons r t ih => simp only [ndCells, List.flatMap_cons, List.length_append, cell7_len, List.length_cons] at ih ⊢; omega
set_option maxRecDepth 20000 in
theorem ndCells_app (E : List NdE) (e : NdE) : ndCells (E ++ [e]) = ndCells E ++ cell7 e := by simp [ndCells, List.flatMap_append]
set_option maxRecDepth 20000 in
theorem ndCells_at (E : List NdE) : ∀ (i : Nat) (h : i < E.length) (j : Nat), j < 7 → (ndCells E)[i * 7 + j]? = (cell7 E[i])[j]? := by
  induction E with
  | nil => intro i h; exact absurd h (Nat.not_lt_zero _)
  | cons r t ih =>
    intro i h j hj
    have e : ndCells (r :: t) = cell7 r ++ ndCells t := rfl
    rw [e]
    cases i with
    | zero =>
      rw [List.getElem?_append_left (by rw [cell7_len]; omega)]
      simp
    | succ i =>
      have h' : i < t.length := by simpa using h
      rw [List.getElem?_append_right (by rw [cell7_len]; omega), cell7_len, show (i + 1) * 7 + j - 7 = i * 7 + j by omega, ih i h' j hj]
      rfl
set_option maxRecDepth 20000 in
theorem own_apart9 {w : World} {B B' s s' n n' : Nat} {e e' : TypeId} {v v' : Value} {xs xs' : List Value} (h : w.ownsRow B e s v n xs) (h' : w.ownsRow B' e' s' v' n' xs') (he : e ≠ e') : v.ownBlock = none ∨ v.ownBlock ≠ v'.ownBlock := by
  rcases h.2 with ⟨rfl, -⟩ | ⟨g, cap, cur, rfl, -, hg, -⟩
  · exact .inl rfl
  · right
    rcases h'.2 with ⟨rfl, -⟩ | ⟨g', cap', cur', rfl, -, hg', -⟩
    · simp [Value.ownBlock]
    · intro e1
      simp only [Value.ownBlock, Option.some.injEq] at e1
      rw [e1, hg'] at hg
      simp only [Option.some.injEq, Obj.cells.injEq] at hg
      exact he hg.2.1.symm
/-- A list of texts that is empty, or has a row of its own. -/
abbrev Sl := Value × List ByteArray
def LsX (B : Nat) (w : World) (s : Sl) : Prop := (∃ o cap, s.1 = .slice o s.2.length cap) ∧ (s.2 ≠ [] → OwnX B s.1 s.2 w)
def FarX (a b : Sl) : Prop := a.2 = [] ∨ b.2 = [] ∨ a.1.ownBlock ≠ b.1.ownBlock
set_option maxRecDepth 20000 in
theorem FarX.symm {a b : Sl} (h : FarX a b) : FarX b a := by
  rcases h with h | h | h
  · exact .inr (.inl h)
  · exact .inl h
  · exact .inr (.inr (Ne.symm h))
set_option maxRecDepth 20000 in
theorem LsX.keep {B : Nat} {w w' : World} {s : Sl} {row : Option Nat} (h : LsX B w s) (hg : w.grownBy w' row) (hne : s.2 = [] ∨ s.1.ownBlock = none ∨ s.1.ownBlock ≠ row) : LsX B w' s := by
  refine ⟨h.1, fun hn => (h.2 hn).keep hg ?_⟩
  rcases hne with h | h
  · exact absurd h hn
  · exact h
set_option maxRecDepth 20000 in
theorem LsX.below {B : Nat} {w w' : World} {s : Sl} (h : LsX B w s) (hb : Below w.heap.size w w') : LsX B w' s := ⟨h.1, fun hn => (h.2 hn).below hb⟩
set_option maxRecDepth 20000 in
theorem LsX.nil (B : Nat) (w : World) : LsX B w (.slice none 0 0, []) := ⟨⟨none, 0, rfl⟩, fun h => absurd rfl h⟩
set_option maxRecDepth 20000 in
theorem LsX.tx {B : Nat} {w : World} {s : Sl} (h : LsX B w s) : ∃ o cap, s.1 = .slice o s.2.length cap ∧ Tx w.heap.size w o s.2 := by
  obtain ⟨⟨o, cap, e⟩, h2⟩ := h
  refine ⟨o, cap, e, ?_⟩
  by_cases hn : s.2 = []
  · rw [hn]
    intro i hi
    exact absurd hi (Nat.not_lt_zero _)
  · have hx := h2 hn
    rw [e] at hx
    intro i hi
    obtain ⟨a, rfl, h3, h4, h5⟩ := hx.txL i hi
    exact ⟨a, rfl, h4, h5⟩
/-- The same for lists of numbers. -/
abbrev Sn := Value × List Int
def LsN (B : Nat) (w : World) (s : Sn) : Prop := (∃ o cap, s.1 = .slice o s.2.length cap) ∧ (s.2 ≠ [] → OwnN B s.1 s.2 w)
def FarN (a b : Sn) : Prop := a.2 = [] ∨ b.2 = [] ∨ a.1.ownBlock ≠ b.1.ownBlock
set_option maxRecDepth 20000 in
theorem FarN.symm {a b : Sn} (h : FarN a b) : FarN b a := by
  rcases h with h | h | h
  · exact .inr (.inl h)
  · exact .inl h
  · exact .inr (.inr (Ne.symm h))
set_option maxRecDepth 20000 in
theorem LsN.keep {B : Nat} {w w' : World} {s : Sn} {row : Option Nat} (h : LsN B w s) (hg : w.grownBy w' row) (hne : s.2 = [] ∨ s.1.ownBlock = none ∨ s.1.ownBlock ≠ row) : LsN B w' s := by
  refine ⟨h.1, fun hn => (h.2 hn).keep hg ?_⟩
  rcases hne with h | h
  · exact absurd h hn
  · exact h
set_option maxRecDepth 20000 in
theorem LsN.below {B : Nat} {w w' : World} {s : Sn} (h : LsN B w s) (hb : Below w.heap.size w w') : LsN B w' s := ⟨h.1, fun hn => (h.2 hn).below hb⟩
set_option maxRecDepth 20000 in
theorem LsN.nil (B : Nat) (w : World) : LsN B w (.slice none 0 0, []) := ⟨⟨none, 0, rfl⟩, fun h => absurd rfl h⟩
set_option maxRecDepth 20000 in
theorem LsN.ints {B : Nat} {w : World} {s : Sn} (h : LsN B w s) : ∃ o cap, s.1 = .slice o s.2.length cap ∧ Ints w.heap.size w o s.2 := by
  obtain ⟨⟨o, cap, e⟩, h2⟩ := h
  refine ⟨o, cap, e, ?_⟩
  by_cases hn : s.2 = []
  · rw [hn]
    intro i hi
    exact absurd hi (Nat.not_lt_zero _)
  · have hx := h2 hn
    rw [e] at hx
    intro i hi
    obtain ⟨a, rfl, h3, h4, h5⟩ := hx.inL i hi
    exact ⟨a, rfl, h4, h5⟩
/-- The lists of texts of nodes, and their lists of kids. -/
def slots (E : List NdE) : List Sl := E.flatMap fun e => [(e.2.1, e.1.names), (e.2.2.1, e.1.keys)]
def kslots (E : List NdE) : List Sn := E.map fun e => (e.2.2.2, e.1.kids)
set_option maxRecDepth 20000 in
theorem slots_app (E : List NdE) (e : NdE) : slots (E ++ [e]) = slots E ++ [(e.2.1, e.1.names), (e.2.2.1, e.1.keys)] := by simp [slots, List.flatMap_append]
set_option maxRecDepth 20000 in
theorem kslots_app (E : List NdE) (e : NdE) : kslots (E ++ [e]) = kslots E ++ [(e.2.2.2, e.1.kids)] := by simp [kslots]
/-- The slice v, whose array is among the blocks from B on, holds just the nodes E; each of their lists is empty or has a row of its own among these blocks. -/
structure Nt (B : Nat) (v : Value) (E : List NdE) (w : World) : Prop where
  row : w.ownsRow B 37 7 v E.length (ndCells E)
  own : ∀ s ∈ slots E, LsX B w s
  sep : (slots E).Pairwise FarX
  ownN : ∀ s ∈ kslots E, LsN B w s
  sepN : (kslots E).Pairwise FarN
set_option maxRecDepth 20000 in
theorem Nt.nil (B : Nat) (w : World) : Nt B (.slice none 0 0) [] w := ⟨World.ownsRow_nil w B _ 7, fun _ h => (List.not_mem_nil h).elim, List.Pairwise.nil, fun _ h => (List.not_mem_nil h).elim, List.Pairwise.nil⟩
set_option maxRecDepth 20000 in
theorem Nt.shape {B : Nat} {v : Value} {E : List NdE} {w : World} (h : Nt B v E w) : ∃ o cap, v = .slice o E.length cap := by
  rcases h.row.2 with ⟨rfl, h0⟩ | ⟨g, cap, cur, rfl, -⟩
  · exact ⟨none, 0, by rw [h0]⟩
  · exact ⟨_, cap, rfl⟩
set_option maxRecDepth 20000 in
theorem Nt.rowfar {B : Nat} {v : Value} {E : List NdE} {w : World} (h : Nt B v E w) (s : Sl) (hs : s ∈ slots E) : s.2 = [] ∨ s.1.ownBlock = none ∨ s.1.ownBlock ≠ v.ownBlock := by
  by_cases hn : s.2 = []
  · exact .inl hn
  · exact .inr (own_apart9 (show w.ownsRow B 9 1 _ _ _ from (h.own s hs).2 hn) h.row (by decide))
set_option maxRecDepth 20000 in
theorem Nt.rowfarN {B : Nat} {v : Value} {E : List NdE} {w : World} (h : Nt B v E w) (s : Sn) (hs : s ∈ kslots E) : s.2 = [] ∨ s.1.ownBlock = none ∨ s.1.ownBlock ≠ v.ownBlock := by
  by_cases hn : s.2 = []
  · exact .inl hn
  · exact .inr (own_apart9 (show w.ownsRow B 2 1 _ _ _ from (h.ownN s hs).2 hn) h.row (by decide))
set_option maxRecDepth 20000 in
theorem Nt.below {B : Nat} {v : Value} {E : List NdE} {w w' : World} (h : Nt B v E w) (hb : Below w.heap.size w w') : Nt B v E w' := by
  refine ⟨World.ownsRow.kept h.row (row := none) ⟨hb.os, hb.tape, hb.output, hb.size, fun k hk _ => hb.block k hk⟩ ?_, fun s hs => (h.own s hs).below hb, h.sep, fun s hs => (h.ownN s hs).below hb, h.sepN⟩
  cases hv : v.ownBlock with
  | none => exact .inl rfl
  | some k => exact .inr (by simp)
set_option maxRecDepth 20000 in
theorem Nt.drew {B : Nat} {v : Value} {E : List NdE} {w : World} (h : Nt B v E w) : Nt B v E w.drew := ⟨h.row, h.own, h.sep, h.ownN, h.sepN⟩
set_option maxRecDepth 20000 in
/-- Another row grows, or a block below turns. -/
theorem Nt.grown {B : Nat} {v : Value} {E : List NdE} {w w' : World} {r : Option Nat} (h : Nt B v E w) (hg : w.grownBy w' r) (h0 : v.ownBlock = none ∨ v.ownBlock ≠ r) (h1 : ∀ s ∈ slots E, s.2 = [] ∨ s.1.ownBlock = none ∨ s.1.ownBlock ≠ r) (h2 : ∀ s ∈ kslots E, s.2 = [] ∨ s.1.ownBlock = none ∨ s.1.ownBlock ≠ r) : Nt B v E w' :=
  ⟨World.ownsRow.kept h.row hg h0, fun s hs => (h.own s hs).keep hg (h1 s hs), h.sep, fun s hs => (h.ownN s hs).keep hg (h2 s hs), h.sepN⟩
set_option maxRecDepth 20000 in
theorem Nt.set {B R0 j : Nat} {v u : Value} {E : List NdE} {w : World} (h : Nt B v E w) (hR : R0 < B) : Nt B v E (w.setCell ⟨R0, j, none⟩ u) := by
  have key : ∀ (x : Value), (∀ k, x.ownBlock = some k → B ≤ k) → x.ownBlock = none ∨ x.ownBlock ≠ some R0 := by
    intro x hx
    cases ho : x.ownBlock with
    | none => exact .inl rfl
    | some k => exact .inr (by have := hx k ho; intro e; cases e; omega)
  refine h.grown (grG_set w R0 j u) (key _ fun k hk => (World.ownsRow.lt h.row k hk).1) (fun s hs => ?_) (fun s hs => ?_)
  · by_cases hn : s.2 = []
    · exact .inl hn
    · exact .inr (key _ fun k hk => (World.ownsRow.lt ((h.own s hs).2 hn) k hk).1)
  · by_cases hn : s.2 = []
    · exact .inl hn
    · exact .inr (key _ fun k hk => (World.ownsRow.lt ((h.ownN s hs).2 hn) k hk).1)
set_option maxRecDepth 20000 in
/-- One more node behind the others. -/
theorem Nt.push {B : Nat} {v v' : Value} {E : List NdE} {e : NdE} {w w' : World} (h : Nt B v E w) (hn : LsX B w (e.2.1, e.1.names)) (hk : LsX B w (e.2.2.1, e.1.keys)) (hd : LsN B w (e.2.2.2, e.1.kids)) (hf : FarX (e.2.1, e.1.names) (e.2.2.1, e.1.keys))
    (hfar : ∀ s ∈ slots E, FarX s (e.2.1, e.1.names) ∧ FarX s (e.2.2.1, e.1.keys)) (hfarN : ∀ s ∈ kslots E, FarN s (e.2.2.2, e.1.kids))
    (hrow : w'.ownsRow B 37 7 v' (E.length + 1) (ndCells (E ++ [e]))) (hg : w.grownBy w' v.ownBlock) : Nt B v' (E ++ [e]) w' := by
  have ap : ∀ s : Sl, LsX B w s → s.2 = [] ∨ s.1.ownBlock = none ∨ s.1.ownBlock ≠ v.ownBlock := fun s hs => by
    by_cases hne : s.2 = []
    · exact .inl hne
    · exact .inr (own_apart9 (show w.ownsRow B 9 1 _ _ _ from hs.2 hne) h.row (by decide))
  have apN : ∀ s : Sn, LsN B w s → s.2 = [] ∨ s.1.ownBlock = none ∨ s.1.ownBlock ≠ v.ownBlock := fun s hs => by
    by_cases hne : s.2 = []
    · exact .inl hne
    · exact .inr (own_apart9 (show w.ownsRow B 2 1 _ _ _ from hs.2 hne) h.row (by decide))
  refine ⟨by rw [List.length_append]; exact hrow, ?_, ?_, ?_, ?_⟩
  · intro s hs
    rw [slots_app] at hs
    rcases List.mem_append.1 hs with hs | hs
    · exact (h.own s hs).keep hg (h.rowfar s hs)
    · simp only [List.mem_cons, List.not_mem_nil, or_false] at hs
      rcases hs with rfl | rfl
      · exact hn.keep hg (ap _ hn)
      · exact hk.keep hg (ap _ hk)
  · rw [slots_app, List.pairwise_append]
    refine ⟨h.sep, by simpa using hf, ?_⟩
    intro a ha b hb
    simp only [List.mem_cons, List.not_mem_nil, or_false] at hb
    rcases hb with rfl | rfl
    · exact (hfar a ha).1
    · exact (hfar a ha).2
  · intro s hs
    rw [kslots_app] at hs
    rcases List.mem_append.1 hs with hs | hs
    · exact (h.ownN s hs).keep hg (h.rowfarN s hs)
    · obtain rfl := List.mem_singleton.1 hs
      exact hd.keep hg (apN _ hd)
  · rw [kslots_app, List.pairwise_append]
    refine ⟨h.sepN, List.pairwise_singleton _ _, ?_⟩
    intro a ha b hb
    obtain rfl := List.mem_singleton.1 hb
    exact hfarN a ha
set_option maxRecDepth 20000 in
/-- The row as a list of nodes that can be read. -/
theorem Nt.nds {B : Nat} {o : Option Addr} {n cap : Nat} {E : List NdE} {w : World} (h : Nt B (.slice o n cap) E w) : Nds w.heap.size w o (E.map (·.1)) := by
  intro i hi0
  have hi : i < E.length := by simpa using hi0
  have hl := World.ownsRow.lt h.row
  have hrow := h.row
  rcases h.row.2 with ⟨h1, h0⟩ | ⟨g, cap', cur, h1, -⟩
  · omega
  · simp only [Value.slice.injEq] at h1
    obtain ⟨rfl, rfl, rfl⟩ := h1
    have key : ∀ j, j < 7 → ∀ y, (cell7 E[i])[j]? = some y → w.cell? ⟨g, i * 7 + j, none⟩ = some y := fun j hj y hy => by
      have := World.ownsRow.cells hrow (g := g) rfl (i * 7 + j) y (by rw [ndCells_at E i hi j hj]; exact hy)
      rw [add_off] at this
      exact this
    have m1 : (E[i].2.1, E[i].1.names) ∈ slots E := List.mem_flatMap.2 ⟨E[i], List.getElem_mem hi, by simp⟩
    have m2 : (E[i].2.2.1, E[i].1.keys) ∈ slots E := List.mem_flatMap.2 ⟨E[i], List.getElem_mem hi, by simp⟩
    have m3 : (E[i].2.2.2, E[i].1.kids) ∈ kslots E := List.mem_map.2 ⟨E[i], List.getElem_mem hi, rfl⟩
    rw [List.getElem_map]
    refine ⟨⟨g, 0, none⟩, E[i].2.1, E[i].2.2.1, E[i].2.2.2, rfl, (hl g rfl).2, ?_, ⟨(h.own _ m1).tx, (h.own _ m2).tx, (h.ownN _ m3).ints⟩⟩
    rw [add_off]
    exact ⟨key 0 (by omega) _ rfl, key 1 (by omega) _ rfl, key 2 (by omega) _ rfl, key 3 (by omega) _ rfl, key 4 (by omega) _ rfl, key 5 (by omega) _ rfl, key 6 (by omega) _ rfl⟩
/-- What a call of the maker's changes: its own block, and the row r. -/
structure Ef (g : Nat) (r : Option Nat) (w w' : World) : Prop where
  os : w'.os = w.os
  tape : w'.tape = w.tape
  output : w'.output = w.output
  size : w.heap.size ≤ w'.heap.size
  keep : ∀ k, k < w.heap.size → k ≠ g → some k ≠ r → w'.heap[k]? = w.heap[k]?
/-- The row v' is v's, or new. -/
def Nw (w : World) (v v' : Value) : Prop := v'.ownBlock = v.ownBlock ∨ ∃ k, w.heap.size ≤ k ∧ v'.ownBlock = some k
set_option maxRecDepth 20000 in
theorem Ef.trans {g : Nat} {v v1 : Value} {w w1 w2 : World} (h : Ef g v.ownBlock w w1) (hn : Nw w v v1) (h2 : Ef g v1.ownBlock w1 w2) : Ef g v.ownBlock w w2 := by
  refine ⟨h2.os.trans h.os, h2.tape.trans h.tape, h2.output.trans h.output, Nat.le_trans h.size h2.size, fun k hk hg hr => (h2.keep k (Nat.lt_of_lt_of_le hk h.size) hg ?_).trans (h.keep k hk hg hr)⟩
  rcases hn with e | ⟨q, hq, e⟩
  · rw [e]; exact hr
  · rw [e]
    intro e2
    simp only [Option.some.injEq] at e2
    omega
set_option maxRecDepth 20000 in
theorem Nw.trans {w w1 : World} {v v1 v2 : Value} (h : Nw w v v1) (hs : w.heap.size ≤ w1.heap.size) (h2 : Nw w1 v1 v2) : Nw w v v2 := by
  rcases h2 with e | ⟨k, hk, e⟩
  · rcases h with e1 | ⟨k, hk, e1⟩
    · exact .inl (e.trans e1)
    · exact .inr ⟨k, hk, e.trans e1⟩
  · exact .inr ⟨k, by omega, e⟩
set_option maxRecDepth 20000 in
/-- Blocks that are made ahead of a call. -/
theorem Ef.ahead {g : Nat} {r : Option Nat} {w w1 w2 : World} (hb : Below w.heap.size w w1) (h : Ef g r w1 w2) : Ef g r w w2 :=
  ⟨h.os.trans hb.os, h.tape.trans hb.tape, h.output.trans hb.output, Nat.le_trans hb.size h.size, fun k hk hg hr => (h.keep k (Nat.lt_of_lt_of_le hk hb.size) hg hr).trans (hb.block k hk)⟩
set_option maxRecDepth 20000 in
theorem Nw.ahead {w w1 : World} {v v1 : Value} (hs : w.heap.size ≤ w1.heap.size) (h : Nw w1 v v1) : Nw w v v1 := by
  rcases h with e | ⟨k, hk, e⟩
  · exact .inl e
  · exact .inr ⟨k, by omega, e⟩
end Go.Proofs.YtlphojaeaogehaaGreatDoor
namespace Go.Proofs.YtlphojaeaogehaaGreatDoor
open Go.Lib
namespace Pl
/-- A byte that may stand in a phrase. -/
def tb (c : UInt8) : Bool := decide (32 ≤ c.toNat) && !(c == 127)
def signs : List UInt8 := [33, 35, 36, 37, 38, 39, 42, 43, 45, 47, 61, 63, 94, 95, 123, 124, 125, 126, 96]
def signs0 : List UInt8 := [33, 35, 36, 37, 38, 39, 42, 43, 45, 47, 61, 63, 94, 95, 123, 124, 125, 126]
def alnum (c : UInt8) : Bool := decide (65 ≤ c.toNat ∧ c.toNat ≤ 90) || (decide (97 ≤ c.toNat ∧ c.toNat ≤ 122) || (decide (48 ≤ c.toNat ∧ c.toNat ≤ 57) || decide (128 ≤ c.toNat)))
/-- A byte of an atom. -/
def atom (c : UInt8) : Bool := alnum c || decide (0 ≤ indexByte signs c)
def atom' (c : UInt8) : Bool := alnum c || (c == 96 || (decide (32 < c.toNat) && (decide (c.toNat < 127) && decide (0 ≤ indexByte signs0 c))))
set_option maxRecDepth 20000 in
theorem atom_all : ∀ n, n < 256 → atom (UInt8.ofNat n) = atom' (UInt8.ofNat n) := by decide +kernel
set_option maxRecDepth 20000 in
theorem atom_eq (c : UInt8) : atom' c = atom c := by
  have := atom_all c.toNat (UInt8.toNat_lt c)
  rw [UInt8.ofNat_toNat] at this
  exact this.symm
set_option maxRecDepth 20000 in
theorem atom_blank : atom 32 = false := by decide +kernel
set_option maxRecDepth 20000 in
theorem atom_point : atom 46 = false := by decide +kernel

/-- Are these atoms with one byte d between each two? The flag: an atom has begun. -/
def scan (d : UInt8) : Bool → List UInt8 → Bool
  | was, [] => was
  | was, c :: r => if atom c then scan d true r else if c == d && was then scan d false r else false
/-- Cut at each d. -/
def sp (d : UInt8) : List UInt8 → List (List UInt8)
  | [] => [[]]
  | c :: r => if c = d then [] :: sp d r else match sp d r with | h :: t => (c :: h) :: t | [] => [[c]]
def okA (p : List UInt8) : Bool := !p.isEmpty && p.all atom
set_option maxRecDepth 20000 in
theorem sp_ne (d : UInt8) (l : List UInt8) : ∃ h t, sp d l = h :: t := by
  cases l with
  | nil => exact ⟨[], [], rfl⟩
  | cons c r =>
    unfold sp
    split
    · exact ⟨_, _, rfl⟩
    · cases sp d r with
      | nil => exact ⟨_, _, rfl⟩
      | cons h t => exact ⟨_, _, rfl⟩
set_option maxRecDepth 20000 in
theorem scan_sp (d : UInt8) (hd : atom d = false) : ∀ (l h : List UInt8) (t : List (List UInt8)), sp d l = h :: t → scan d true l = (h.all atom && t.all okA) ∧ scan d false l = (okA h && t.all okA)
  | [], h, t, e => by
    simp only [sp, List.cons.injEq] at e
    obtain ⟨rfl, rfl⟩ := e
    exact ⟨rfl, rfl⟩
  | c :: r, h, t, e => by
    obtain ⟨h', t', e'⟩ := sp_ne d r
    obtain ⟨i1, i2⟩ := scan_sp d hd r h' t' e'
    by_cases hc : c = d
    · subst hc
      rw [sp, if_pos rfl, List.cons.injEq] at e
      obtain ⟨rfl, rfl⟩ := e
      constructor
      · rw [scan, if_neg (by rw [hd]; simp), if_pos (by simp), i2, e']
        rfl
      · rw [scan, if_neg (by rw [hd]; simp), if_neg (by simp)]
        rfl
    · rw [sp, if_neg hc, e'] at e
      simp only [List.cons.injEq] at e
      obtain ⟨rfl, rfl⟩ := e
      by_cases ha : atom c = true
      · constructor
        · rw [scan, if_pos ha, i1, List.all_cons, ha, Bool.true_and]
        · rw [scan, if_pos ha, i1, okA, List.all_cons, ha, Bool.true_and]
          rfl
      · rw [Bool.not_eq_true] at ha
        have hn : (c == d) = false := by simpa using hc
        constructor
        · rw [scan, if_neg (by rw [ha]; simp), hn, List.all_cons, ha]
          rfl
        · rw [scan, if_neg (by rw [ha]; simp), hn, okA, List.all_cons, ha]
          simp
set_option maxRecDepth 20000 in
theorem scan_all (d : UInt8) (hd : atom d = false) (l : List UInt8) : (sp d l).all okA = scan d false l := by
  obtain ⟨h, t, e⟩ := sp_ne d l
  rw [(scan_sp d hd l h t e).2, e, List.all_cons]
set_option maxRecDepth 20000 in
/-- The library's cut is ours. -/
theorem split_sp (d : UInt8) : ∀ l : List UInt8, splitK [d] 0 (count l [d]) l = sp d l
  | [] => by rw [count_miss (by simp [index])]; rfl
  | c :: r => by
    have ih := split_sp d r
    by_cases hc : c = d
    · subst hc
      have hix : index (c :: r) [c] = 0 := by rw [index]; simp [List.isPrefixOf]
      rw [count_cons_eq, Nat.add_comm, splitK, hix, if_neg (by decide), sp, if_pos rfl, ← ih]
      rfl
    · have hp : ([d] : List UInt8).isPrefixOf (c :: r) = false := by simp [List.isPrefixOf, Ne.symm hc]
      have hix : index (c :: r) [d] = if index r [d] == -1 then -1 else index r [d] + 1 := by rw [index, hp]; simp
      rw [count_cons_ne c d r hc, sp, if_neg hc, ← ih]
      by_cases hm : index r [d] = -1
      · rw [count_miss hm]
        rfl
      · have hge := index_ge r [d]
        obtain ⟨j, hj⟩ : ∃ j : Nat, index r [d] = j := ⟨(index r [d]).toNat, by omega⟩
        have hne : (index r [d] == -1) = false := by rw [hj]; simp
        rw [hne] at hix
        simp only [Bool.false_eq_true, if_false] at hix
        have hne2 : (index (c :: r) [d] == -1) = false := by rw [hix, hj]; simp; omega
        obtain ⟨k, hk⟩ : ∃ k, count r [d] = k + 1 := ⟨count (r.drop (j + 1)) [d], by rw [count_hit (by simp) hj]; simp; omega⟩
        rw [hk, splitK, splitK, hne, hne2, hix, hj]
        have e1 : ((j : Int) + 1).toNat = j + 1 := by omega
        simp only [Bool.false_eq_true, if_false, e1, Int.toNat_natCast, Nat.add_zero, List.take_succ_cons, List.length_cons, List.length_nil]
        rfl
/-- Quoted. -/
def qs : List UInt8 → List UInt8
  | [] => []
  | c :: r => if c == 34 || c == 92 then 92 :: c :: qs r else c :: qs r
set_option maxRecDepth 20000 in
theorem qs_esc (l p x : List UInt8) (k : Nat) (hk : k < l.length) (h : (l[k] == 34 || l[k] == 92) = true) (hp : p ++ qs (l.drop k) = x) : (p ++ [92] ++ [l[k]]) ++ qs (l.drop (k + 1)) = x := by
  rw [drop_cons l k hk, qs, if_pos h] at hp
  simpa using hp
set_option maxRecDepth 20000 in
theorem qs_plain (l p x : List UInt8) (k : Nat) (hk : k < l.length) (h : (l[k] == 34 || l[k] == 92) = false) (hp : p ++ qs (l.drop k) = x) : (p ++ [l[k]]) ++ qs (l.drop (k + 1)) = x := by
  rw [drop_cons l k hk, qs, if_neg (by rw [h]; simp)] at hp
  simpa using hp
set_option maxRecDepth 20000 in
theorem qs_done (l p x : List UInt8) (k : Nat) (hk : l.length ≤ k) (hp : p ++ qs (l.drop k) = x) : p = x := by
  rw [List.drop_eq_nil_of_le hk] at hp
  simpa [qs] using hp
def phrase (l : List UInt8) : List UInt8 := if l.all tb then (if scan 32 false l then l else 34 :: qs l ++ [34]) else []
end Pl
end Go.Proofs.YtlphojaeaogehaaGreatDoor
namespace Go.Proofs.YtlphojaeaogehaaGreatDoor
open Go.RowKit Go.Lib
set_option maxRecDepth 20000 in
theorem tb_cases (c : UInt8) : c.toNat < 32 ∧ Pl.tb c = false ∨ 32 ≤ c.toNat ∧ ((c.toNat : Int) == 127) = true ∧ Pl.tb c = false ∨ 32 ≤ c.toNat ∧ ((c.toNat : Int) == 127) = false ∧ Pl.tb c = true := by
  by_cases h1 : c.toNat < 32
  · exact .inl ⟨h1, by simp [Pl.tb]; omega⟩
  · cases h3 : ((c.toNat : Int) == 127)
    · refine .inr (.inr ⟨by omega, rfl, ?_⟩)
      have := Pl.byte_ne c 127 _ rfl h3
      simp [Pl.tb, this]; omega
    · refine .inr (.inl ⟨by omega, rfl, ?_⟩)
      rw [Pl.byte_eq c 127 _ rfl h3]; rfl
def Pl.letter (c : UInt8) : Bool := decide (65 ≤ c.toNat ∧ c.toNat ≤ 90) || decide (97 ≤ c.toNat ∧ c.toNat ≤ 122)
def Pl.digit (c : UInt8) : Bool := decide (48 ≤ c.toNat ∧ c.toNat ≤ 57)
set_option maxRecDepth 20000 in
/-- The ranges of a byte. -/
theorem range_cases (c : UInt8) : (c.toNat < 48 ∧ Pl.alnum c = false) ∨ (48 ≤ c.toNat ∧ c.toNat ≤ 57 ∧ Pl.alnum c = true) ∨ (58 ≤ c.toNat ∧ c.toNat ≤ 64 ∧ Pl.alnum c = false) ∨ (65 ≤ c.toNat ∧ c.toNat ≤ 90 ∧ Pl.alnum c = true) ∨
    (91 ≤ c.toNat ∧ c.toNat ≤ 96 ∧ Pl.alnum c = false) ∨ (97 ≤ c.toNat ∧ c.toNat ≤ 122 ∧ Pl.alnum c = true) ∨ (123 ≤ c.toNat ∧ c.toNat ≤ 127 ∧ Pl.alnum c = false) ∨ (128 ≤ c.toNat ∧ Pl.alnum c = true) := by
  unfold Pl.alnum
  by_cases h1 : c.toNat < 48
  · exact .inl ⟨h1, by simp; omega⟩
  by_cases h2 : c.toNat ≤ 57
  · exact .inr (.inl ⟨by omega, h2, by simp; omega⟩)
  by_cases h3 : c.toNat ≤ 64
  · exact .inr (.inr (.inl ⟨by omega, h3, by simp; omega⟩))
  by_cases h4 : c.toNat ≤ 90
  · exact .inr (.inr (.inr (.inl ⟨by omega, h4, by simp; omega⟩)))
  by_cases h5 : c.toNat ≤ 96
  · exact .inr (.inr (.inr (.inr (.inl ⟨by omega, h5, by simp; omega⟩))))
  by_cases h6 : c.toNat ≤ 122
  · exact .inr (.inr (.inr (.inr (.inr (.inl ⟨by omega, h6, by simp; omega⟩)))))
  by_cases h7 : c.toNat ≤ 127
  · exact .inr (.inr (.inr (.inr (.inr (.inr (.inl ⟨by omega, h7, by simp; omega⟩))))))
  · exact .inr (.inr (.inr (.inr (.inr (.inr (.inr ⟨by omega, by simp; omega⟩))))))
set_option maxRecDepth 20000 in
theorem implDigit (c : UInt8) (w : World) : Calls Tryz.prog 75 #[.int .u8 (c.toNat : Int)] w fun e w' => e = .returned (.bool (Pl.digit c)) ∧ w = w' := by
  have h8 : c.toNat < 256 := UInt8.toNat_lt _
  by_cases h0 : 48 ≤ c.toNat
  · rw [show Pl.digit c = decide ((c.toNat : Int) ≤ 57) from by unfold Pl.digit; by_cases h : c.toNat ≤ 57 <;> simp [h] <;> omega]
    go_enter Tryz.func75, Tryz.ntmps75
    go_wp2
    go_ret
    exact ⟨rfl, rfl⟩
  · rw [show Pl.digit c = false from by simp [Pl.digit]; omega]
    go_enter Tryz.func75, Tryz.ntmps75
    go_wp2
    go_ret
    exact ⟨rfl, rfl⟩
end Go.Proofs.YtlphojaeaogehaaGreatDoor
namespace Go.Proofs.YtlphojaeaogehaaGreatDoor
open Go.RowKit Go.Lib
set_option maxRecDepth 20000 in
theorem ix_hit (l : List UInt8) (c : UInt8) (k : Nat) (hk : k < l.length) (h : l[k] = c) : indexByte (l.drop k) c = 0 := by
  rw [Pl.drop_cons l k hk, indexByte, if_pos (by simpa using h)]
set_option maxRecDepth 20000 in
theorem ix_miss (l : List UInt8) (c : UInt8) (k : Nat) (hk : k < l.length) (h : l[k] ≠ c) : indexByte (l.drop k) c = if indexByte (l.drop (k + 1)) c == -1 then -1 else indexByte (l.drop (k + 1)) c + 1 := by
  rw [Pl.drop_cons l k hk, indexByte, if_neg (by simpa using h)]
set_option maxRecDepth 20000 in
theorem ext_one (s : ByteArray) (k : Nat) (h : k < s.size) : s.extract k (k + 1) = ⟨#[s[k]]⟩ := by
  apply ByteArray.ext
  apply Array.ext'
  rw [Pl.ext_data, Pl.drop_cons _ k (by simpa using h)]
  simp
  rfl
/-- A byte's first place in a text, looked for as a text. -/
def ixFrom (l : List UInt8) (c : UInt8) (k : Nat) : Int := if indexByte (l.drop k) c == -1 then -1 else indexByte (l.drop k) c + k
set_option maxRecDepth 20000 in
theorem ixFrom_hit (l : List UInt8) (c : UInt8) (k : Nat) (hk : k < l.length) (h : l[k] = c) : ixFrom l c k = k := by
  rw [ixFrom, ix_hit l c k hk h]; simp
set_option maxRecDepth 20000 in
theorem ixFrom_miss (l : List UInt8) (c : UInt8) (k : Nat) (hk : k < l.length) (h : l[k] ≠ c) : ixFrom l c (k + 1) = ixFrom l c k := by
  rw [ixFrom, ixFrom, ix_miss l c k hk h]
  have := indexByte_ge (l.drop (k + 1)) c
  generalize indexByte (l.drop (k + 1)) c = i at *
  by_cases hi : i = -1
  · subst hi; rfl
  · have h1 : (i == -1) = false := by simpa using hi
    have h2 : (i + 1 == -1) = false := by simp; omega
    rw [h1]
    simp only [Bool.false_eq_true, if_false, h2]
    omega
set_option maxRecDepth 20000 in
theorem ixFrom_end (l : List UInt8) (c : UInt8) (k : Nat) (hk : l.length ≤ k) : ixFrom l c k = -1 := by
  rw [ixFrom, List.drop_eq_nil_of_le hk]; rfl
set_option maxRecDepth 20000 in
set_option maxHeartbeats 1000000 in
theorem specIndex1 (s : ByteArray) (c : UInt8) (w : World) (_hs : s.size ≤ 1100000) :
    Calls Tryz.prog 24 #[.string s, .string ⟨#[c]⟩, .int .i64 0] w fun e w' => e = .returned (.int .i64 (ixFrom s.data.toList c 0)) ∧ w = w' := by
  obtain ⟨R, hR⟩ : ∃ R, ixFrom s.data.toList c 0 = R := ⟨_, rfl⟩
  rw [hR]
  have HR := (show Hid (ixFrom s.data.toList c 0 = R) from hR)
  clear hR
  have h1 : (ByteArray.mk #[c]).size = 1 := rfl
  go_enter Tryz.func24, Tryz.ntmps24
  go_wp2
  go_loopw [7] (fun i wr => ∃ k : Nat, k ≤ s.size ∧ i = .int .i64 k ∧ Hid (ixFrom s.data.toList c k = R) ∧ wr = w) (fun i _ => s.size - (Lib.intOf i).toNat)
  case atStart => exact ⟨0, Nat.zero_le _, rfl, HR, rfl⟩
  case round =>
    clear HR
    obtain ⟨k, hk, rfl, hp, rfl⟩ := hrel
    by_cases hlt : k < s.size
    · have he := ext_one s k hlt
      by_cases hc : s[k] = c
      · have hE : Hid (R = k) := show _ = _ from by rw [← hp.out, ixFrom_hit s.data.toList c k (by simpa using hlt) hc]
        rw [hc] at he
        clear hp
        go_wp2
        go_ret
        rw [hE.out]
        exact ⟨rfl, rfl⟩
      · have hE : Hid (ixFrom s.data.toList c (k + 1) = R) := show _ = _ from by rw [← hp.out, ixFrom_miss s.data.toList c k (by simpa using hlt) hc]
        have hcc : (s[k] == c) = false := by simpa using hc
        clear hp
        go_wp2
        go_roundw
        case rel => exact ⟨k + 1, by omega, by go_num, hE, trivial⟩
        case measure => simp [Lib.intOf]; omega
    · have hE : Hid (R = -1) := show _ = _ from by rw [← hp.out, ixFrom_end s.data.toList c k (by simp; omega)]
      clear hp
      go_wp2
      go_ret
      rw [hE.out]
      exact ⟨rfl, rfl⟩
set_option maxRecDepth 20000 in
theorem ix_zero (l : List UInt8) (c : UInt8) : ixFrom l c 0 = indexByte l c := by
  rw [ixFrom, List.drop_zero]
  by_cases h : indexByte l c = -1
  · rw [h]; rfl
  · have : (indexByte l c == -1) = false := by simpa using h
    rw [this]
    simp
set_option maxRecDepth 20000 in
theorem specSigns (c : UInt8) (w : World) : Calls Tryz.prog 24 #[.string ⟨#[33, 35, 36, 37, 38, 39, 42, 43, 45, 47, 61, 63, 94, 95, 123, 124, 125, 126]⟩, .string ⟨#[c]⟩, .int .i64 0] w fun e w' => e = .returned (.int .i64 (indexByte Pl.signs0 c)) ∧ w = w' := by
  refine (specIndex1 _ c w (by show 18 ≤ 1100000; omega)).mono ?_
  rintro e w' ⟨rfl, rfl⟩
  rw [ix_zero]
  exact ⟨rfl, rfl⟩
set_option maxRecDepth 20000 in
theorem scan_atom (d : UInt8) (l : List UInt8) (k : Nat) (b : Bool) (hk : k < l.length) (h : Pl.atom l[k] = true) : Pl.scan d b (l.drop k) = Pl.scan d true (l.drop (k + 1)) := by
  rw [Pl.drop_cons l k hk, Pl.scan, if_pos h]
set_option maxRecDepth 20000 in
theorem scan_blank (d : UInt8) (l : List UInt8) (k : Nat) (hk : k < l.length) (h : Pl.atom l[k] = false) (h2 : l[k] = d) : Pl.scan d true (l.drop k) = Pl.scan d false (l.drop (k + 1)) := by
  rw [Pl.drop_cons l k hk, Pl.scan, if_neg (by rw [h]; simp), if_pos (by rw [h2]; simp)]
set_option maxRecDepth 20000 in
theorem scan_bad (d : UInt8) (l : List UInt8) (k : Nat) (b : Bool) (hk : k < l.length) (h : Pl.atom l[k] = false) (h2 : l[k] ≠ d ∨ b = false) : Pl.scan d b (l.drop k) = false := by
  rw [Pl.drop_cons l k hk, Pl.scan, if_neg (by rw [h]; simp), if_neg]
  rcases h2 with h2 | h2
  · have : (l[k] == d) = false := by simpa using h2
    rw [this]; simp
  · rw [h2]; simp
set_option maxRecDepth 20000 in
theorem scan_end (d : UInt8) (l : List UInt8) (k : Nat) (b : Bool) (hk : l.length ≤ k) : Pl.scan d b (l.drop k) = b := by
  rw [List.drop_eq_nil_of_le hk]; rfl
end Go.Proofs.YtlphojaeaogehaaGreatDoor
namespace Go.Proofs.YtlphojaeaogehaaGreatDoor
open Go.RowKit Go.Lib Go.Maps
/-- A token as it lies there: its kind, its text, its line. -/
abbrev TkE := Nat × ByteArray × Nat
def cell3 (e : TkE) : List Value := [.int .u8 (e.1 : Int), .string e.2.1, .int .i64 (e.2.2 : Int)]
def tkCells (E : List TkE) : List Value := E.flatMap cell3
set_option maxRecDepth 20000 in
theorem cell3_len (e : TkE) : (cell3 e).length = 3 := rfl
set_option maxRecDepth 20000 in
theorem tkCells_app (E : List TkE) (e : TkE) : tkCells (E ++ [e]) = tkCells E ++ cell3 e := by simp [tkCells, List.flatMap_append]
set_option maxRecDepth 20000 in
theorem tkCells_at (E : List TkE) : ∀ (i : Nat) (h : i < E.length) (j : Nat), j < 3 → (tkCells E)[i * 3 + j]? = (cell3 E[i])[j]? := by
  induction E with
  | nil => intro i h; exact absurd h (Nat.not_lt_zero _)
  | cons r t ih =>
    intro i h j hj
    have e : tkCells (r :: t) = cell3 r ++ tkCells t := rfl
    rw [e]
    cases i with
    | zero =>
      rw [List.getElem?_append_left (by rw [cell3_len]; omega)]
      simp
    | succ i =>
      have h' : i < t.length := by simpa using h
      rw [List.getElem?_append_right (by rw [cell3_len]; omega), cell3_len, show (i + 1) * 3 + j - 3 = i * 3 + j by omega, ih i h' j hj]
      rfl
/-- The slice holds just these tokens. -/
def OwnK (B : Nat) (v : Value) (E : List TkE) (w : World) : Prop := w.ownsRow B 39 3 v E.length (tkCells E)
set_option maxRecDepth 20000 in
theorem OwnK.made (B : Nat) (w : World) (h : B ≤ w.heap.size) : OwnK B (.slice (some ⟨w.heap.size, 0, none⟩) 0 0) [] (w.alloc (.cells #[] 39)) :=
  ⟨rfl, .inr ⟨w.heap.size, 0, #[], rfl, h, heap_alloc_at _ _, Nat.le_refl _, Nat.zero_le _, rfl, rfl⟩⟩
set_option maxRecDepth 20000 in
theorem OwnK.shape {B : Nat} {v : Value} {E : List TkE} {w : World} (h : OwnK B v E w) : ∃ o cap, v = .slice o E.length cap := by
  rcases h.2 with ⟨rfl, h0⟩ | ⟨g, cap, cur, rfl, -⟩
  · exact ⟨none, 0, by rw [h0]⟩
  · exact ⟨_, cap, rfl⟩
set_option maxRecDepth 20000 in
theorem OwnK.below {B : Nat} {v : Value} {E : List TkE} {w w' : World} (h : OwnK B v E w) (hb : Below w.heap.size w w') : OwnK B v E w' := World.ownsRow.kept h (row := none) ⟨hb.os, hb.tape, hb.output, hb.size, fun k hk _ => hb.block k hk⟩ (by cases v.ownBlock <;> simp)
set_option maxRecDepth 20000 in
theorem OwnK.at {B : Nat} {o : Option Addr} {n cap : Nat} {E : List TkE} {w : World} (h : OwnK B (.slice o n cap) E w) (k : Nat) (hk : k < E.length) : ∃ q, o = some ⟨q, 0, none⟩ ∧ q < w.heap.size ∧ B ≤ q ∧ w.cell? ⟨q, k * 3, none⟩ = some (.int .u8 (E[k].1 : Int)) ∧ w.cell? ⟨q, k * 3 + 1, none⟩ = some (.string E[k].2.1) ∧ w.cell? ⟨q, k * 3 + 2, none⟩ = some (.int .i64 (E[k].2.2 : Int)) := by
  have hl := World.ownsRow.lt h
  rcases h.2 with ⟨h1, h0⟩ | ⟨q, cap', cur, h1, hB, -⟩
  · omega
  · simp only [Value.slice.injEq] at h1
    obtain ⟨rfl, rfl, rfl⟩ := h1
    have key : ∀ j, j < 3 → ∀ y, (cell3 E[k])[j]? = some y → w.cell? ⟨q, k * 3 + j, none⟩ = some y := fun j hj y hy => by
      have := World.ownsRow.cells h (g := q) rfl (k * 3 + j) y (by rw [tkCells_at E k hk j hj]; exact hy)
      rw [add_off] at this
      exact this
    exact ⟨q, rfl, (hl q rfl).2, hB, key 0 (by omega) _ rfl, key 1 (by omega) _ rfl, key 2 (by omega) _ rfl⟩
set_option maxRecDepth 20000 in
theorem Tryz.infoK : (Tryz.prog.info? 39).map (fun i => (i.zero, i.size, i.bytes)) = some (some (.agg #[.int .u8 0, .string ⟨#[]⟩, .int .i64 0]), 3, 32) := by kernel_rfl
set_option maxRecDepth 20000 in
/-- An append of one token. -/
theorem wp_appK {w : World} {ops : Array Oper} {rest : List Oper} {o : Oper} {a : Act} {Q : Exit → Act → World → Prop} (hgd : o.guard = none) (s x : Operand)
    (ho : o.op = .call { callee := .builtin .append, args := #[s, x], argTypes := #[30, 30] })
    (B : Nat) (v : Value) (E : List TkE) (hs : a.eval s = v) (hown : OwnK B v E w) (e : TkE)
    (c : Nat) (hx : a.eval x = .slice (some ⟨w.heap.size, 0, none⟩) 1 c) (hlen : E.length ≤ 1000000) (hB : B ≤ w.heap.size)
    (h : ∀ v' w', OwnK B v' (E ++ [e]) w' → (w.alloc (.cells #[.int .u8 (e.1 : Int), .string e.2.1, .int .i64 (e.2.2 : Int)] 39)).grownBy w' v.ownBlock → wpList Tryz.prog ops Q rest (a.put o.dst v') w') : wpList Tryz.prog ops Q (o :: rest) a (w.alloc (.cells #[.int .u8 (e.1 : Int), .string e.2.1, .int .i64 (e.2.2 : Int)] 39)) := by
  obtain ⟨i0, hi0, hz0, hz1, hz2⟩ := info_parts Tryz.infoK
  unfold OwnK at hown
  refine wpList_append_own _ hgd s x 30 ho B 39 i0 _ 3 32 Tryz.underlying30 hi0 hz0 hz1 hz2 rfl (by decide) v E.length (tkCells E) hs (World.ownsRow.alloc hown _) ⟨w.heap.size, 0, none⟩ 1 c (cell3 e) hx
    rfl ?_ ?_ (by unfold maxLen; omega) (by omega) (by simp; omega) ?_
  · intro j y hj
    rw [add_off]
    match j, hj with
    | 0, hj => simp [cell3] at hj; subst hj; simp
    | 1, hj => simp [cell3] at hj; subst hj; simp
    | 2, hj => simp [cell3] at hj; subst hj; simp
  · intro y hy
    simp only [cell3, List.mem_cons, List.not_mem_nil, or_false] at hy
    rcases hy with rfl | rfl | rfl <;> rfl
  · intro v' w' h1 h2 _
    refine h v' w' ?_ h2
    unfold OwnK
    rw [tkCells_app, List.length_append]
    exact h1
set_option maxRecDepth 20000 in
theorem specDig (c : UInt8) (w : World) : Calls Tryz.prog 23 #[.int .u8 (c.toNat : Int)] w fun e w' => e = .returned (.bool (Rf.digK c)) ∧ w = w' := by
  have h8 : c.toNat < 256 := UInt8.toNat_lt _
  unfold Rf.digK
  by_cases h1 : 48 ≤ c.toNat
  · by_cases h2 : c.toNat ≤ 57
    all_goals
      go_enter Tryz.func23, Tryz.ntmps23
      go_wp2
      go_ret
      exact ⟨by simp [h1, h2]; omega, rfl⟩
  · go_enter Tryz.func23, Tryz.ntmps23
    go_wp2
    go_ret
    exact ⟨by simp, rfl⟩
set_option maxRecDepth 20000 in
theorem specLowR (c : UInt8) (w : World) : Calls Tryz.prog 22 #[.int .u8 (c.toNat : Int)] w fun e w' => e = .returned (.bool (Rf.lowK c)) ∧ w = w' := by
  refine (specLow c w).mono ?_
  rintro e w' ⟨rfl, rfl⟩
  exact ⟨rfl, rfl⟩
set_option maxRecDepth 20000 in
theorem byte_all (p : UInt8 → Bool) (h : ∀ k : Fin 256, p (UInt8.ofFin k) = true) (c : UInt8) : p c = true := by
  have := h c.toFin
  simpa using this
set_option maxRecDepth 20000 in
theorem sign_ix (c : UInt8) : decide (0 ≤ ixFrom [123, 125, 40, 41, 91, 93, 44, 59] c 0) = Rf.isSign c :=
  of_decide_eq_true (byte_all (fun c => decide (decide (0 ≤ ixFrom [123, 125, 40, 41, 91, 93, 44, 59] c 0) = Rf.isSign c)) (by decide +kernel) c)
set_option maxRecDepth 20000 in
theorem specSgn (c : UInt8) (w : World) : Calls Tryz.prog 24 #[.string ⟨#[123, 125, 40, 41, 91, 93, 44, 59]⟩, .string ⟨#[c]⟩, .int .i64 0] w fun e w' => ∃ z : Int, e = .returned (.int .i64 z) ∧ Hid (decide (0 ≤ z) = Rf.isSign c) ∧ w = w' := by
  refine (specIndex1 _ c w (by show 8 ≤ 1100000; omega)).mono ?_
  rintro e w' ⟨rfl, rfl⟩
  exact ⟨_, rfl, sign_ix c, rfl⟩
end Go.Proofs.YtlphojaeaogehaaGreatDoor
namespace Go.Proofs.YtlphojaeaogehaaGreatDoor
open Go.RowKit Go.Lib Go.Maps
/-- The reader in block g: its tokens, its place, whether it has failed, whether a list was too long, its nodes. -/
structure Rs (g : Nat) (tv : Value) (TE : List TkE) (i : Nat) (bad many : Bool) (v : Value) (E : List NdE) (w : World) : Prop where
  blk : w.heap[g]? = some (.cells #[tv, .int .i64 (i : Int), .bool bad, .bool many, v] 33 (0, 0))
  tks : OwnK 0 tv TE w
  nt : Nt (g + 1) v E w
set_option maxRecDepth 20000 in
theorem five {w : World} {b : Nat} {x0 x1 x2 x3 x4 : Value} {t : TypeId} {z : Nat × Nat} (h : w.heap[b]? = some (.cells #[x0, x1, x2, x3, x4] t z)) :
    w.cell? ⟨b, 0, none⟩ = some x0 ∧ w.cell? ⟨b, 1, none⟩ = some x1 ∧ w.cell? ⟨b, 2, none⟩ = some x2 ∧ w.cell? ⟨b, 3, none⟩ = some x3 ∧ w.cell? ⟨b, 4, none⟩ = some x4 := by
  refine ⟨?_, ?_, ?_, ?_, ?_⟩ <;> simp [World.cell?, h]
set_option maxRecDepth 20000 in
theorem Rs.below {g : Nat} {tv : Value} {TE : List TkE} {i : Nat} {bad many : Bool} {v : Value} {E : List NdE} {w w' : World} (h : Rs g tv TE i bad many v E w) (hb : Below w.heap.size w w') : Rs g tv TE i bad many v E w' :=
  ⟨(hb.block g (heap_ltM h.blk)).trans h.blk, h.tks.below hb, h.nt.below hb⟩
set_option maxRecDepth 20000 in
theorem tk_far {g : Nat} {tv : Value} {TE : List TkE} {cs : Array Value} {w : World} (hb : w.heap[g]? = some (.cells cs 33 (0, 0))) (h : OwnK 0 tv TE w) : tv.ownBlock = none ∨ tv.ownBlock ≠ some g := by
  rcases h.2 with ⟨rfl, -⟩ | ⟨q, cap, cur, rfl, -, hq, -⟩
  · exact .inl rfl
  · right
    intro e
    simp only [Value.ownBlock, Option.some.injEq] at e
    rw [e, hb] at hq
    simp only [Option.some.injEq, Obj.cells.injEq] at hq
    exact absurd hq.2.1 (by decide)
set_option maxRecDepth 20000 in
/-- A cell of the reader's own is written. -/
theorem Rs.set {g : Nat} {tv : Value} {TE : List TkE} {i : Nat} {bad many : Bool} {v : Value} {E : List NdE} {w : World} (h : Rs g tv TE i bad many v E w) (j : Nat) (u : Value) (i' : Nat) (bad' many' : Bool)
    (hc : #[tv, .int .i64 (i : Int), .bool bad, .bool many, v].setIfInBounds j u = #[tv, .int .i64 (i' : Int), .bool bad', .bool many', v]) : Rs g tv TE i' bad' many' v E (w.setCell ⟨g, j, none⟩ u) :=
  ⟨by simp [World.setCell, Array.getElem?_modify, h.blk]; have := congrArg Array.toList hc; simpa using this, World.ownsRow.kept h.tks (grG_set w g j u) (tk_far h.blk h.tks), h.nt.set (by omega)⟩
set_option maxRecDepth 20000 in
theorem Ef.set (g : Nat) (r : Option Nat) (w : World) (j : Nat) (u : Value) : Ef g r w (w.setCell ⟨g, j, none⟩ u) :=
  ⟨rfl, rfl, rfl, by simp [World.setCell], fun k hk hg _ => (grG_set w g j u).block k hk (by simp; omega)⟩
set_option maxRecDepth 20000 in
theorem Ef.refl2 (g : Nat) (r : Option Nat) (w : World) : Ef g r w w := ⟨rfl, rfl, rfl, Nat.le_refl _, fun _ _ _ _ => rfl⟩
/-- Whether the token that is looked at is this one. -/
def isE (TE : List TkE) (i : Nat) (k : Nat) (t : ByteArray) : Bool := (TE[i]?.map fun e => e.1 == k && e.2.1.toList == t.toList).getD false
set_option maxRecDepth 20000 in
set_option maxHeartbeats 4000000 in
theorem specIs (g : Nat) (tv : Value) (TE : List TkE) (i : Nat) (bad many : Bool) (v : Value) (E : List NdE) (w : World) (k : Nat) (t : ByteArray) (h : Rs g tv TE i bad many v E w) (hi : i < TE.length) :
    Calls Tryz.prog 46 #[.pointer (some ⟨g, 0, none⟩), .int .u8 (k : Int), .string t] w fun e w' => e = .returned (.bool (!bad && isE TE i k t)) ∧ Below w.heap.size w w' := by
  obtain ⟨c0, c1, c2, c3, c4⟩ := five h.blk
  obtain ⟨o, cap, rfl⟩ := h.tks.shape
  obtain ⟨q, rfl, -, -, e0, e1, e2⟩ := h.tks.at i hi
  have hE : isE TE i k t = (TE[i].1 == k && TE[i].2.1.toList == t.toList) := by unfold isE; rw [List.getElem?_eq_getElem hi]; rfl
  rw [hE]
  generalize TE[i].1 = k1 at *
  generalize TE[i].2.1 = t1 at *
  clear h hE
  have hii : (i : Int) < (TE.length : Int) := by omega
  cases bad
  · cases hk : ((k1 : Int) == (k : Int))
    · have hk2 : (k1 == k) = false := by
        rw [beq_eq_false_iff_ne] at hk ⊢
        exact fun e => hk (by rw [e])
      rw [hk2]
      go_enter Tryz.func46, Tryz.ntmps46
      go_wp2
      go_quiet (fail)
      go_wp2
      go_ret
      exact ⟨rfl, below_drewN (Below.refl _ _) _⟩
    · have hk2 : (k1 == k) = true := by
        rw [beq_iff_eq] at hk ⊢
        omega
      rw [hk2]
      cases hq : (t1.toList == t.toList)
      all_goals
        go_enter Tryz.func46, Tryz.ntmps46
        go_wp2
        go_quiet (fail)
        go_wp2
        go_ret
        exact ⟨rfl, below_drewN (Below.refl _ _) _⟩
  · go_enter Tryz.func46, Tryz.ntmps46
    go_wp2
    go_quiet (fail)
    go_wp2
    go_ret
    exact ⟨rfl, below_drewN (Below.refl _ _) _⟩
end Go.Proofs.YtlphojaeaogehaaGreatDoor
