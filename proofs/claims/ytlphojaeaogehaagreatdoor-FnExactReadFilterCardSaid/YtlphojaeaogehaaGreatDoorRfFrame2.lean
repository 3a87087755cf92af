
/- The specification's reader of a script: a node that is being read. -/

/- The specification's reader of a script: what is written into a node that is being read; its end. -/
import Derived.Test.YtlphojaeaogehaaGreatDoorRfPut
namespace Go.Proofs.YtlphojaeaogehaaGreatDoor
open Go.RowKit Go.Lib Go.Maps
set_option maxRecDepth 20000 in
theorem opAppKd {w : World} {o : Oper} {a : Act} {K : Act → World → Prop} {Q : Exit → Act → World → Prop} (s x : Operand)
    (ho : o.op = .call { callee := .builtin .append, args := #[s, x], argTypes := #[35, 35] })
    (B : Nat) (v : Value) (C : List Int) (hs : a.eval s = v) (hown : OwnN B v C w) (u : Int) (g c : Nat) (hx : a.eval x = .slice (some ⟨g, 0, none⟩) 1 c)
    (hnew : w.cell? ⟨g, 0, none⟩ = some (.int .i64 u)) (hlen : C.length ≤ 1000000) (hB : B ≤ w.heap.size)
    (h : ∀ v' w', OwnN B v' (C ++ [u]) w' → w.grownBy w' v.ownBlock → Nw w v v' → K (a.put o.dst v') w') : o.wp Tryz.prog a w K Q := by
  obtain ⟨i0, hi0, hz0, hz1, hz2⟩ := info_parts Tryz.info2
  unfold OwnN at hown
  obtain ⟨v', w', hr, h2, h3, h4, h5⟩ := run_append_own_at (P := Tryz.prog) w B 35 o.type 2 i0 _ 1 _ Tryz.underlying35 hi0 hz0 hz1 hz2 rfl (by decide) v C.length (numCells C) hown ⟨g, 0, none⟩ 1 c [.int .i64 u] rfl (by
    intro j y hj
    rw [add_off]
    match j, hj with
    | 0, hj => simp at hj; subst hj; exact hnew) (by intro y hy; simp at hy; subst hy; rfl) (by unfold maxLen; omega) (by omega) hB
  unfold Oper.wp execOp
  simp only [ho, resolve, invoke, builtin, Sem.run_bind, Sem.run_pure, Result.andThen_ok, List.map_toArray, List.map_cons, List.map_nil, hs, hx, hr]
  refine h v' w' ?_ h3 ?_
  · unfold OwnN numCells
    rw [List.map_append, List.length_append]
    exact h2
  · rcases h5 with e | e
    · exact .inl e
    · exact .inr ⟨_, Nat.le_refl _, e⟩
abbrev sevC (n : Nd) (vn vk vd : Value) : Array Value := #[.int .i64 n.kind, .int .i64 n.num, .int .i64 n.mat, .string n.text, vn, vk, vd]
set_option maxRecDepth 20000 in
theorem own_ne_blk {w : World} {B s m b : Nat} {e t : TypeId} {v : Value} {xs : List Value} {cs : Array Value} {z : Nat × Nat} (h : w.ownsRow B e s v m xs) (hb : w.heap[b]? = some (.cells cs t z)) (ht : e ≠ t) : v.ownBlock = none ∨ v.ownBlock ≠ some b := by
  rcases h.2 with ⟨rfl, -⟩ | ⟨g, cap, cur, rfl, -, hg, -⟩
  · exact .inl rfl
  · right
    intro e1
    simp only [Value.ownBlock, Option.some.injEq] at e1
    rw [e1, hb] at hg
    simp only [Option.some.injEq, Obj.cells.injEq] at hg
    exact ht hg.2.1.symm
set_option maxRecDepth 20000 in
theorem own_none {w : World} {B s m : Nat} {e : TypeId} {v : Value} {xs : List Value} (h : w.ownsRow B e s v m xs) (hv : v.ownBlock = none) : m = 0 := by
  rcases h.2 with ⟨-, h0⟩ | ⟨g, cap, cur, rfl, -⟩
  · exact h0
  · cases hv
set_option maxRecDepth 20000 in
theorem Rs.grown {g : Nat} {tv : Value} {TE : List TkE} {i : Nat} {bad many : Bool} {v : Value} {E : List NdE} {w w' : World} {r : Option Nat} (h : Rs g tv TE i bad many v E w) (hg : w.grownBy w' r) (hr : some g ≠ r) (ht : tv.ownBlock = none ∨ tv.ownBlock ≠ r) (h0 : v.ownBlock = none ∨ v.ownBlock ≠ r)
    (h1 : ∀ s ∈ slots E, s.2 = [] ∨ s.1.ownBlock = none ∨ s.1.ownBlock ≠ r) (h2 : ∀ s ∈ kslots E, s.2 = [] ∨ s.1.ownBlock = none ∨ s.1.ownBlock ≠ r) : Rs g tv TE i bad many v E w' :=
  ⟨(hg.block g (heap_ltM h.blk) hr).trans h.blk, World.ownsRow.kept h.tks hg ht, h.nt.grown hg h0 h1 h2⟩
/-- What a call that reads a node comes to. -/
structure RdP (g : Nat) (tv : Value) (T : List Rf.Tk) (TE : List TkE) (c : Nat) (P : Nat → List Nd → Rf.Out) (i : Nat) (bad many : Bool) (v : Value) (E : List NdE) (w : World) (z : Int) (A : List NdE) (i' : Nat) (bad' many' : Bool) (v' : Value) (w' : World) : Prop where
  rs : Rs g tv TE i' bad' many' v' (E ++ A) w'
  ef : Ef g v.ownBlock w w'
  nw : Nw w v v'
  fr : ∀ s ∈ slots A, s.2 = [] ∨ ∀ k, s.1.ownBlock = some k → w.heap.size ≤ k
  frN : ∀ s ∈ kslots A, s.2 = [] ∨ ∀ k, s.1.ownBlock = some k → w.heap.size ≤ k
  lt : i' < T.length
  le : i ≤ i'
  adv : bad' = false → i < i'
  cnt : A.length + 3 * i ≤ 3 * i' + c
  cnt0 : bad' = false → A.length + 3 * i + 1 ≤ 3 * i'
  out : if bad = true then bad' = true ∧ i' = i else match P i (E.map (·.1)) with
    | .ok j N => bad' = false ∧ i' = j ∧ N = (E ++ A).map (·.1) ∧ z = Rf.last N ∧ many' = (many || A.any fun e => decide (100 < e.1.names.length) || decide (100 < e.1.keys.length))
    | .bad j => bad' = true ∧ i' = j
/-- The contract of a reader of nodes, for the last f tokens. -/
def RdC (fn : Nat) (g : Nat) (tv : Value) (T : List Rf.Tk) (TE : List TkE) (c f : Nat) (P : Nat → List Nd → Rf.Out) : Prop :=
  ∀ (i : Nat) (bad many : Bool) (v : Value) (E : List NdE) (w : World), Rs g tv TE i bad many v E w → i < T.length → T.length ≤ i + f → E.length ≤ 3 * i + 5 →
    Calls Tryz.prog fn #[.pointer (some ⟨g, 0, none⟩)] w fun e w' => ∃ z A i' bad' many' v', e = .returned (.int .i64 z) ∧ RdP g tv T TE c P i bad many v E w z A i' bad' many' v' w'
/-- A node that is being read: it lies in block b. -/
structure Fm (g : Nat) (tv : Value) (TE : List TkE) (v : Value) (E : List NdE) (w : World) (b : Nat) (n : Nd) (vn vk vd : Value) (i : Nat) (bad many : Bool) (v' : Value) (A : List NdE) (wr : World) : Prop where
  rs : Rs g tv TE i bad many v' (E ++ A) wr
  ef : Ef g v.ownBlock w wr
  nw : Nw w v v'
  fr : ∀ s ∈ slots A, s.2 = [] ∨ ∀ k, s.1.ownBlock = some k → w.heap.size ≤ k
  frN : ∀ s ∈ kslots A, s.2 = [] ∨ ∀ k, s.1.ownBlock = some k → w.heap.size ≤ k
  blk : wr.heap[b]? = some (.cells (sevC n vn vk vd) 37 (0, 0))
  hb : w.heap.size ≤ b
  hg : g < w.heap.size
  hvb : v'.ownBlock ≠ some b
  on : OwnX w.heap.size vn n.names wr
  ok : OwnX w.heap.size vk n.keys wr
  od : OwnN w.heap.size vd n.kids wr
  fnk : vn.ownBlock = none ∨ vn.ownBlock ≠ vk.ownBlock
  fn : ∀ s ∈ slots (E ++ A), s.2 = [] ∨ s.1.ownBlock = none ∨ s.1.ownBlock ≠ vn.ownBlock
  fk : ∀ s ∈ slots (E ++ A), s.2 = [] ∨ s.1.ownBlock = none ∨ s.1.ownBlock ≠ vk.ownBlock
  fd : ∀ s ∈ kslots (E ++ A), s.2 = [] ∨ s.1.ownBlock = none ∨ s.1.ownBlock ≠ vd.ownBlock
section
variable {g : Nat} {tv : Value} {T : List Rf.Tk} {TE : List TkE} {v v' : Value} {E A : List NdE} {w wr : World} {b : Nat} {n : Nd} {vn vk vd : Value} {i : Nat} {bad many : Bool}
set_option maxRecDepth 20000 in
theorem Fm.start {w1 : World} (hg : g < w.heap.size) (h1 : Rs g tv TE i bad many v E w1) (e1 : Ef g none w w1) (k : Int) : Fm g tv TE v E w w1.heap.size (Rf.zn k) (.slice none 0 0) (.slice none 0 0) (.slice none 0 0) i bad many v [] (w1.alloc (.cells (sevC (Rf.zn k) (.slice none 0 0) (.slice none 0 0) (.slice none 0 0)) 37)) := by
  have hb : Below w1.heap.size w1 (w1.alloc (.cells (sevC (Rf.zn k) (.slice none 0 0) (.slice none 0 0) (.slice none 0 0)) 37)) := (Below.refl _ _).alloc (Nat.le_refl _) _
  have e2 : Ef g v.ownBlock w w1 := ⟨e1.os, e1.tape, e1.output, e1.size, fun k hk hg _ => e1.keep k hk hg (by simp)⟩
  refine ⟨by rw [List.append_nil]; exact h1.below hb, e2.then_below hb, .inl rfl, fun _ h => (List.not_mem_nil h).elim, fun _ h => (List.not_mem_nil h).elim, heap_alloc_at _ _, e1.size, hg, ?_, OwnX.nil _ _, OwnX.nil _ _, World.ownsRow_nil _ _ 2 1, .inl rfl, ?_, ?_, ?_⟩
  · intro e
    have := (World.ownsRow.lt h1.nt.row _ e).2
    omega
  all_goals
    intro s _
    right
    cases s.1.ownBlock
    · exact .inl rfl
    · exact .inr (by simp [Value.ownBlock])
set_option maxRecDepth 20000 in
/-- A call that writes the reader's block only. -/
theorem Fm.small {i' : Nat} {bad' many' : Bool} {w1 : World} (h : Fm g tv TE v E w b n vn vk vd i bad many v' A wr) (h1 : Rs g tv TE i' bad' many' v' (E ++ A) w1) (e1 : Ef g none wr w1) : Fm g tv TE v E w b n vn vk vd i' bad' many' v' A w1 := by
  have key : ∀ k, w.heap.size ≤ k → k < wr.heap.size → w1.heap[k]? = wr.heap[k]? := fun k h1 h2 => e1.keep k h2 (by have := h.hg; omega) (by simp)
  have ef2 : Ef g v.ownBlock w w1 := ⟨e1.os.trans h.ef.os, e1.tape.trans h.ef.tape, e1.output.trans h.ef.output, Nat.le_trans h.ef.size e1.size, fun k hk hg hr => (e1.keep k (Nat.lt_of_lt_of_le hk h.ef.size) hg (by simp)).trans (h.ef.keep k hk hg hr)⟩
  exact ⟨h1, ef2, h.nw, h.fr, h.frN, (key b h.hb (heap_ltM h.blk)).trans h.blk, h.hb, h.hg, h.hvb, own_keep1 h.on fun k hk => key k (World.ownsRow.lt h.on k hk).1 (World.ownsRow.lt h.on k hk).2, own_keep1 h.ok fun k hk => key k (World.ownsRow.lt h.ok k hk).1 (World.ownsRow.lt h.ok k hk).2, own_keep1 h.od fun k hk => key k (World.ownsRow.lt h.od k hk).1 (World.ownsRow.lt h.od k hk).2, h.fnk, h.fn, h.fk, h.fd⟩
set_option maxRecDepth 20000 in
theorem slots_mem {E A : List NdE} {s : Sl} (h : s ∈ slots (E ++ A)) : s ∈ slots E ∨ s ∈ slots A := by
  unfold slots at h
  rw [List.flatMap_append] at h
  exact List.mem_append.1 h
set_option maxRecDepth 20000 in
theorem kslots_mem {E A : List NdE} {s : Sn} (h : s ∈ kslots (E ++ A)) : s ∈ kslots E ∨ s ∈ kslots A := by
  unfold kslots at h
  rw [List.map_append] at h
  exact List.mem_append.1 h
set_option maxRecDepth 20000 in
/-- A call that reads nodes. -/
theorem Fm.call {c : Nat} {P : Nat → List Nd → Rf.Out} {z : Int} {A1 : List NdE} {i' : Nat} {bad' many' : Bool} {v1 : Value} {w1 : World} (h : Fm g tv TE v E w b n vn vk vd i bad many v' A wr) (p : RdP g tv T TE c P i bad many v' (E ++ A) wr z A1 i' bad' many' v1 w1) : Fm g tv TE v E w b n vn vk vd i' bad' many' v1 (A ++ A1) w1 := by
  have hs := h.ef.size
  have key : ∀ k, w.heap.size ≤ k → k < wr.heap.size → some k ≠ v'.ownBlock → w1.heap[k]? = wr.heap[k]? := fun k h1 h2 h3 => p.ef.keep k h2 (by have := h.hg; omega) h3
  have k2 : ∀ {B e s m : Nat} {x : Value} {xs : List Value}, wr.ownsRow B e s x m xs → e ≠ 37 → w.heap.size ≤ B → ∀ k, x.ownBlock = some k → w1.heap[k]? = wr.heap[k]? := by
    intro B e s m x xs ho he hB k hk
    have hl := World.ownsRow.lt ho k hk
    refine key k (by omega) hl.2 ?_
    rcases own_apart9 ho h.rs.nt.row he with e | e
    · rw [e] at hk; cases hk
    · rw [← hk]; exact e
  have app : (E ++ A) ++ A1 = E ++ (A ++ A1) := List.append_assoc _ _ _
  have hbl := heap_ltM h.blk
  refine ⟨app ▸ p.rs, h.ef.trans h.nw p.ef, h.nw.trans hs p.nw, ?_, ?_, (key b h.hb hbl (fun e => h.hvb e.symm)).trans h.blk, h.hb, h.hg, ?_, own_keep1 h.on (k2 h.on (by decide) (Nat.le_refl _)), own_keep1 h.ok (k2 h.ok (by decide) (Nat.le_refl _)), own_keep1 h.od (k2 h.od (by decide) (Nat.le_refl _)), h.fnk, ?_, ?_, ?_⟩
  · intro s hs'
    rcases slots_mem hs' with h1 | h1
    · exact h.fr s h1
    · exact (p.fr s h1).imp id fun h2 k hk => Nat.le_trans hs (h2 k hk)
  · intro s hs'
    rcases kslots_mem hs' with h1 | h1
    · exact h.frN s h1
    · exact (p.frN s h1).imp id fun h2 k hk => Nat.le_trans hs (h2 k hk)
  · rcases p.nw with e | ⟨k, hk, e⟩
    · rw [e]; exact h.hvb
    · rw [e]; intro e2; cases e2; omega
  all_goals
    intro s hs'
    rw [← app] at hs'
  · rcases slots_mem hs' with h1 | h1
    · exact h.fn s h1
    · refine (p.fr s h1).imp id fun h2 => ?_
      cases ho : s.1.ownBlock with
      | none => exact .inl rfl
      | some k => exact .inr (fun e => by have := (World.ownsRow.lt h.on k e.symm).2; have := h2 k ho; omega)
  · rcases slots_mem hs' with h1 | h1
    · exact h.fk s h1
    · refine (p.fr s h1).imp id fun h2 => ?_
      cases ho : s.1.ownBlock with
      | none => exact .inl rfl
      | some k => exact .inr (fun e => by have := (World.ownsRow.lt h.ok k e.symm).2; have := h2 k ho; omega)
  · rcases kslots_mem hs' with h1 | h1
    · exact h.fd s h1
    · refine (p.frN s h1).imp id fun h2 => ?_
      cases ho : s.1.ownBlock with
      | none => exact .inl rfl
      | some k => exact .inr (fun e => by have := (World.ownsRow.lt h.od k e.symm).2; have := h2 k ho; omega)
end
end Go.Proofs.YtlphojaeaogehaaGreatDoor
namespace Go.Proofs.YtlphojaeaogehaaGreatDoor
open Go.RowKit Go.Lib Go.Maps
section
variable {g : Nat} {tv : Value} {T : List Rf.Tk} {TE : List TkE} {v v' : Value} {E A : List NdE} {w wr : World} {b : Nat} {n : Nd} {vn vk vd : Value} {i : Nat} {bad many : Bool}
set_option maxRecDepth 20000 in
theorem own_base {B B' s m : Nat} {e : TypeId} {x : Value} {xs : List Value} {w : World} (h : w.ownsRow B e s x m xs) (hB : B' ≤ B) : w.ownsRow B' e s x m xs := by
  refine ⟨h.1, ?_⟩
  rcases h.2 with h0 | ⟨g, cap, cur, rfl, hb, hr⟩
  · exact .inl h0
  · exact .inr ⟨g, cap, cur, rfl, Nat.le_trans hB hb, hr⟩
set_option maxRecDepth 20000 in
/-- The reader's own rows are not the node's block. -/
theorem Rs.blkset {w : World} {v : Value} {E : List NdE} {cs : Array Value} (h : Rs g tv TE i bad many v E w) (hb : w.heap[b]? = some (.cells cs 37 (0, 0))) (hgb : g ≠ b) (hvb : v.ownBlock ≠ some b) (j : Nat) (u : Value) : Rs g tv TE i bad many v E (w.setCell ⟨b, j, none⟩ u) := by
  refine h.grown (grG_set w b j u) (by simpa using hgb) (own_ne_blk h.tks hb (by decide)) (.inr hvb) (fun s hs => ?_) (fun s hs => ?_)
  · by_cases hn : s.2 = []
    · exact .inl hn
    · exact .inr (own_ne_blk ((h.nt.own s hs).2 hn) hb (by decide))
  · by_cases hn : s.2 = []
    · exact .inl hn
    · exact .inr (own_ne_blk ((h.nt.ownN s hs).2 hn) hb (by decide))
set_option maxRecDepth 20000 in
theorem Ef.blkset {r : Option Nat} {w0 w : World} (h : Ef g r w0 w) (hb : w0.heap.size ≤ b) (j : Nat) (u : Value) : Ef g r w0 (w.setCell ⟨b, j, none⟩ u) :=
  ⟨h.os, h.tape, h.output, by have := h.size; simpa using this, fun k hk hg hr => ((grG_set w b j u).block k (Nat.lt_of_lt_of_le hk h.size) (by simp; omega)).trans (h.keep k hk hg hr)⟩
set_option maxRecDepth 20000 in
/-- A field of the node is written. -/
theorem Fm.poke (h : Fm g tv TE v E w b n vn vk vd i bad many v' A wr) (j : Nat) (u : Value) (n' : Nd) (vn' vk' vd' : Value) (hc : (sevC n vn vk vd).setIfInBounds j u = sevC n' vn' vk' vd')
    (on : OwnX w.heap.size vn' n'.names wr) (ok : OwnX w.heap.size vk' n'.keys wr) (od : OwnN w.heap.size vd' n'.kids wr) (fnk : vn'.ownBlock = none ∨ vn'.ownBlock ≠ vk'.ownBlock)
    (fn : ∀ s ∈ slots (E ++ A), s.2 = [] ∨ s.1.ownBlock = none ∨ s.1.ownBlock ≠ vn'.ownBlock) (fk : ∀ s ∈ slots (E ++ A), s.2 = [] ∨ s.1.ownBlock = none ∨ s.1.ownBlock ≠ vk'.ownBlock) (fd : ∀ s ∈ kslots (E ++ A), s.2 = [] ∨ s.1.ownBlock = none ∨ s.1.ownBlock ≠ vd'.ownBlock) :
    Fm g tv TE v E w b n' vn' vk' vd' i bad many v' A (wr.setCell ⟨b, j, none⟩ u) := by
  have hgb : g ≠ b := by have := h.hg; have := h.hb; omega
  exact ⟨h.rs.blkset h.blk hgb h.hvb j u, h.ef.blkset h.hb j u, h.nw, h.fr, h.frN, by rw [← hc]; simp [World.setCell, Array.getElem?_modify, h.blk], h.hb, h.hg, h.hvb,
    World.ownsRow.kept on (grG_set wr b j u) (own_ne_blk on h.blk (by decide)), World.ownsRow.kept ok (grG_set wr b j u) (own_ne_blk ok h.blk (by decide)), World.ownsRow.kept od (grG_set wr b j u) (own_ne_blk od h.blk (by decide)), fnk, fn, fk, fd⟩
set_option maxRecDepth 20000 in
/-- Fields without lists. -/
theorem Fm.pokeS (h : Fm g tv TE v E w b n vn vk vd i bad many v' A wr) (j : Nat) (u : Value) (n' : Nd) (hc : (sevC n vn vk vd).setIfInBounds j u = sevC n' vn vk vd) (h1 : n'.names = n.names) (h2 : n'.keys = n.keys) (h3 : n'.kids = n.kids) :
    Fm g tv TE v E w b n' vn vk vd i bad many v' A (wr.setCell ⟨b, j, none⟩ u) :=
  h.poke j u n' vn vk vd hc (by rw [h1]; exact h.on) (by rw [h2]; exact h.ok) (by rw [h3]; exact h.od) h.fnk h.fn h.fk h.fd
set_option maxRecDepth 20000 in
theorem slot_lt {w : World} {v : Value} {E : List NdE} {B : Nat} (h : Nt B v E w) (s : Sl) (hs : s ∈ slots E) (hn : s.2 ≠ []) (k : Nat) (hk : s.1.ownBlock = some k) : k < w.heap.size := (World.ownsRow.lt ((h.own s hs).2 hn) k hk).2
set_option maxRecDepth 20000 in
theorem kslot_lt {w : World} {v : Value} {E : List NdE} {B : Nat} (h : Nt B v E w) (s : Sn) (hs : s ∈ kslots E) (hn : s.2 ≠ []) (k : Nat) (hk : s.1.ownBlock = some k) : k < w.heap.size := (World.ownsRow.lt ((h.ownN s hs).2 hn) k hk).2
set_option maxRecDepth 20000 in
/-- One kid more. -/
theorem Fm.kid {obj : Obj} {w2 : World} {vd' : Value} {z : Int} (h : Fm g tv TE v E w b n vn vk vd i bad many v' A wr) (ho : OwnN w.heap.size vd' (n.kids ++ [z]) w2) (hg2 : (wr.alloc obj).grownBy w2 vd.ownBlock) (hnw : Nw (wr.alloc obj) vd vd') :
    w2.cell? ⟨b, 6, none⟩ = some vd ∧ w2.frozen? ⟨b, 6, none⟩ = false ∧ Fm g tv TE v E w b { n with kids := n.kids ++ [z] } vn vk vd' i bad many v' A (w2.setCell ⟨b, 6, none⟩ vd') := by
  have hgb : g ≠ b := by have := h.hg; have := h.hb; omega
  have hW : Below wr.heap.size wr (wr.alloc obj) := (Below.refl _ _).alloc (Nat.le_refl _) _
  have hWs : (wr.alloc obj).heap.size = wr.heap.size + 1 := by simp
  have rW := h.rs.below hW
  have onW := h.on.below hW
  have okW := h.ok.below hW
  have odW : OwnN w.heap.size vd n.kids (wr.alloc obj) := h.od.below hW
  have blW := (hW.block b (heap_ltM h.blk)).trans h.blk
  have ne2 : ∀ {B e s m : Nat} {x : Value} {xs : List Value}, (wr.alloc obj).ownsRow B e s x m xs → e ≠ 2 → x.ownBlock = none ∨ x.ownBlock ≠ vd.ownBlock := fun ho he => own_apart9 ho odW he
  have hbv : some b ≠ vd.ownBlock := by
    intro e
    rcases own_ne_blk odW blW (by decide) with e2 | e2
    · rw [e2] at e; cases e
    · exact e2 e.symm
  have r2 : Rs g tv TE i bad many v' (E ++ A) w2 := by
    refine rW.grown hg2 (fun e => ?_) (ne2 rW.tks (by decide)) (ne2 rW.nt.row (by decide)) (fun s hs => ?_) h.fd
    · have := (World.ownsRow.lt h.od g e.symm).1
      have := h.hg
      omega
    · by_cases hn : s.2 = []
      · exact .inl hn
      · exact .inr (ne2 ((rW.nt.own s hs).2 hn) (by decide))
  have bl2 := (hg2.block b (heap_ltM blW) hbv).trans blW
  have hs2 := hg2.size
  have hes := h.ef.size
  have ef2 : Ef g v.ownBlock w w2 := ⟨hg2.os.trans h.ef.os, hg2.tape.trans h.ef.tape, hg2.output.trans h.ef.output, by omega, fun k hk hg hr => ((hg2.block k (by omega) (fun e => by have := (World.ownsRow.lt h.od k e.symm).1; omega)).trans (hW.block k (by omega))).trans (h.ef.keep k hk hg hr)⟩
  have on2 : OwnX w.heap.size vn n.names w2 := World.ownsRow.kept onW hg2 (ne2 onW (by decide))
  have ok2 : OwnX w.heap.size vk n.keys w2 := World.ownsRow.kept okW hg2 (ne2 okW (by decide))
  refine ⟨by simp [World.cell?, bl2], by simp [World.frozen?, bl2], ?_⟩
  refine ⟨r2.blkset bl2 hgb h.hvb 6 vd', ef2.blkset h.hb 6 vd', h.nw, h.fr, h.frN, by simp [World.setCell, Array.getElem?_modify, bl2], h.hb, h.hg, h.hvb,
    World.ownsRow.kept on2 (grG_set w2 b 6 vd') (own_ne_blk on2 bl2 (by decide)), World.ownsRow.kept ok2 (grG_set w2 b 6 vd') (own_ne_blk ok2 bl2 (by decide)), World.ownsRow.kept ho (grG_set w2 b 6 vd') (own_ne_blk ho bl2 (by decide)), h.fnk, h.fn, h.fk, ?_⟩
  intro s hs
  rcases hnw with e | ⟨k, hk, e⟩
  · rw [e]; exact h.fd s hs
  · by_cases hn : s.2 = []
    · exact .inl hn
    · right
      rw [e]
      cases ho : s.1.ownBlock with
      | none => exact .inl rfl
      | some q => exact .inr (fun e2 => by cases e2; have := kslot_lt h.rs.nt s hs hn k ho; omega)
set_option maxRecDepth 20000 in
/-- The node is put behind the others. -/
theorem Fm.put (h : Fm g tv TE v E w b n vn vk vd i bad many v' A wr) (hlen : (E ++ A).length ≤ 100000) :
    Calls Tryz.prog 11 #[.pointer (some ⟨g, 0, none⟩), ndV n vn vk vd] wr fun e w' => e = .returned (.int .i64 ((E ++ A).length : Int)) ∧ ∃ v2, Rs g tv TE i bad many v2 (E ++ (A ++ [(n, vn, vk, vd)])) w' ∧ Ef g v.ownBlock w w' ∧ Nw w v v2 ∧
      (∀ s ∈ slots (A ++ [(n, vn, vk, vd)]), s.2 = [] ∨ ∀ k, s.1.ownBlock = some k → w.heap.size ≤ k) ∧ (∀ s ∈ kslots (A ++ [(n, vn, vk, vd)]), s.2 = [] ∨ ∀ k, s.1.ownBlock = some k → w.heap.size ≤ k) := by
  have hB : g + 1 ≤ w.heap.size := h.hg
  have lsx : ∀ {x : Value} {l : List ByteArray}, OwnX w.heap.size x l wr → LsX (g + 1) wr (x, l) := fun ho => ⟨ho.shape, fun _ => own_base ho hB⟩
  have farx : ∀ {x : Value} {l : List ByteArray}, OwnX w.heap.size x l wr → (∀ s ∈ slots (E ++ A), s.2 = [] ∨ s.1.ownBlock = none ∨ s.1.ownBlock ≠ x.ownBlock) → ∀ s ∈ slots (E ++ A), FarX s (x, l) := by
    intro x l ho hf s hs
    rcases hf s hs with e | e | e
    · exact .inl e
    · by_cases hn : s.2 = []
      · exact .inl hn
      · have := own_none ((h.rs.nt.own s hs).2 hn) e
        exact absurd (List.eq_nil_of_length_eq_zero this) hn
    · exact .inr (.inr e)
  refine (specPutT g tv TE i bad many v' (E ++ A) n vn vk vd wr h.rs hlen (lsx h.on) (lsx h.ok) ⟨?_, fun _ => own_base h.od hB⟩ ?_ (fun s hs => ⟨farx h.on h.fn s hs, farx h.ok h.fk s hs⟩) ?_).mono ?_
  · rcases h.od.2 with ⟨e, h0⟩ | ⟨q, cap, cur, e, -⟩
    · exact ⟨none, 0, by show vd = .slice none n.kids.length 0; rw [e, h0]⟩
    · exact ⟨_, cap, e⟩
  · rcases h.fnk with e | e
    · exact .inl (List.eq_nil_of_length_eq_zero (own_none h.on e))
    · exact .inr (.inr e)
  · intro s hs
    rcases h.fd s hs with e | e | e
    · exact .inl e
    · by_cases hn : s.2 = []
      · exact .inl hn
      · have := own_none ((h.rs.nt.ownN s hs).2 hn) e
        exact absurd (List.eq_nil_of_length_eq_zero this) hn
    · exact .inr (.inr e)
  · rintro e w' ⟨rfl, v2, h2, e2, n2⟩
    refine ⟨rfl, v2, by rw [← List.append_assoc]; exact h2, h.ef.trans h.nw e2, h.nw.trans h.ef.size n2, ?_, ?_⟩
    · intro s hs
      rcases slots_mem hs with h1 | h1
      · exact h.fr s h1
      · simp only [slots, List.flatMap_cons, List.flatMap_nil, List.append_nil, List.mem_cons, List.not_mem_nil, or_false] at h1
        rcases h1 with rfl | rfl
        · exact .inr fun k hk => (World.ownsRow.lt h.on k hk).1
        · exact .inr fun k hk => (World.ownsRow.lt h.ok k hk).1
    · intro s hs
      rcases kslots_mem hs with h1 | h1
      · exact h.frN s h1
      · simp only [kslots, List.map_cons, List.map_nil, List.mem_cons, List.not_mem_nil, or_false] at h1
        subst h1
        exact .inr fun k hk => (World.ownsRow.lt h.od k hk).1
end
end Go.Proofs.YtlphojaeaogehaaGreatDoor
