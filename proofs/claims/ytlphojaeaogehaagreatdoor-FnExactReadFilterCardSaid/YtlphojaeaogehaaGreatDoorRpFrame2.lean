
/- The program's reader of a script: a node that is being read. -/

/- The program's reader of a script: one node more. (By tools/gen/rpadd.py.) -/

/- The program's reader of a script: a node that is being read: its block; it is put behind the others. -/
import Derived.Test.YtlphojaeaogehaaGreatDoorRpTexts
import Derived.Test.YtlphojaeaogehaaGreatDoorRfFrame2
import Derived.Test.YtlphojaeaogehaaGreatDoorRfCmd
namespace Go.Proofs.YtlphojaeaogehaaGreatDoor
open Go.RowKit Go.Lib Go.Maps
/-- The tables and the library's errors, which lie below the reader. -/
structure Gl (g : Nat) (w : World) : Prop where
  ft : FTab w
  mt : MTab w
  er : Er w
  hf : 1 < g
  hm : 2 < g
  hy : 3 < g
  hr : 4 < g
set_option maxRecDepth 20000 in
theorem Gl.ef {g : Nat} {r : Option Nat} {w w' : World} (h : Gl g w) (e : Ef g r w w') (hr : ∀ k, r = some k → g < k) : Gl g w' := by
  have key : ∀ k, k < g → k < w.heap.size → w'.heap[k]? = w.heap[k]? := fun k hk hl => e.keep k hl (by omega) (fun e => by have := hr k e.symm; omega)
  have kc : ∀ k x, k < g → w.cell? ⟨k, 0, none⟩ = some x → w'.cell? ⟨k, 0, none⟩ = some x := fun k x hk hx => (World.cell?_of_block (a := ⟨k, 0, none⟩) (key k hk (World.block_lt_of_cell? _ _ hx))).trans hx
  obtain ⟨a, a1, a2⟩ := h.er.syn
  obtain ⟨b, b1, b2⟩ := h.er.rng
  obtain ⟨t1, fr1, h1⟩ := h.ft
  obtain ⟨t2, fr2, h2⟩ := h.mt
  exact ⟨⟨t1, fr1, (key _ h.hf (heap_ltM h1)).trans h1⟩, ⟨t2, fr2, (key _ h.hm (heap_ltM h2)).trans h2⟩, ⟨⟨a, kc _ _ h.hy a1, a2⟩, ⟨b, kc _ _ h.hr b1, b2⟩⟩, h.hf, h.hm, h.hy, h.hr⟩
set_option maxRecDepth 20000 in
theorem Gl.below {g : Nat} {w w' : World} (h : Gl g w) (hb : Below w.heap.size w w') : Gl g w' := h.ef (Ef.of_below (r := none) hb) (fun _ e => by cases e)
set_option maxRecDepth 20000 in
theorem Nt.over {g : Nat} {v : Value} {E : List NdE} {w : World} (h : Nt (g + 1) v E w) : ∀ k, v.ownBlock = some k → g < k := fun k hk => (World.ownsRow.lt h.row k hk).1
/-- What a reading of nodes has added. -/
structure Pd (g : Nat) (s : ByteArray) (l : List UInt8) (T : List Rf.Tk) (n : Nat) (v : Value) (E : List NdE) (w : World) (j : Nat) (A : List NdE) (v' : Value) (w' : World) : Prop where
  ps : ∃ kd x a, Ps g s l T j kd x a v' (E ++ A) w'
  nw : Nw w v v'
  fr : ∀ s ∈ slots A, s.2 = [] ∨ ∀ k, s.1.ownBlock = some k → w.heap.size ≤ k
  frN : ∀ s ∈ kslots A, s.2 = [] ∨ ∀ k, s.1.ownBlock = some k → w.heap.size ≤ k
  cnt : A.length + 3 * n + 1 ≤ 3 * j
/-- What comes of a reading of nodes. -/
def PrO (g : Nat) (s : ByteArray) (l : List UInt8) (T : List Rf.Tk) (n : Nat) (v : Value) (E : List NdE) (w : World) (R : Rf.Out) (e : Ending) (w' : World) : Prop :=
  match R with
  | .ok j N => (∃ A v', e = .returned (.int .i64 (Rf.last N)) ∧ N = (E ++ A).map (·.1) ∧ Pd g s l T n v E w j A v' w') ∨ Xf T j e
  | .bad j => e = faultAt (Rf.pos T j)
/-- The contract of a reader of nodes, for the last f tokens. -/
def PrC (fn : Nat) (g : Nat) (s : ByteArray) (l : List UInt8) (T : List Rf.Tk) (f : Nat) (P : Nat → List Nd → Rf.Out) : Prop :=
  ∀ (n kd : Nat) (x : List UInt8) (a : Nat) (v : Value) (E : List NdE) (w : World), Ps g s l T n kd x a v E w → Gl g w → T.length ≤ n + f → E.length ≤ 3 * n + 5 →
    Calls Tryz.prog fn #[scp g] w fun e w' => Ef g v.ownBlock w w' ∧ PrO g s l T n v E w (P n (E.map (·.1))) e w'
/-- A node that is being read: its lists. -/
structure Pf (g : Nat) (s : ByteArray) (l : List UInt8) (T : List Rf.Tk) (v : Value) (E : List NdE) (w : World) (na ke : List ByteArray) (ks : List Int) (vn vk vd : Value) (n : Nat) (v' : Value) (A : List NdE) (wr : World) : Prop where
  ps : ∃ kd x a, Ps g s l T n kd x a v' (E ++ A) wr
  ef : Ef g v.ownBlock w wr
  nw : Nw w v v'
  fr : ∀ s ∈ slots A, s.2 = [] ∨ ∀ k, s.1.ownBlock = some k → w.heap.size ≤ k
  frN : ∀ s ∈ kslots A, s.2 = [] ∨ ∀ k, s.1.ownBlock = some k → w.heap.size ≤ k
  gl : Gl g wr
  hg : g < w.heap.size
  on : OwnX w.heap.size vn na wr
  ok : OwnX w.heap.size vk ke wr
  od : OwnN w.heap.size vd ks wr
  fnk : vn.ownBlock = none ∨ vn.ownBlock ≠ vk.ownBlock
  fn : ∀ s ∈ slots (E ++ A), s.2 = [] ∨ s.1.ownBlock = none ∨ s.1.ownBlock ≠ vn.ownBlock
  fk : ∀ s ∈ slots (E ++ A), s.2 = [] ∨ s.1.ownBlock = none ∨ s.1.ownBlock ≠ vk.ownBlock
  fd : ∀ s ∈ kslots (E ++ A), s.2 = [] ∨ s.1.ownBlock = none ∨ s.1.ownBlock ≠ vd.ownBlock
section
variable {g : Nat} {s : ByteArray} {l : List UInt8} {T : List Rf.Tk} {v v' : Value} {E A : List NdE} {w wr w1 : World} {na ke : List ByteArray} {ks : List Int} {vn vk vd : Value} {n : Nat}
set_option maxRecDepth 20000 in
theorem ownX_nil (B : Nat) (w : World) : OwnX B (.slice none 0 0) [] w := World.ownsRow_nil w B _ 1
set_option maxRecDepth 20000 in
theorem ownN_nil (B : Nat) (w : World) : OwnN B (.slice none 0 0) [] w := World.ownsRow_nil w B _ 1
set_option maxRecDepth 20000 in
theorem far_none {α : Type} {L : List (Value × List α)} {o : Option Nat} (ho : o = none) : ∀ s ∈ L, s.2 = [] ∨ s.1.ownBlock = none ∨ s.1.ownBlock ≠ o := by
  intro s _
  subst ho
  cases h : s.1.ownBlock with
  | none => exact .inr (.inl rfl)
  | some k => exact .inr (.inr (by simp))
set_option maxRecDepth 20000 in
theorem Pf.start {kd a : Nat} {x : List UInt8} (h : Ps g s l T n kd x a v E w) (hG : Gl g w) : Pf g s l T v E w [] [] [] (.slice none 0 0) (.slice none 0 0) (.slice none 0 0) n v [] w :=
  ⟨⟨kd, x, a, by rw [List.append_nil]; exact h⟩, Ef.refl2 _ _ _, .inl rfl, fun _ h => (List.not_mem_nil h).elim, fun _ h => (List.not_mem_nil h).elim, hG, h.sc.lt, ownX_nil _ _, ownX_nil _ _, ownN_nil _ _, .inl rfl, far_none rfl, far_none rfl, far_none rfl⟩
set_option maxRecDepth 20000 in
/-- A call that writes the reader's block only. -/
theorem Pf.small {n' kd a : Nat} {x : List UInt8} (h : Pf g s l T v E w na ke ks vn vk vd n v' A wr) (h1 : Ps g s l T n' kd x a v' (E ++ A) w1) (e1 : Ef g none wr w1) : Pf g s l T v E w na ke ks vn vk vd n' v' A w1 := by
  have key : ∀ k, w.heap.size ≤ k → k < wr.heap.size → w1.heap[k]? = wr.heap[k]? := fun k h1 h2 => e1.keep k h2 (by have := h.hg; omega) (by simp)
  have ef2 : Ef g v.ownBlock w w1 := ⟨e1.os.trans h.ef.os, e1.tape.trans h.ef.tape, e1.output.trans h.ef.output, Nat.le_trans h.ef.size e1.size, fun k hk hg hr => (e1.keep k (Nat.lt_of_lt_of_le hk h.ef.size) hg (by simp)).trans (h.ef.keep k hk hg hr)⟩
  exact ⟨⟨kd, x, a, h1⟩, ef2, h.nw, h.fr, h.frN, h.gl.ef e1 (fun _ e => by cases e), h.hg, own_keep1 h.on fun k hk => key k (World.ownsRow.lt h.on k hk).1 (World.ownsRow.lt h.on k hk).2, own_keep1 h.ok fun k hk => key k (World.ownsRow.lt h.ok k hk).1 (World.ownsRow.lt h.ok k hk).2, own_keep1 h.od fun k hk => key k (World.ownsRow.lt h.od k hk).1 (World.ownsRow.lt h.od k hk).2, h.fnk, h.fn, h.fk, h.fd⟩
set_option maxRecDepth 20000 in
theorem Pf.below (h : Pf g s l T v E w na ke ks vn vk vd n v' A wr) (hb : Below wr.heap.size wr w1) : Pf g s l T v E w na ke ks vn vk vd n v' A w1 := by
  obtain ⟨kd, x, a, h1⟩ := h.ps
  exact h.small (h1.below hb) (Ef.of_below hb)
set_option maxRecDepth 20000 in
/-- A call that reads nodes. -/
theorem Pf.call {j : Nat} {A1 : List NdE} {v1 : Value} (h : Pf g s l T v E w na ke ks vn vk vd n v' A wr) (e1 : Ef g v'.ownBlock wr w1) (p : Pd g s l T n v' (E ++ A) wr j A1 v1 w1) : Pf g s l T v E w na ke ks vn vk vd j v1 (A ++ A1) w1 := by
  have hs := h.ef.size
  obtain ⟨kd0, x0, a0, h0⟩ := h.ps
  obtain ⟨kd1, x1, a1, h1⟩ := p.ps
  have key : ∀ k, w.heap.size ≤ k → k < wr.heap.size → some k ≠ v'.ownBlock → w1.heap[k]? = wr.heap[k]? := fun k h1 h2 h3 => e1.keep k h2 (by have := h.hg; omega) h3
  have k2 : ∀ {B e s m : Nat} {x : Value} {xs : List Value}, wr.ownsRow B e s x m xs → e ≠ 37 → w.heap.size ≤ B → ∀ k, x.ownBlock = some k → w1.heap[k]? = wr.heap[k]? := by
    intro B e s m x xs ho he hB k hk
    have hl := World.ownsRow.lt ho k hk
    refine key k (by omega) hl.2 ?_
    rcases own_apart9 ho h0.nt.row he with e | e
    · rw [e] at hk; cases hk
    · rw [← hk]; exact e
  have app : (E ++ A) ++ A1 = E ++ (A ++ A1) := List.append_assoc _ _ _
  refine ⟨⟨kd1, x1, a1, app ▸ h1⟩, h.ef.trans h.nw e1, h.nw.trans hs p.nw, ?_, ?_, h.gl.ef e1 h0.nt.over, h.hg, own_keep1 h.on (k2 h.on (by decide) (Nat.le_refl _)), own_keep1 h.ok (k2 h.ok (by decide) (Nat.le_refl _)), own_keep1 h.od (k2 h.od (by decide) (Nat.le_refl _)), h.fnk, ?_, ?_, ?_⟩
  · intro s hs'
    rcases slots_mem hs' with h1 | h1
    · exact h.fr s h1
    · exact (p.fr s h1).imp id fun h2 k hk => Nat.le_trans hs (h2 k hk)
  · intro s hs'
    rcases kslots_mem hs' with h1 | h1
    · exact h.frN s h1
    · exact (p.frN s h1).imp id fun h2 k hk => Nat.le_trans hs (h2 k hk)
  all_goals
    intro s hs'
    rw [← app] at hs'
  · rcases slots_mem hs' with h1 | h1
    · exact h.fn s h1
    · refine (p.fr s h1).imp id fun h2 => ?_
      cases ho : s.1.ownBlock with
      | none => exact .inl rfl
      | some k => exact .inr (fun e => by have := (World.ownsRow.lt h.on k e.symm).2; have := h2 k ho; omega)
  · rcases slots_mem hs' with h1 | h1
    · exact h.fk s h1
    · refine (p.fr s h1).imp id fun h2 => ?_
      cases ho : s.1.ownBlock with
      | none => exact .inl rfl
      | some k => exact .inr (fun e => by have := (World.ownsRow.lt h.ok k e.symm).2; have := h2 k ho; omega)
  · rcases kslots_mem hs' with h1 | h1
    · exact h.fd s h1
    · refine (p.frN s h1).imp id fun h2 => ?_
      cases ho : s.1.ownBlock with
      | none => exact .inl rfl
      | some k => exact .inr (fun e => by have := (World.ownsRow.lt h.od k e.symm).2; have := h2 k ho; omega)
set_option maxRecDepth 20000 in
theorem far_new {B : Nat} {N : List NdE} {v : Value} {w : World} {o : Option Nat} (h : Nt B v N w) (ho : ∀ k, o = some k → w.heap.size ≤ k) : (∀ s ∈ slots N, s.2 = [] ∨ s.1.ownBlock = none ∨ s.1.ownBlock ≠ o) ∧ ∀ s ∈ kslots N, s.2 = [] ∨ s.1.ownBlock = none ∨ s.1.ownBlock ≠ o := by
  refine ⟨fun s hs => ?_, fun s hs => ?_⟩
  · by_cases hn : s.2 = []
    · exact .inl hn
    · right
      cases hk : s.1.ownBlock with
      | none => exact .inl rfl
      | some q => exact .inr (fun e => by have := slot_lt h s hs hn q hk; have := ho q e.symm; omega)
  · by_cases hn : s.2 = []
    · exact .inl hn
    · right
      cases hk : s.1.ownBlock with
      | none => exact .inl rfl
      | some q => exact .inr (fun e => by have := kslot_lt h s hs hn q hk; have := ho q e.symm; omega)
set_option maxRecDepth 20000 in
/-- Texts that were read, as names. -/
theorem Pf.names {n' kd a : Nat} {x : List UInt8} {M : List ByteArray} {u : Value} (h : Pf g s l T v E w na ke ks vn vk vd n v' A wr) (h1 : Ps g s l T n' kd x a v' (E ++ A) w1) (e1 : Ef g none wr w1) (hO : OwnX wr.heap.size u M w1) : Pf g s l T v E w M ke ks u vk vd n' v' A w1 := by
  have h2 := h.small h1 e1
  have hk : ∀ k, u.ownBlock = some k → wr.heap.size ≤ k := fun k hk => (World.ownsRow.lt hO k hk).1
  obtain ⟨kd0, x0, a0, h0⟩ := h.ps
  refine ⟨h2.ps, h2.ef, h2.nw, h2.fr, h2.frN, h2.gl, h2.hg, own_base hO h.ef.size, h2.ok, h2.od, ?_, (far_new h0.nt hk).1, h2.fk, h2.fd⟩
  cases hu : u.ownBlock with
  | none => exact .inl rfl
  | some q => exact .inr (fun e => by have := (World.ownsRow.lt h.ok q e.symm).2; have := hk q hu; omega)
set_option maxRecDepth 20000 in
theorem Pf.keys {n' kd a : Nat} {x : List UInt8} {M : List ByteArray} {u : Value} (h : Pf g s l T v E w na ke ks vn vk vd n v' A wr) (h1 : Ps g s l T n' kd x a v' (E ++ A) w1) (e1 : Ef g none wr w1) (hO : OwnX wr.heap.size u M w1) : Pf g s l T v E w na M ks vn u vd n' v' A w1 := by
  have h2 := h.small h1 e1
  have hk : ∀ k, u.ownBlock = some k → wr.heap.size ≤ k := fun k hk => (World.ownsRow.lt hO k hk).1
  obtain ⟨kd0, x0, a0, h0⟩ := h.ps
  refine ⟨h2.ps, h2.ef, h2.nw, h2.fr, h2.frN, h2.gl, h2.hg, h2.on, own_base hO h.ef.size, h2.od, ?_, h2.fn, (far_new h0.nt hk).1, h2.fd⟩
  cases hu : vn.ownBlock with
  | none => exact .inl rfl
  | some q => exact .inr (fun e => by have := (World.ownsRow.lt h.on q hu).2; have := hk q e.symm; omega)
set_option maxRecDepth 20000 in
/-- Kids of their own, new. -/
theorem Pf.kids {L : List Int} {u : Value} (h : Pf g s l T v E w na ke ks vn vk vd n v' A wr) (hb : Below wr.heap.size wr w1) (hO : OwnN wr.heap.size u L w1) : Pf g s l T v E w na ke L vn vk u n v' A w1 := by
  have h2 := h.below hb
  have hk : ∀ k, u.ownBlock = some k → wr.heap.size ≤ k := fun k hk => (World.ownsRow.lt hO k hk).1
  obtain ⟨kd0, x0, a0, h0⟩ := h.ps
  exact ⟨h2.ps, h2.ef, h2.nw, h2.fr, h2.frN, h2.gl, h2.hg, h2.on, h2.ok, own_base hO h.ef.size, h2.fnk, h2.fn, h2.fk, (far_new h0.nt hk).2⟩
set_option maxRecDepth 20000 in
/-- One kid more. -/
theorem Pf.kid {obj : Obj} {w2 : World} {vd' : Value} {z : Int} (h : Pf g s l T v E w na ke ks vn vk vd n v' A wr) (ho : OwnN w.heap.size vd' (ks ++ [z]) w2) (hg2 : (wr.alloc obj).grownBy w2 vd.ownBlock) (hnw : Nw (wr.alloc obj) vd vd') :
    Pf g s l T v E w na ke (ks ++ [z]) vn vk vd' n v' A w2 := by
  have hW : Below wr.heap.size wr (wr.alloc obj) := (Below.refl _ _).alloc (Nat.le_refl _) _
  have hWs : (wr.alloc obj).heap.size = wr.heap.size + 1 := by simp
  have hW0 := h.below hW
  obtain ⟨kd0, x0, a0, rW⟩ := hW0.ps
  have odW : OwnN w.heap.size vd ks (wr.alloc obj) := hW0.od
  have ne2 : ∀ {B e s m : Nat} {x : Value} {xs : List Value}, (wr.alloc obj).ownsRow B e s x m xs → e ≠ 2 → x.ownBlock = none ∨ x.ownBlock ≠ vd.ownBlock := fun ho he => own_apart9 ho odW he
  have hgd : some g ≠ vd.ownBlock := fun e => by have := (World.ownsRow.lt h.od g e.symm).1; have := h.hg; omega
  have r2 : Ps g s l T n kd0 x0 a0 v' (E ++ A) w2 := by
    refine ⟨⟨(hg2.block g rW.sc.lt hgd).trans rW.sc.blk⟩, rW.cur, rW.nt.grown hg2 (ne2 rW.nt.row (by decide)) (fun s hs => ?_) h.fd⟩
    by_cases hn : s.2 = []
    · exact .inl hn
    · exact .inr (ne2 ((rW.nt.own s hs).2 hn) (by decide))
  have hs2 := hg2.size
  have hes := h.ef.size
  have ef2 : Ef g v.ownBlock w w2 := ⟨hg2.os.trans h.ef.os, hg2.tape.trans h.ef.tape, hg2.output.trans h.ef.output, by omega, fun k hk hg hr => ((hg2.block k (by omega) (fun e => by have := (World.ownsRow.lt h.od k e.symm).1; omega)).trans (hW.block k (by omega))).trans (h.ef.keep k hk hg hr)⟩
  have gl2 : Gl g w2 := hW0.gl.ef (r := vd.ownBlock) ⟨hg2.os, hg2.tape, hg2.output, hg2.size, fun k hk _ hr => hg2.block k hk hr⟩ (fun k e => by have := (World.ownsRow.lt h.od k e).1; have := h.hg; omega)
  refine ⟨⟨kd0, x0, a0, r2⟩, ef2, h.nw, h.fr, h.frN, gl2, h.hg, World.ownsRow.kept hW0.on hg2 (ne2 hW0.on (by decide)), World.ownsRow.kept hW0.ok hg2 (ne2 hW0.ok (by decide)), ho, h.fnk, h.fn, h.fk, ?_⟩
  intro s hs
  rcases hnw with e | ⟨k, hk, e⟩
  · rw [e]; exact h.fd s hs
  · by_cases hn : s.2 = []
    · exact .inl hn
    · right
      rw [e]
      cases ho : s.1.ownBlock with
      | none => exact .inl rfl
      | some q => exact .inr (fun e2 => by cases e2; have := kslot_lt rW.nt s hs hn k ho; omega)
end
end Go.Proofs.YtlphojaeaogehaaGreatDoor
namespace Go.Proofs.YtlphojaeaogehaaGreatDoor
open Go.RowKit Go.Lib Go.Maps
set_option maxRecDepth 20000 in
set_option maxHeartbeats 4000000 in
theorem prAddT (g : Nat) (s : ByteArray) (l : List UInt8) (T : List Rf.Tk) (m kd : Nat) (x : List UInt8) (a : Nat) (v : Value) (E : List NdE) (n : Nd) (vn vk vd : Value) (w : World) (hM : Ps g s l T m kd x a v E w) (hlen : E.length ≤ 100000)
    (hn : LsX (g + 1) w (vn, n.names)) (hk : LsX (g + 1) w (vk, n.keys)) (hd : LsN (g + 1) w (vd, n.kids)) (hf : FarX (vn, n.names) (vk, n.keys)) (hfar : ∀ s ∈ slots E, FarX s (vn, n.names) ∧ FarX s (vk, n.keys)) (hfarN : ∀ s ∈ kslots E, FarN s (vd, n.kids)) :
    Calls Tryz.prog 36 #[scp g, ndV n vn vk vd] w fun e w' => e = .returned (.int .i64 (E.length : Int)) ∧ ∃ v', Ps g s l T m kd x a v' (E ++ [(n, vn, vk, vd)]) w' ∧ Ef g v.ownBlock w w' ∧ Nw w v v' := by
  obtain ⟨hsc, hcur, hC⟩ := hM
  have hgl := hsc.lt
  have hn0 := hn
  have hk0 := hk
  have hd0 := hd
  obtain ⟨⟨on, cn, e1⟩, -⟩ := hn0
  obtain ⟨⟨ok, ck, e2⟩, -⟩ := hk0
  obtain ⟨⟨od, cd, e3⟩, -⟩ := hd0
  dsimp only at e1 e2 e3
  obtain ⟨o, cap, hv⟩ := hC.shape
  have hone : Hid (∀ y ∈ cell7 (n, vn, vk, vd), y.oneCell' = true) := by
    show ∀ y ∈ _, _
    intro y hy
    simp only [cell7, List.mem_cons, List.not_mem_nil, or_false] at hy
    rcases hy with rfl | rfl | rfl | rfl | rfl | rfl | rfl <;> first | rfl | (rw [e1]; rfl) | (rw [e2]; rfl) | (rw [e3]; rfl)
  obtain ⟨W1, hW1⟩ : ∃ W1, w.alloc (bxN n vn vk vd) = W1 := ⟨_, rfl⟩
  have b1 : Below w.heap.size w W1 := by rw [← hW1]; exact (Below.refl _ _).alloc (Nat.le_refl _) _
  have hs1 : W1.heap.size = w.heap.size + 1 := by rw [← hW1]; simp
  have hbx : W1.heap[w.heap.size]? = some (bxN n vn vk vd) := by rw [← hW1]; exact heap_alloc_at _ _
  obtain ⟨W2, hW2⟩ : ∃ W2, (W1.alloc (bxN n vn vk vd)).drew = W2 := ⟨_, rfl⟩
  have b2 : Below w.heap.size w W2 := by rw [← hW2]; exact (b1.alloc (by omega) _).drew
  have hs2 : W2.heap.size = w.heap.size + 2 := by rw [← hW2]; simp [World.drew, hs1]
  have y1 : W1.cell? ⟨g, 5, none⟩ = some v := (⟨(b1.block g hgl).trans hsc.blk⟩ : Sc (prR kd ⟨x.toArray⟩ v) W1 g s a (Rf.pos T m)).c5
  have y2 : (W1.alloc (bxN n vn vk vd)).cell? ⟨g, 5, none⟩ = some v := (⟨((b1.alloc (by omega) _).block g hgl).trans hsc.blk⟩ : Sc (prR kd ⟨x.toArray⟩ v) (W1.alloc (bxN n vn vk vd)) g s a (Rf.pos T m)).c5
  have d0 : W1.cell? ⟨w.heap.size, 0, none⟩ = some (.int .i64 n.kind) := by simp [World.cell?, hbx]
  have d1 : W1.cell? ⟨w.heap.size, 1, none⟩ = some (.int .i64 n.num) := by simp [World.cell?, hbx]
  have d2 : W1.cell? ⟨w.heap.size, 2, none⟩ = some (.int .i64 n.mat) := by simp [World.cell?, hbx]
  have d3 : W1.cell? ⟨w.heap.size, 3, none⟩ = some (.string n.text) := by simp [World.cell?, hbx]
  have d4 : W1.cell? ⟨w.heap.size, 4, none⟩ = some (vn) := by simp [World.cell?, hbx]
  have d5 : W1.cell? ⟨w.heap.size, 5, none⟩ = some (vk) := by simp [World.cell?, hbx]
  have d6 : W1.cell? ⟨w.heap.size, 6, none⟩ = some (vd) := by simp [World.cell?, hbx]
  have hC2 := mkHid (hC.below b2)
  have hn2 := mkHid (hn.below b2)
  have hk2 := mkHid (hk.below b2)
  have hd2 := mkHid (hd.below b2)
  have hb2 := mkHid (⟨(b2.block g hgl).trans hsc.blk⟩ : Sc (prR kd ⟨x.toArray⟩ v) W2 g s a (Rf.pos T m))
  have Hcur := mkHid hcur
  have hnew : Hid (∀ (j : Nat) (y : Value), (cell7 (n, vn, vk, vd))[j]? = some y → W2.cell? ⟨W1.heap.size, j, none⟩ = some y) := by
    show ∀ _ _, _
    intro j y hy
    refine seven_cells (t := 37) (z := (0, 0)) _ ?_ j y hy
    have := heap_alloc_at W1 (bxN n vn vk vd)
    rw [← hW2]
    exact this
  have HW1 := mkHid hW1
  have HW2 := mkHid hW2
  have Hb2 := mkHid b2
  have Hs2 := mkHid hs2
  have hN := mkHid hf
  have hFar := mkHid hfar
  have hFarN := mkHid hfarN
  have Hs1 := mkHid hs1
  unfold ndV
  clear hsc hcur hC hn hk hd hf hfar hfarN hW1 hW2 b1 b2 hs2 hbx hs1
  subst e1 e2 e3 hv
  go_enter Tryz.func36, Tryz.ntmps36
  go_wp2
  rw [HW1.out]
  refine wp_region_any (by kernel_rfl) ?_
  refine wpAny_take (i := 0) (v := scp g) rfl (by kernel_rfl) (by kernel_rfl) (by kernel_rfl) (fun _ _ _ h => h) (Or.inl ⟨by rfl, ?_⟩) ?_
  · intro w
    go_simp
    all_goals first | done | (intro h; exfalso; omega) | omega
  go_simp
  refine wpAny_take (i := 1) (v := scp g) rfl (by kernel_rfl) (by kernel_rfl) (by kernel_rfl) (fun _ _ _ h => h) (Or.inl ⟨by rfl, ?_⟩) ?_
  · intro w
    go_simp
    all_goals first | done | (intro h; exfalso; omega) | omega
  go_simp
  refine wpAny_take (i := 2) (v := scp g) rfl (by kernel_rfl) (by kernel_rfl) (by kernel_rfl) (fun _ _ _ h => h) (Or.inl ⟨by rfl, ?_⟩) ?_
  · intro w
    go_simp
    all_goals first | done | (intro h; exfalso; omega) | omega
  go_simp
  refine wpAny_take (i := 3) (v := .pointer (some ⟨g, 5, none⟩)) rfl (by kernel_rfl) (by kernel_rfl) (by kernel_rfl) (fun _ _ _ h => h) (Or.inl ⟨by rfl, ?_⟩) ?_
  · intro w
    go_simp
    all_goals first | done | (intro h; exfalso; omega) | omega
  go_simp
  refine wpAny_ready (rs := [4, 5]) (by kernel_rfl) (by simp) ?_
  refine AllReady.cons rfl (fun K hK => ?_) (AllReady.cons rfl (fun K hK => ?_) AllReady.nil)
  · go_simp
    refine hK _ _ ?_
    clear hK K
    go_simp
    refine wpAny_ready (rs := [5]) (by kernel_rfl) (by simp) ?_
    refine AllReady.cons rfl (fun K hK => ?_) AllReady.nil
    go_simp
    refine hK _ _ ?_
    clear hK K
    go_simp
    refine wpAny_ready (rs := [6]) (by kernel_rfl) (by simp) ?_
    refine AllReady.cons rfl (fun K hK => ?_) AllReady.nil
    go_simp
    refine hK _ _ ?_
    clear hK K
    go_simp
    refine wpAny_ready (rs := [7]) (by kernel_rfl) (by simp) ?_
    refine AllReady.cons rfl (fun K hK => ?_) AllReady.nil
    rw [HW2.out]
    refine opAppNt _ _ rfl (g + 1) (.slice o E.length cap) E rfl hC2.out.row (n, .slice on n.names.length cn, .slice ok n.keys.length ck, .slice od n.kids.length cd) W1.heap.size 1 rfl hnew.out hone.out (by omega) (by rw [Hs2.out]; omega) ?_
    intro y5 w6 hrow6 hg6 hnw6
    have hC6 := hC2.out.push hn2.out hk2.out hd2.out hN.out hFar.out hFarN.out hrow6 hg6
    have hlow : ∀ k, (Value.slice o E.length cap).ownBlock = some k → g + 1 ≤ k := fun k hk => (World.ownsRow.lt hC2.out.row k hk).1
    have hO6 : Sc (prR kd ⟨x.toArray⟩ (.slice o E.length cap)) w6 g s a (Rf.pos T m) := ⟨(hg6.block g (by rw [Hs2.out]; omega) (fun e => by have := hlow _ e.symm; omega)).trans hb2.out.blk⟩
    have hb6 : Ef g (Value.slice o E.length cap).ownBlock w w6 := Ef.ahead Hb2.out ⟨hg6.os, hg6.tape, hg6.output, hg6.size, fun k hk _ hr => hg6.block k hk hr⟩
    have hN6 := mkHid (Nw.ahead (show w.heap.size ≤ W2.heap.size by rw [Hs2.out]; omega) hnw6)
    have x6 := hO6.c5
    have z6 := hO6.fz 5
    obtain ⟨o5, k5, hv5⟩ := hC6.shape
    rw [show (E ++ [(n, Value.slice on n.names.length cn, Value.slice ok n.keys.length ck, Value.slice od n.kids.length cd)]).length = E.length + 1 from by simp] at hv5
    subst hv5
    refine hK _ _ ?_
    clear hK K
    go_simp
    refine wpAny_take (i := 8) (v := scp g) rfl (by kernel_rfl) (by kernel_rfl) (by kernel_rfl) (fun _ _ _ h => h) (Or.inl ⟨by rfl, ?_⟩) ?_
    · intro w
      go_simp
      all_goals first | done | (intro h; exfalso; omega) | omega
    go_simp
    refine wpAny_take (i := 9) (v := .pointer (some ⟨g, 5, none⟩)) rfl (by kernel_rfl) (by kernel_rfl) (by kernel_rfl) (fun _ _ _ h => h) (Or.inl ⟨by rfl, ?_⟩) ?_
    · intro w
      go_simp
      all_goals first | done | (intro h; exfalso; omega) | omega
    go_simp
    refine wpAny_ready (rs := [10]) (by kernel_rfl) (by simp) ?_
    refine AllReady.cons rfl (fun K hK => ?_) AllReady.nil
    go_simp
    refine hK _ _ ?_
    clear hK K
    go_simp
    refine wpAny_done (by kernel_rfl) ?_ _
    have hM7 : Hid (Ps g s l T m kd x a (.slice o5 (E.length + 1) k5) _ (w6.setCell ⟨g, 5, none⟩ (.slice o5 (E.length + 1) k5))) := ⟨hO6.nodes _, Hcur.out, hC6.set (by omega)⟩
    have hE7 : Hid (Ef g (Value.slice o E.length cap).ownBlock w (w6.setCell ⟨g, 5, none⟩ (.slice o5 (E.length + 1) k5))) := ⟨hb6.os, hb6.tape, hb6.output, by simpa using hb6.size, fun k hk hg hr => ((grG_set w6 g 5 _).block k (Nat.lt_of_lt_of_le hk hb6.size) (by simpa using hg)).trans (hb6.keep k hk hg hr)⟩
    have x7 := (hO6.nodes (.slice o5 (E.length + 1) k5)).c5
    clear hrow6 hg6 hC6 hO6 x6 z6 hb6 hnw6
    go_wp2
    go_ret
    refine ⟨?_, _, hM7.out, hE7.out, hN6.out⟩
    first | rfl | (simp; done) | (simp; omega)
  · go_simp
    refine hK _ _ ?_
    clear hK K
    go_simp
    refine wpAny_ready (rs := [4, 6]) (by kernel_rfl) (by simp) ?_
    refine AllReady.cons rfl (fun K hK => ?_) (AllReady.cons rfl (fun K hK => ?_) AllReady.nil)
    · go_simp
      refine hK _ _ ?_
      clear hK K
      go_simp
      refine wpAny_ready (rs := [6]) (by kernel_rfl) (by simp) ?_
      refine AllReady.cons rfl (fun K hK => ?_) AllReady.nil
      go_simp
      refine hK _ _ ?_
      clear hK K
      go_simp
      refine wpAny_ready (rs := [7]) (by kernel_rfl) (by simp) ?_
      refine AllReady.cons rfl (fun K hK => ?_) AllReady.nil
      rw [HW2.out]
      refine opAppNt _ _ rfl (g + 1) (.slice o E.length cap) E rfl hC2.out.row (n, .slice on n.names.length cn, .slice ok n.keys.length ck, .slice od n.kids.length cd) W1.heap.size 1 rfl hnew.out hone.out (by omega) (by rw [Hs2.out]; omega) ?_
      intro y5 w6 hrow6 hg6 hnw6
      have hC6 := hC2.out.push hn2.out hk2.out hd2.out hN.out hFar.out hFarN.out hrow6 hg6
      have hlow : ∀ k, (Value.slice o E.length cap).ownBlock = some k → g + 1 ≤ k := fun k hk => (World.ownsRow.lt hC2.out.row k hk).1
      have hO6 : Sc (prR kd ⟨x.toArray⟩ (.slice o E.length cap)) w6 g s a (Rf.pos T m) := ⟨(hg6.block g (by rw [Hs2.out]; omega) (fun e => by have := hlow _ e.symm; omega)).trans hb2.out.blk⟩
      have hb6 : Ef g (Value.slice o E.length cap).ownBlock w w6 := Ef.ahead Hb2.out ⟨hg6.os, hg6.tape, hg6.output, hg6.size, fun k hk _ hr => hg6.block k hk hr⟩
      have hN6 := mkHid (Nw.ahead (show w.heap.size ≤ W2.heap.size by rw [Hs2.out]; omega) hnw6)
      have x6 := hO6.c5
      have z6 := hO6.fz 5
      obtain ⟨o5, k5, hv5⟩ := hC6.shape
      rw [show (E ++ [(n, Value.slice on n.names.length cn, Value.slice ok n.keys.length ck, Value.slice od n.kids.length cd)]).length = E.length + 1 from by simp] at hv5
      subst hv5
      refine hK _ _ ?_
      clear hK K
      go_simp
      refine wpAny_take (i := 8) (v := scp g) rfl (by kernel_rfl) (by kernel_rfl) (by kernel_rfl) (fun _ _ _ h => h) (Or.inl ⟨by rfl, ?_⟩) ?_
      · intro w
        go_simp
        all_goals first | done | (intro h; exfalso; omega) | omega
      go_simp
      refine wpAny_take (i := 9) (v := .pointer (some ⟨g, 5, none⟩)) rfl (by kernel_rfl) (by kernel_rfl) (by kernel_rfl) (fun _ _ _ h => h) (Or.inl ⟨by rfl, ?_⟩) ?_
      · intro w
        go_simp
        all_goals first | done | (intro h; exfalso; omega) | omega
      go_simp
      refine wpAny_ready (rs := [10]) (by kernel_rfl) (by simp) ?_
      refine AllReady.cons rfl (fun K hK => ?_) AllReady.nil
      go_simp
      refine hK _ _ ?_
      clear hK K
      go_simp
      refine wpAny_done (by kernel_rfl) ?_ _
      have hM7 : Hid (Ps g s l T m kd x a (.slice o5 (E.length + 1) k5) _ (w6.setCell ⟨g, 5, none⟩ (.slice o5 (E.length + 1) k5))) := ⟨hO6.nodes _, Hcur.out, hC6.set (by omega)⟩
      have hE7 : Hid (Ef g (Value.slice o E.length cap).ownBlock w (w6.setCell ⟨g, 5, none⟩ (.slice o5 (E.length + 1) k5))) := ⟨hb6.os, hb6.tape, hb6.output, by simpa using hb6.size, fun k hk hg hr => ((grG_set w6 g 5 _).block k (Nat.lt_of_lt_of_le hk hb6.size) (by simpa using hg)).trans (hb6.keep k hk hg hr)⟩
      have x7 := (hO6.nodes (.slice o5 (E.length + 1) k5)).c5
      clear hrow6 hg6 hC6 hO6 x6 z6 hb6 hnw6
      go_wp2
      go_ret
      refine ⟨?_, _, hM7.out, hE7.out, hN6.out⟩
      first | rfl | (simp; done) | (simp; omega)
    · go_simp
      refine hK _ _ ?_
      clear hK K
      go_simp
      refine wpAny_ready (rs := [4]) (by kernel_rfl) (by simp) ?_
      refine AllReady.cons rfl (fun K hK => ?_) AllReady.nil
      go_simp
      refine hK _ _ ?_
      clear hK K
      go_simp
      refine wpAny_ready (rs := [7]) (by kernel_rfl) (by simp) ?_
      refine AllReady.cons rfl (fun K hK => ?_) AllReady.nil
      rw [HW2.out]
      refine opAppNt _ _ rfl (g + 1) (.slice o E.length cap) E rfl hC2.out.row (n, .slice on n.names.length cn, .slice ok n.keys.length ck, .slice od n.kids.length cd) W1.heap.size 1 rfl hnew.out hone.out (by omega) (by rw [Hs2.out]; omega) ?_
      intro y5 w6 hrow6 hg6 hnw6
      have hC6 := hC2.out.push hn2.out hk2.out hd2.out hN.out hFar.out hFarN.out hrow6 hg6
      have hlow : ∀ k, (Value.slice o E.length cap).ownBlock = some k → g + 1 ≤ k := fun k hk => (World.ownsRow.lt hC2.out.row k hk).1
      have hO6 : Sc (prR kd ⟨x.toArray⟩ (.slice o E.length cap)) w6 g s a (Rf.pos T m) := ⟨(hg6.block g (by rw [Hs2.out]; omega) (fun e => by have := hlow _ e.symm; omega)).trans hb2.out.blk⟩
      have hb6 : Ef g (Value.slice o E.length cap).ownBlock w w6 := Ef.ahead Hb2.out ⟨hg6.os, hg6.tape, hg6.output, hg6.size, fun k hk _ hr => hg6.block k hk hr⟩
      have hN6 := mkHid (Nw.ahead (show w.heap.size ≤ W2.heap.size by rw [Hs2.out]; omega) hnw6)
      have x6 := hO6.c5
      have z6 := hO6.fz 5
      obtain ⟨o5, k5, hv5⟩ := hC6.shape
      rw [show (E ++ [(n, Value.slice on n.names.length cn, Value.slice ok n.keys.length ck, Value.slice od n.kids.length cd)]).length = E.length + 1 from by simp] at hv5
      subst hv5
      refine hK _ _ ?_
      clear hK K
      go_simp
      refine wpAny_take (i := 8) (v := scp g) rfl (by kernel_rfl) (by kernel_rfl) (by kernel_rfl) (fun _ _ _ h => h) (Or.inl ⟨by rfl, ?_⟩) ?_
      · intro w
        go_simp
        all_goals first | done | (intro h; exfalso; omega) | omega
      go_simp
      refine wpAny_take (i := 9) (v := .pointer (some ⟨g, 5, none⟩)) rfl (by kernel_rfl) (by kernel_rfl) (by kernel_rfl) (fun _ _ _ h => h) (Or.inl ⟨by rfl, ?_⟩) ?_
      · intro w
        go_simp
        all_goals first | done | (intro h; exfalso; omega) | omega
      go_simp
      refine wpAny_ready (rs := [10]) (by kernel_rfl) (by simp) ?_
      refine AllReady.cons rfl (fun K hK => ?_) AllReady.nil
      go_simp
      refine hK _ _ ?_
      clear hK K
      go_simp
      refine wpAny_done (by kernel_rfl) ?_ _
      have hM7 : Hid (Ps g s l T m kd x a (.slice o5 (E.length + 1) k5) _ (w6.setCell ⟨g, 5, none⟩ (.slice o5 (E.length + 1) k5))) := ⟨hO6.nodes _, Hcur.out, hC6.set (by omega)⟩
      have hE7 : Hid (Ef g (Value.slice o E.length cap).ownBlock w (w6.setCell ⟨g, 5, none⟩ (.slice o5 (E.length + 1) k5))) := ⟨hb6.os, hb6.tape, hb6.output, by simpa using hb6.size, fun k hk hg hr => ((grG_set w6 g 5 _).block k (Nat.lt_of_lt_of_le hk hb6.size) (by simpa using hg)).trans (hb6.keep k hk hg hr)⟩
      have x7 := (hO6.nodes (.slice o5 (E.length + 1) k5)).c5
      clear hrow6 hg6 hC6 hO6 x6 z6 hb6 hnw6
      go_wp2
      go_ret
      refine ⟨?_, _, hM7.out, hE7.out, hN6.out⟩
      first | rfl | (simp; done) | (simp; omega)
end Go.Proofs.YtlphojaeaogehaaGreatDoor
namespace Go.Proofs.YtlphojaeaogehaaGreatDoor
open Go.RowKit Go.Lib Go.Maps
/-- The block of a node that is being read. -/
structure Pb (w : World) (b : Nat) (cs : Array Value) (v' : Value) (wr : World) : Prop where
  blk : wr.heap[b]? = some (.cells cs 37 (0, 0))
  hb : w.heap.size ≤ b
  hvb : v'.ownBlock ≠ some b
section
variable {g : Nat} {s : ByteArray} {l : List UInt8} {T : List Rf.Tk} {v v' : Value} {E A : List NdE} {w wr w1 : World} {na ke : List ByteArray} {ks : List Int} {vn vk vd : Value} {n b : Nat} {cs : Array Value}
set_option maxRecDepth 20000 in
theorem Pb.ef {r : Option Nat} (h : Pb w b cs v' wr) (hg : g < w.heap.size) (e1 : Ef g r wr w1) (hr : r = none ∨ r = v'.ownBlock) : Pb w b cs v' w1 :=
  ⟨(e1.keep b (heap_ltM h.blk) (by have := h.hb; omega) (fun e => hr.elim (fun h1 => by rw [h1] at e; cases e) (fun h1 => h.hvb (by rw [← h1]; exact e.symm)))).trans h.blk, h.hb, h.hvb⟩
set_option maxRecDepth 20000 in
theorem Pb.call {v1 : Value} (h : Pb w b cs v' wr) (hg : g < w.heap.size) (e1 : Ef g v'.ownBlock wr w1) (hn : Nw wr v' v1) : Pb w b cs v1 w1 := by
  refine ⟨(h.ef hg e1 (.inr rfl)).blk, h.hb, ?_⟩
  rcases hn with e | ⟨k, hk, e⟩
  · rw [e]; exact h.hvb
  · rw [e]; intro e2; cases e2; have := heap_ltM h.blk; omega
set_option maxRecDepth 20000 in
theorem Pb.below (h : Pb w b cs v' wr) (hb : Below wr.heap.size wr w1) : Pb w b cs v' w1 := ⟨(hb.block b (heap_ltM h.blk)).trans h.blk, h.hb, h.hvb⟩
set_option maxRecDepth 20000 in
theorem Pb.set (h : Pb w b cs v' wr) (j : Nat) (u : Value) : Pb w b (cs.setIfInBounds j u) v' (wr.setCell ⟨b, j, none⟩ u) := ⟨by simp [World.setCell, Array.getElem?_modify, h.blk], h.hb, h.hvb⟩
set_option maxRecDepth 20000 in
theorem Pb.new {kd a : Nat} {x : List UInt8} (h : Ps g s l T n kd x a v E wr) (hs : w.heap.size ≤ wr.heap.size) : Pb w wr.heap.size cs v (wr.alloc (.cells cs 37)) :=
  ⟨heap_alloc_at _ _, hs, fun e => by have := (World.ownsRow.lt h.nt.row _ e).2; omega⟩
set_option maxRecDepth 20000 in
theorem Pb.cell (h : Pb w b cs v' wr) (j : Nat) (u : Value) (hj : cs[j]? = some u) : wr.cell? ⟨b, j, none⟩ = some u := by simp [World.cell?, h.blk, hj]
set_option maxRecDepth 20000 in
theorem Pb.fz (h : Pb w b cs v' wr) (j : Nat) : wr.frozen? ⟨b, j, none⟩ = false := by simp [World.frozen?, h.blk]
set_option maxRecDepth 20000 in
/-- A field of the node is written. -/
theorem Pf.set (h : Pf g s l T v E w na ke ks vn vk vd n v' A wr) (p : Pb w b cs v' wr) (j : Nat) (u : Value) : Pf g s l T v E w na ke ks vn vk vd n v' A (wr.setCell ⟨b, j, none⟩ u) := by
  obtain ⟨kd, x, a, h0⟩ := h.ps
  have hgb : g ≠ b := by have := h.hg; have := p.hb; omega
  have h1 : Ps g s l T n kd x a v' (E ++ A) (wr.setCell ⟨b, j, none⟩ u) := by
    refine ⟨⟨((grG_set wr b j u).block g h0.sc.lt (by simpa using hgb)).trans h0.sc.blk⟩, h0.cur, h0.nt.grown (grG_set wr b j u) (.inr p.hvb) (fun s hs => ?_) (fun s hs => ?_)⟩
    · by_cases hn : s.2 = []
      · exact .inl hn
      · exact .inr (own_ne_blk ((h0.nt.own s hs).2 hn) p.blk (by decide))
    · by_cases hn : s.2 = []
      · exact .inl hn
      · exact .inr (own_ne_blk ((h0.nt.ownN s hs).2 hn) p.blk (by decide))
  have e1 : Ef g v.ownBlock w (wr.setCell ⟨b, j, none⟩ u) := h.ef.blkset p.hb j u
  have gl1 : Gl g (wr.setCell ⟨b, j, none⟩ u) := h.gl.ef (r := some b) ⟨rfl, rfl, rfl, by simp, fun k hk _ hr => (grG_set wr b j u).block k hk hr⟩ (fun k e => by cases e; have := h.hg; have := p.hb; omega)
  exact ⟨⟨kd, x, a, h1⟩, e1, h.nw, h.fr, h.frN, gl1, h.hg, World.ownsRow.kept h.on (grG_set wr b j u) (own_ne_blk h.on p.blk (by decide)), World.ownsRow.kept h.ok (grG_set wr b j u) (own_ne_blk h.ok p.blk (by decide)), World.ownsRow.kept h.od (grG_set wr b j u) (own_ne_blk h.od p.blk (by decide)), h.fnk, h.fn, h.fk, h.fd⟩
set_option maxRecDepth 20000 in
/-- The node is put behind the others. -/
theorem Pf.add (h : Pf g s l T v E w na ke ks vn vk vd n v' A wr) (nd : Nd) (hna : nd.names = na) (hke : nd.keys = ke) (hks : nd.kids = ks) (hlen : (E ++ A).length ≤ 100000) :
    Calls Tryz.prog 36 #[scp g, ndV nd vn vk vd] wr fun e w' => e = .returned (.int .i64 ((E ++ A).length : Int)) ∧ ∃ v2 A2, Hid (A2 = A ++ [(nd, vn, vk, vd)]) ∧ Ef g v.ownBlock w w' ∧ Nw w v v2 ∧ (∃ kd x a, Ps g s l T n kd x a v2 (E ++ A2) w') ∧
      (∀ s ∈ slots A2, s.2 = [] ∨ ∀ k, s.1.ownBlock = some k → w.heap.size ≤ k) ∧ (∀ s ∈ kslots A2, s.2 = [] ∨ ∀ k, s.1.ownBlock = some k → w.heap.size ≤ k) := by
  subst hna hke hks
  obtain ⟨kd, x, a, h0⟩ := h.ps
  have hB : g + 1 ≤ w.heap.size := h.hg
  have lsx : ∀ {x : Value} {l : List ByteArray}, OwnX w.heap.size x l wr → LsX (g + 1) wr (x, l) := fun ho => ⟨ho.shape, fun _ => own_base ho hB⟩
  have farx : ∀ {x : Value} {l : List ByteArray}, OwnX w.heap.size x l wr → (∀ s ∈ slots (E ++ A), s.2 = [] ∨ s.1.ownBlock = none ∨ s.1.ownBlock ≠ x.ownBlock) → ∀ s ∈ slots (E ++ A), FarX s (x, l) := by
    intro x l ho hf s hs
    rcases hf s hs with e | e | e
    · exact .inl e
    · by_cases hn : s.2 = []
      · exact .inl hn
      · have := own_none ((h0.nt.own s hs).2 hn) e
        exact absurd (List.eq_nil_of_length_eq_zero this) hn
    · exact .inr (.inr e)
  refine (prAddT g s l T n kd x a v' (E ++ A) nd vn vk vd wr h0 hlen (lsx h.on) (lsx h.ok) ⟨?_, fun _ => own_base h.od hB⟩ ?_ (fun s hs => ⟨farx h.on h.fn s hs, farx h.ok h.fk s hs⟩) ?_).mono ?_
  · rcases h.od.2 with ⟨e, h0⟩ | ⟨q, cap, cur, e, -⟩
    · exact ⟨none, 0, by show vd = .slice none nd.kids.length 0; rw [e, h0]⟩
    · exact ⟨_, cap, e⟩
  · rcases h.fnk with e | e
    · exact .inl (List.eq_nil_of_length_eq_zero (own_none h.on e))
    · exact .inr (.inr e)
  · intro s hs
    rcases h.fd s hs with e | e | e
    · exact .inl e
    · by_cases hn : s.2 = []
      · exact .inl hn
      · have := own_none ((h0.nt.ownN s hs).2 hn) e
        exact absurd (List.eq_nil_of_length_eq_zero this) hn
    · exact .inr (.inr e)
  · rintro e w' ⟨rfl, v2, h2, e2, n2⟩
    refine ⟨rfl, v2, _, rfl, h.ef.trans h.nw e2, h.nw.trans h.ef.size n2, ⟨kd, x, a, by rw [← List.append_assoc]; exact h2⟩, ?_, ?_⟩
    · intro s hs
      rcases slots_mem hs with h1 | h1
      · exact h.fr s h1
      · simp only [slots, List.flatMap_cons, List.flatMap_nil, List.append_nil, List.mem_cons, List.not_mem_nil, or_false] at h1
        rcases h1 with rfl | rfl
        · exact .inr fun k hk => (World.ownsRow.lt h.on k hk).1
        · exact .inr fun k hk => (World.ownsRow.lt h.ok k hk).1
    · intro s hs
      rcases kslots_mem hs with h1 | h1
      · exact h.frN s h1
      · simp only [kslots, List.map_cons, List.map_nil, List.mem_cons, List.not_mem_nil, or_false] at h1
        subst h1
        exact .inr fun k hk => (World.ownsRow.lt h.od k hk).1
set_option maxRecDepth 20000 in
/-- What is told behind it. -/
theorem PrO.added {R : Rf.Out} {n0 : Nat} {v2 : Value} {A2 : List NdE} {nd : Nd} {w' : World} (hA : A2 = A ++ [(nd, vn, vk, vd)]) (hR : R = .ok n ((E ++ A).map (·.1) ++ [nd])) (nw : Nw w v v2) (ps : ∃ kd x a, Ps g s l T n kd x a v2 (E ++ A2) w')
    (fr : ∀ s ∈ slots A2, s.2 = [] ∨ ∀ k, s.1.ownBlock = some k → w.heap.size ≤ k) (frN : ∀ s ∈ kslots A2, s.2 = [] ∨ ∀ k, s.1.ownBlock = some k → w.heap.size ≤ k) (hc : A.length + 3 * n0 + 2 ≤ 3 * n) :
    PrO g s l T n0 v E w R (.returned (.int .i64 ((E ++ A).length : Int))) w' := by
  subst hR
  refine .inl ⟨A2, v2, ?_, ?_, ps, nw, fr, frN, ?_⟩
  · have : (((E ++ A).map (·.1) ++ [nd]).length : Int) - 1 = ((E ++ A).length : Int) := by rw [List.length_append, List.length_map]; simp
    unfold Rf.last
    rw [this]
  · rw [hA]
    simp
  · rw [hA, List.length_append]
    simp
    omega
set_option maxRecDepth 20000 in
theorem PrO.ofX {R : Rf.Out} {n0 m : Nat} {e : Ending} {w' : World} (hx : Xf T m e) (hR : R = .bad m) : PrO g s l T n0 v E w R e w' := by
  rw [hR]; exact hx.2.2
set_option maxRecDepth 20000 in
theorem PrO.ofX2 {R : Rf.Out} {n0 m : Nat} {N : List Nd} {e : Ending} {w' : World} (hx : Xf T m e) (hR : R = .ok m N) : PrO g s l T n0 v E w R e w' := by
  rw [hR]; exact .inr hx
set_option maxRecDepth 20000 in
theorem PrO.bad {R : Rf.Out} {n0 m : Nat} {w' : World} (hR : R = .bad m) : PrO g s l T n0 v E w R (faultAt (Rf.pos T m)) w' := by
  rw [hR]; exact rfl
end
end Go.Proofs.YtlphojaeaogehaaGreatDoor
