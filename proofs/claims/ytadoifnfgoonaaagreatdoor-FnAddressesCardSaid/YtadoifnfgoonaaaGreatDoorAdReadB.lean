
/- Drawn entries in memory: boxes in a row, entries in a row, each with a row of boxes. -/

/- The walks of a reader of addresses: a group's members. -/
import Derived.Test.YtadoifnfgoonaaaGreatDoorDrawOpC
import Derived.Test.YtadoifnfgoonaaaGreatDoorAdReadA
namespace Go.Proofs.YtadoifnfgoonaaaGreatDoor
open Go.RowKit Go.Lib Go.Maps
structure Bx3 where
  n : ByteArray
  l : ByteArray
  d : ByteArray
def Bx3.ok (b : Bx3) : Prop := b.n.size ≤ 20 ∧ b.l.size ≤ 20 ∧ b.d.size ≤ 20
def bxC (b : Bx3) : List Value := [.string b.n, .string b.l, .string b.d]
def bxCells (L : List Bx3) : List Value := L.flatMap bxC
set_option maxRecDepth 20000 in
theorem bxCells_len (L : List Bx3) : (bxCells L).length = L.length * 3 := by
  induction L with
  | nil => rfl
  | cons r t ih => simp only [bxCells, bxC, List.flatMap_cons, List.length_append, List.length_cons, List.length_nil] at ih ⊢; omega
set_option maxRecDepth 20000 in
theorem bxCells_join (L R : List Bx3) : bxCells (L ++ R) = bxCells L ++ bxCells R := by simp [bxCells]
set_option maxRecDepth 20000 in
theorem bxCells_at (E : List Bx3) : ∀ (i : Nat) (h : i < E.length), (bxCells E)[i * 3]? = some (.string E[i].n) ∧ (bxCells E)[i * 3 + 1]? = some (.string E[i].l) ∧ (bxCells E)[i * 3 + 2]? = some (.string E[i].d) := by
  induction E with
  | nil => intro i h; exact absurd h (Nat.not_lt_zero _)
  | cons r t ih =>
    intro i h
    have e : bxCells (r :: t) = .string r.n :: .string r.l :: .string r.d :: bxCells t := rfl
    rw [e]
    cases i with
    | zero => exact ⟨rfl, rfl, rfl⟩
    | succ i =>
      have := ih i (by simpa using h)
      rw [show (i + 1) * 3 = i * 3 + 1 + 1 + 1 by omega]
      simpa using this
def OwnB (B : Nat) (v : Value) (L : List Bx3) (w : World) : Prop := w.ownsRow B 35 3 v L.length (bxCells L)
set_option maxRecDepth 20000 in
theorem OwnB.nil (B : Nat) (w : World) : OwnB B (.slice none 0 0) [] w := World.ownsRow_nil w B _ 3
set_option maxRecDepth 20000 in
theorem OwnB.shape {B : Nat} {v : Value} {F : List Bx3} {w : World} (h : OwnB B v F w) : ∃ o c, v = .slice o F.length c := by
  rcases h.2 with ⟨hv, h0⟩ | ⟨g, cap, cur, hv, _⟩
  · exact ⟨none, 0, by rw [hv, h0]⟩
  · exact ⟨_, _, hv⟩
set_option maxRecDepth 20000 in
theorem OwnB.base {B B' : Nat} {v : Value} {F : List Bx3} {w : World} (h : OwnB B v F w) (hB : B' ≤ B) : OwnB B' v F w := by
  refine ⟨h.1, ?_⟩
  rcases h.2 with h0 | ⟨g, cap, cur, hv, hg, hr⟩
  · exact .inl h0
  · exact .inr ⟨g, cap, cur, hv, Nat.le_trans hB hg, hr⟩
set_option maxRecDepth 20000 in
theorem OwnB.same {B : Nat} {v : Value} {F : List Bx3} {w w' : World} (h : OwnB B v F w) (hs : Same B w.heap.size w w') : OwnB B v F w' := row_same h hs
set_option maxRecDepth 20000 in
theorem OwnB.below {B : Nat} {v : Value} {F : List Bx3} {w w' : World} (h : OwnB B v F w) (hb : Below w.heap.size w w') : OwnB B v F w' := h.same (Same.of_below hb (Nat.le_refl _))
set_option maxRecDepth 20000 in
theorem OwnB.gr {B g : Nat} {v : Value} {F : List Bx3} {w w' : World} (h : OwnB B v F w) (hg : w.grownBy w' (some g)) (hB : g < B) : OwnB B v F w' := h.same (Same.gr hg hB (Nat.le_refl _))
set_option maxRecDepth 20000 in
theorem OwnB.cellsAt {B : Nat} {oo : Option Addr} {cc : Nat} {F : List Bx3} {w : World} (h : OwnB B (.slice oo F.length cc) F w) (hn : 0 < F.length) : ∃ gL, B ≤ gL ∧ gL < w.heap.size ∧ oo = some ⟨gL, 0, none⟩ ∧ ∀ j (hj : j < F.length), w.cell? ⟨gL, j * 3, none⟩ = some (.string F[j].n) ∧ w.cell? ⟨gL, j * 3 + 1, none⟩ = some (.string F[j].l) ∧ w.cell? ⟨gL, j * 3 + 2, none⟩ = some (.string F[j].d) := by
  rcases h.2 with ⟨h1, h0⟩ | ⟨g, cap', cur, h1, -⟩
  · omega
  · simp only [Value.slice.injEq] at h1
    obtain ⟨rfl, -⟩ := h1
    have hl := World.ownsRow.lt h g rfl
    refine ⟨g, hl.1, hl.2, rfl, fun j hj => ?_⟩
    have k := fun q u hu => World.ownsRow.cells h (g := g) rfl q u hu
    have e : ∀ q, ((⟨g, 0, none⟩ : Addr).add q) = ⟨g, q, none⟩ := fun q => by rw [Addr.add_lit, Nat.zero_add]
    obtain ⟨k0, k1, k2⟩ := bxCells_at F j hj
    have a0 := k _ _ k0
    have a1 := k _ _ k1
    have a2 := k _ _ k2
    rw [e] at a0 a1 a2
    exact ⟨a0, a1, a2⟩
set_option maxRecDepth 20000 in
theorem Tryz.infoBx : (Tryz.prog.info? 35).map (fun i => (i.zero, i.size, i.bytes)) = some (some (.agg #[.string ⟨#[]⟩, .string ⟨#[]⟩, .string ⟨#[]⟩]), 3, 48) := by kernel_rfl
set_option maxRecDepth 20000 in
theorem opAppB {w : World} {o : Oper} {a : Act} {K : Act → World → Prop} {Q : Exit → Act → World → Prop} (s x : Operand)
    (ho : o.op = .call { callee := .builtin .append, args := #[s, x], argTypes := #[30, 30] })
    (B : Nat) (v : Value) (C : List Bx3) (hs : a.eval s = v) (hown : OwnB B v C w) (R : List Bx3) (ad : Addr) (n c : Nat) (hx : a.eval x = .slice (some ad) n c) (hn : n = R.length) (hR : ∀ j u, (bxCells R)[j]? = some u → w.cell? (ad.add j) = some u) (hlen : C.length + R.length ≤ 10000) (hB : B ≤ w.heap.size)
    (h : ∀ v' w', OwnB B v' (C ++ R) w' → w.grownBy w' v.ownBlock → K (a.put o.dst v') w') : o.wp Tryz.prog a w K Q := by
  obtain ⟨i0, hi0, hz0, hz1, hz2⟩ := info_parts Tryz.infoBx
  subst hn
  unfold OwnB at hown
  have hone : ∀ u ∈ bxCells R, u.oneCell' = true := by
    intro u hu
    simp only [bxCells, List.mem_flatMap] at hu
    obtain ⟨m, _, hm⟩ := hu
    simp [bxC] at hm
    rcases hm with rfl | rfl | rfl <;> rfl
  obtain ⟨v', w', hr, h2, h3, h4, h5⟩ := run_append_own_at (P := Tryz.prog) w B 30 o.type 35 i0 _ 3 48 Tryz.underlying30 hi0 hz0 hz1 hz2 rfl (by decide) v C.length (bxCells C) hown ad R.length c (bxCells R) (bxCells_len R) hR hone (by unfold maxLen; omega) (by omega) hB
  unfold Oper.wp execOp
  simp only [ho, resolve, invoke, builtin, Sem.run_bind, Sem.run_pure, Result.andThen_ok, List.map_toArray, List.map_cons, List.map_nil, hs, hx, hr]
  refine h v' w' ?_ h3
  unfold OwnB
  rw [bxCells_join, List.length_append]
  exact h2
structure En where
  grp : Bool
  nm : ByteArray
  n : ByteArray
  l : ByteArray
  d : ByteArray
  mem : List Bx3
def En.ok (e : En) : Prop := e.nm.size ≤ 20 ∧ (e.n.size ≤ 20 ∧ e.l.size ≤ 20 ∧ e.d.size ≤ 20) ∧ e.mem.length ≤ 3 ∧ ∀ b ∈ e.mem, b.ok
abbrev EnE := En × Value
def enC (e : EnE) : List Value := [.bool e.1.grp, .string e.1.nm, .string e.1.n, .string e.1.l, .string e.1.d, e.2]
def enCells (E : List EnE) : List Value := E.flatMap enC
set_option maxRecDepth 20000 in
theorem enCells_len (L : List EnE) : (enCells L).length = L.length * 6 := by
  induction L with
  | nil => rfl
  | cons r t ih => simp only [enCells, enC, List.flatMap_cons, List.length_append, List.length_cons, List.length_nil] at ih ⊢; omega
set_option maxRecDepth 20000 in
theorem enCells_join (L R : List EnE) : enCells (L ++ R) = enCells L ++ enCells R := by simp [enCells]
set_option maxRecDepth 20000 in
theorem enCells_at (E : List EnE) : ∀ (i : Nat) (h : i < E.length), (enCells E)[i * 6]? = some (.bool E[i].1.grp) ∧ (enCells E)[i * 6 + 1]? = some (.string E[i].1.nm) ∧ (enCells E)[i * 6 + 2]? = some (.string E[i].1.n) ∧ (enCells E)[i * 6 + 3]? = some (.string E[i].1.l) ∧ (enCells E)[i * 6 + 4]? = some (.string E[i].1.d) ∧ (enCells E)[i * 6 + 5]? = some E[i].2 := by
  induction E with
  | nil => intro i h; exact absurd h (Nat.not_lt_zero _)
  | cons r t ih =>
    intro i h
    have e : enCells (r :: t) = .bool r.1.grp :: .string r.1.nm :: .string r.1.n :: .string r.1.l :: .string r.1.d :: r.2 :: enCells t := rfl
    rw [e]
    cases i with
    | zero => exact ⟨rfl, rfl, rfl, rfl, rfl, rfl⟩
    | succ i =>
      have := ih i (by simpa using h)
      rw [show (i + 1) * 6 = i * 6 + 1 + 1 + 1 + 1 + 1 + 1 by omega]
      simpa using this
structure Ens (B : Nat) (v : Value) (E : List EnE) (w : World) : Prop where
  row : w.ownsRow B 37 6 v E.length (enCells E)
  own : ∀ e ∈ E, OwnB B e.2 e.1.mem w
set_option maxRecDepth 20000 in
theorem Ens.made (B : Nat) (w : World) (hB : B ≤ w.heap.size) : Ens B (.slice (some ⟨w.heap.size, 0, none⟩) 0 0) [] (w.alloc (.cells #[] 37)) :=
  ⟨⟨rfl, .inr ⟨w.heap.size, 0, #[], rfl, hB, hp_alloc _ _, Nat.le_refl _, Nat.zero_le _, rfl, rfl⟩⟩, fun _ h => by simp at h⟩
set_option maxRecDepth 20000 in
theorem Ens.shape {B : Nat} {v : Value} {F : List EnE} {w : World} (h : Ens B v F w) : ∃ o c, v = .slice o F.length c := by
  rcases h.row.2 with ⟨hv, h0⟩ | ⟨g, cap, cur, hv, _⟩
  · exact ⟨none, 0, by rw [hv, h0]⟩
  · exact ⟨_, _, hv⟩
set_option maxRecDepth 20000 in
theorem Ens.same {B : Nat} {v : Value} {E : List EnE} {w w' : World} (h : Ens B v E w) (hs : Same B w.heap.size w w') : Ens B v E w' :=
  ⟨row_same h.row hs, fun e he => (h.own e he).same hs⟩
set_option maxRecDepth 20000 in
theorem Ens.below {B : Nat} {v : Value} {E : List EnE} {w w' : World} (h : Ens B v E w) (hb : Below w.heap.size w w') : Ens B v E w' := h.same (Same.of_below hb (Nat.le_refl _))
set_option maxRecDepth 20000 in
theorem Ens.gr {B g : Nat} {v : Value} {E : List EnE} {w w' : World} (h : Ens B v E w) (hg : w.grownBy w' (some g)) (hB : g < B) : Ens B v E w' := h.same (Same.gr hg hB (Nat.le_refl _))
set_option maxRecDepth 20000 in
theorem Ens.cellsAt {B : Nat} {oo : Option Addr} {cc : Nat} {F : List EnE} {w : World} (h : Ens B (.slice oo F.length cc) F w) (hn : 0 < F.length) : ∃ gL, gL < w.heap.size ∧ oo = some ⟨gL, 0, none⟩ ∧ ∀ j (hj : j < F.length), w.cell? ⟨gL, j * 6, none⟩ = some (.bool F[j].1.grp) ∧ w.cell? ⟨gL, j * 6 + 1, none⟩ = some (.string F[j].1.nm) ∧ w.cell? ⟨gL, j * 6 + 2, none⟩ = some (.string F[j].1.n) ∧ w.cell? ⟨gL, j * 6 + 3, none⟩ = some (.string F[j].1.l) ∧ w.cell? ⟨gL, j * 6 + 4, none⟩ = some (.string F[j].1.d) ∧ w.cell? ⟨gL, j * 6 + 5, none⟩ = some F[j].2 := by
  rcases h.row.2 with ⟨h1, h0⟩ | ⟨g, cap', cur, h1, -⟩
  · omega
  · simp only [Value.slice.injEq] at h1
    obtain ⟨rfl, -⟩ := h1
    have hl := World.ownsRow.lt h.row g rfl
    refine ⟨g, hl.2, rfl, fun j hj => ?_⟩
    have k := fun q u hu => World.ownsRow.cells h.row (g := g) rfl q u hu
    have e : ∀ q, ((⟨g, 0, none⟩ : Addr).add q) = ⟨g, q, none⟩ := fun q => by rw [Addr.add_lit, Nat.zero_add]
    obtain ⟨k0, k1, k2, k3, k4, k5⟩ := enCells_at F j hj
    have a0 := k _ _ k0
    have a1 := k _ _ k1
    have a2 := k _ _ k2
    have a3 := k _ _ k3
    have a4 := k _ _ k4
    have a5 := k _ _ k5
    rw [e] at a0 a1 a2 a3 a4 a5
    exact ⟨a0, a1, a2, a3, a4, a5⟩
set_option maxRecDepth 20000 in
theorem Tryz.infoEn : (Tryz.prog.info? 37).map (fun i => (i.zero, i.size, i.bytes)) = some (some (.agg #[.bool false, .string ⟨#[]⟩, .string ⟨#[]⟩, .string ⟨#[]⟩, .string ⟨#[]⟩, .slice none 0 0]), 6, 96) := by kernel_rfl
set_option maxRecDepth 20000 in
/-- An append of an entry. -/
theorem wp_appEn {w : World} {ops : Array Oper} {rest : List Oper} {o : Oper} {a : Act} {Q : Exit → Act → World → Prop} (hgd : o.guard = none) (s x : Operand)
    (ho : o.op = .call { callee := .builtin .append, args := #[s, x], argTypes := #[23, 23] })
    (B : Nat) (v : Value) (C : List EnE) (hs : a.eval s = v) (hown : Ens B v C w) (R : List EnE) (ad : Addr)
    (n c : Nat) (hx : a.eval x = .slice (some ad) n c) (hn : n = R.length) (hR : ∀ j u, (enCells R)[j]? = some u → w.cell? (ad.add j) = some u) (hRo : ∀ e ∈ R, OwnB B e.2 e.1.mem w) (hlen : C.length + R.length ≤ 10000) (hB : B ≤ w.heap.size)
    (h : ∀ v' w', Ens B v' (C ++ R) w' → w.grownBy w' v.ownBlock → wpList Tryz.prog ops Q rest (a.put o.dst v') w') : wpList Tryz.prog ops Q (o :: rest) a w := by
  obtain ⟨i0, hi0, hz0, hz1, hz2⟩ := info_parts Tryz.infoEn
  subst hn
  have hone : ∀ u ∈ enCells R, u.oneCell' = true := by
    intro u hu
    simp only [enCells, List.mem_flatMap] at hu
    obtain ⟨m, hm0, hm⟩ := hu
    obtain ⟨oo, cc, hv⟩ := (hRo m hm0).shape
    simp [enC] at hm
    rcases hm with rfl | rfl | rfl | rfl | rfl | rfl
    · rfl
    · rfl
    · rfl
    · rfl
    · rfl
    · rw [hv]; rfl
  refine wpList_append_own _ hgd s x 23 ho B 37 i0 _ 6 96 Tryz.underlying23 hi0 hz0 hz1 hz2 rfl (by decide) v C.length (enCells C) hs hown.row ad R.length c (enCells R) hx
    (enCells_len R) hR hone (by unfold maxLen; omega) (by omega) hB ?_
  intro v' w' h1 h2 _
  refine h v' w' ⟨?_, ?_⟩ h2
  · rw [enCells_join, List.length_append]
    exact h1
  · intro e he
    have hx0 : OwnB B e.2 e.1.mem w := by
      rcases List.mem_append.1 he with he | he
      · exact hown.own e he
      · exact hRo e he
    exact World.ownsRow.kept hx0 h2 (own_apartA (show w.ownsRow B 35 3 _ _ _ from hx0) hown.row (by decide))
end Go.Proofs.YtadoifnfgoonaaaGreatDoor
namespace Go.Proofs.YtadoifnfgoonaaaGreatDoor
open Go.RowKit Go.Lib
set_option maxRecDepth 20000 in
theorem tri_cells {w : World} {g : Nat} {x y z : Value} {ty : TypeId} {f : Nat × Nat} (h : w.heap[g]? = some (.cells #[x, y, z] ty f)) : w.cell? ⟨g, 0, none⟩ = some x ∧ w.cell? ⟨g, 1, none⟩ = some y ∧ w.cell? ⟨g, 2, none⟩ = some z := by
  refine ⟨?_, ?_, ?_⟩ <;> simp [World.cell?, h]
set_option maxRecDepth 20000 in
/-- An append of a box. -/
theorem wp_appBx {w : World} {ops : Array Oper} {rest : List Oper} {o : Oper} {a : Act} {Q : Exit → Act → World → Prop} (hgd : o.guard = none) (s x : Operand)
    (ho : o.op = .call { callee := .builtin .append, args := #[s, x], argTypes := #[30, 30] })
    (B : Nat) (v : Value) (C : List Bx3) (hs : a.eval s = v) (hown : OwnB B v C w) (b : Bx3) (b0 : Nat)
    (c : Nat) (hx : a.eval x = .slice (some ⟨b0, 0, none⟩) 1 c) (hA : w.heap[b0]? = some (.cells #[.string b.n, .string b.l, .string b.d] 35 (0, 0))) (hlen : C.length ≤ 1000) (hB : B ≤ w.heap.size)
    (h : ∀ v' w', OwnB B v' (C ++ [b]) w' → Below B w w' → wpList Tryz.prog ops Q rest (a.put o.dst v') w') : wpList Tryz.prog ops Q (o :: rest) a w := by
  obtain ⟨i0, hi0, hz0, hz1, hz2⟩ := info_parts Tryz.infoBx
  unfold OwnB at hown
  refine wpList_append_own _ hgd s x 30 ho B 35 i0 _ 3 48 Tryz.underlying30 hi0 hz0 hz1 hz2 rfl (by decide) v C.length (bxCells C) hs hown ⟨b0, 0, none⟩ 1 c (bxCells [b]) hx
    rfl (by
      intro j u hj
      rw [Addr.add_lit, Nat.zero_add]
      have hh := tri_cells hA
      match j, hj with
      | 0, hj => cases hj; exact hh.1
      | 1, hj => cases hj; exact hh.2.1
      | 2, hj => cases hj; exact hh.2.2) (by
      intro u hu
      simp [bxCells, bxC] at hu
      rcases hu with rfl | rfl | rfl <;> rfl) (by unfold maxLen; omega) (by omega) hB ?_
  intro v' w' h1 h2 _
  refine h v' w' ?_ ⟨h2.os, h2.tape, h2.output, h2.size, fun k hk => ?_⟩
  · unfold OwnB
    rw [bxCells_join, List.length_append]
    exact h1
  · exact h2.block k (by omega) (fun e => by have := (World.ownsRow.lt hown k e.symm).1; omega)
set_option maxRecDepth 20000 in
theorem Bxk.hd {L K : List (Nat × ByteArray)} {n l d : ByteArray} (h : Bxk L K n l d) : isWd (hdT K) = true := by
  cases h with
  | plain Q K l d h => exact adK_hd h L
  | named P Q K n l d hP hW hlen hn h =>
    match P, hP with
    | p :: r, _ => exact List.all_eq_true.1 hW p List.mem_cons_self
set_option maxRecDepth 20000 in
theorem dotK_len (Q : List (Nat × ByteArray)) (h : Q ≠ []) : 1 ≤ (dotK Q).length := by
  match Q, h with
  | [p], _ => simp [dotK]
  | p :: a :: r, _ => simp [dotK]
set_option maxRecDepth 20000 in
theorem Bxk.shorter {L K : List (Nat × ByteArray)} {n l d : ByteArray} (h : Bxk L K n l d) : L.length < K.length := by
  cases h with
  | plain Q K l d h => simp [adK]; omega
  | named P Q K n l d hP hW hlen hn h => simp [adK]; omega
/-- A group's members as tokens, up to its end. -/
inductive Mbk (L : List (Nat × ByteArray)) : List (Nat × ByteArray) → List Bx3 → Prop
  | fin : Mbk L ((5, ⟨#[59]⟩) :: L) []
  | comma (K : List (Nat × ByteArray)) (M : List Bx3) (h : Mbk L K M) : Mbk L ((5, ⟨#[44]⟩) :: K) M
  | box (K R : List (Nat × ByteArray)) (b : Bx3) (M : List Bx3) (hb : Bxk R K b.n b.l b.d) (hok : addrOk b.n b.l b.d = true) (hR : hdT R = (5, ⟨#[44]⟩) ∨ hdT R = (5, ⟨#[59]⟩)) (h : Mbk L R M) : Mbk L K (b :: M)
set_option maxRecDepth 20000 in
set_option maxHeartbeats 8000000 in
theorem rsMembers {B g k : Nat} {T : List Tk} {s : ByteArray} {q : Nat × Nat} {w : World} (hT : Ts T s) (K' L : List (Nat × ByteArray)) (M : List Bx3) (hX : Mbk L K' M) (h : Rs B T g s q K' k w) (hk : k + M.length ≤ 499) (m : Int) (hm : w.cell? ⟨1, 0, none⟩ = some (.int .i64 m)) (hgm : g ≠ 1) :
    Calls Tryz.prog 108 #[scp g] w fun e w' => ∃ v, e = .returned (.tuple #[v, .nilIface]) ∧ OwnB w.heap.size v M w' ∧ Rs B T g s q L (k + M.length) w' ∧ w.grownBy w' (some g) := by
  have hgl := h.glt
  have hql := h.qlt
  have hml : 1 < w.heap.size := World.block_lt_of_cell? _ _ hm
  have HR := mkHid h
  have HX := mkHid hX
  have Hm : Hid (∀ W, w.grownBy W (some g) → W.cell? ⟨1, 0, none⟩ = some (.int .i64 m)) := mkHid (fun W hg => (World.cell?_of_block (a := ⟨1, 0, none⟩) (hg.block 1 hml (fun e => hgm (Option.some.inj e).symm))).trans hm)
  clear h hX hm
  go_enter Tryz.func108, Tryz.ntmps108
  go_wp2
  go_loopw [4] (fun v wr => ∃ (D E : List Bx3) (K : List (Nat × ByteArray)), Hid (D ++ E = M) ∧ Hid (Mbk L K E) ∧ Hid (OwnB w.heap.size v D wr) ∧ Hid (Rs B T g s q K (k + D.length) wr) ∧ Hid (w.grownBy wr (some g))) (fun _ wr => T.length - nextOf wr g)
  case atStart => exact ⟨[], M, K', rfl, HX, OwnB.nil _ _, HR, grown_refl _ _⟩
  case round =>
    clear HR HX
    obtain ⟨D, E, K, HDE, HX, Hown, HR, Hgr⟩ := hrel
    have Hmeas : Hid (T.length - nextOf wr g = K.length) := mkHid HR.out.next
    have hwr : w.heap.size ≤ wr.heap.size := Hgr.out.size
    have hDl : D.length + E.length = M.length := by rw [← HDE.out, List.length_append]
    cases HX.out with
    | fin =>
      have cY := mkHid (rsTakeYes hT ⟨#[59]⟩ L HR.out)
      have hDM : D = M := by simpa using HDE.out
      clear HX HDE Hmeas hDl
      go_wp2_with fail
      refine cY.out.mono ?_
      rintro e w1 ⟨rfl, hR1, hg1⟩
      have HR1 := mkHid hR1
      have HO1 := mkHid (Hown.out.gr hg1 hgl)
      have Hg1 := mkHid (grown_trans Hgr.out hg1)
      rw [hDM] at HR1 HO1
      clear cY hR1 hg1 Hown Hgr HR hDM
      go_wp2
      refine bodyPost_ret (v := .tuple #[u4, .nilIface]) (by rw [results_tmp2 Tryz.results108]; rfl) rfl ?_
      exact ⟨u4, rfl, HO1.out, HR1.out, Hg1.out⟩
    | comma K2 E2 h2 =>
      have cN := mkHid (rsTakeNo hT HR.out ⟨#[59]⟩ (sgNe 44 59 (by decide)))
      have H2 := mkHid h2
      clear HX h2
      go_wp2_with fail
      refine cN.out.mono ?_
      rintro e w1 ⟨rfl, hb1⟩
      have HO1 := mkHid (Hown.out.below hb1)
      have Hg1 := mkHid (gr_lowB Hgr.out hb1 hwr)
      have cY := mkHid (rsTakeYes hT ⟨#[44]⟩ K2 (HR.out.below hb1))
      clear cN hb1 Hown Hgr HR
      go_wp2_with fail
      refine cY.out.mono ?_
      rintro e w2 ⟨rfl, hR2, hg2⟩
      have HR2 := mkHid hR2
      have HO2 := mkHid (HO1.out.gr hg2 hgl)
      have Hg2 := mkHid (grown_trans Hg1.out hg2)
      clear cY hR2 hg2 HO1 Hg1
      go_wp2
      refine ⟨⟨D, E, K2, HDE, H2, HO2, HR2, Hg2⟩, ?_⟩
      rw [HR2.out.next, Hmeas.out, List.length_cons]
      omega
    | box K2 R b E2 hb hok hRh h2 =>
      have hhd := hb.hd
      have hEl : D.length + 1 ≤ M.length := by rw [List.length_cons] at hDl; omega
      have cN := mkHid (rsTakeNo hT HR.out ⟨#[59]⟩ (isWd_sg _ _ hhd))
      have HDE2 : Hid ((D ++ [b]) ++ E2 = M) := mkHid (by rw [← HDE.out]; simp)
      have Hb := mkHid hb
      have Hok := mkHid hok
      have HRh := mkHid hRh
      have H2 := mkHid h2
      have hsg : isSg (hdT R) ⟨#[46]⟩ = false := by rcases hRh with e | e <;> rw [e]; exact sgNe 44 46 (by decide); exact sgNe 59 46 (by decide)
      clear HX HDE hb hok hRh h2
      go_wp2_with fail
      refine cN.out.mono ?_
      rintro e w1 ⟨rfl, hb1⟩
      have HO1 := mkHid (Hown.out.below hb1)
      have Hg1 := mkHid (gr_lowB Hgr.out hb1 hwr)
      have HR1 := mkHid (HR.out.below hb1)
      have hs1 := Hg1.out.size
      have cN2 := mkHid (rsTakeNo hT HR1.out ⟨#[44]⟩ (isWd_sg _ _ hhd))
      clear cN hb1 Hown Hgr HR hhd
      go_wp2_with fail
      refine cN2.out.mono ?_
      rintro e w2 ⟨rfl, hb2⟩
      have HO2 := mkHid (HO1.out.below hb2)
      have Hg2 := mkHid (gr_lowB Hg1.out hb2 hs1)
      have HR2 := mkHid (HR1.out.below hb2)
      have cB := mkHid (rsBox hT K R b.n b.l b.d Hb.out HR2.out hsg (by omega) Hok.out m (Hm.out w2 Hg2.out) hgm)
      clear cN2 hb2 HO1 Hg1 HR1 hs1
      go_wp2_with fail
      refine cB.out.mono ?_
      rintro e w3 ⟨rfl, hR3, hg3⟩
      have HO3 := mkHid (HO2.out.gr hg3 hgl)
      have Hg3 := mkHid (grown_trans Hg2.out hg3)
      have hs3 := Hg3.out.size
      obtain ⟨W4, hW4⟩ : ∃ W, W = w3.alloc (.cells #[.string b.n, .string b.l, .string b.d] 35) := ⟨_, rfl⟩
      have hb4 : Below w3.heap.size w3 W4 := by rw [hW4]; exact (Below.refl _ _).alloc (Nat.le_refl _) _
      have hB4 : W4.heap[w3.heap.size]? = some (.cells #[.string b.n, .string b.l, .string b.d] 35 (0, 0)) := by rw [hW4]; exact hp_alloc _ _
      have HO4 := mkHid (HO3.out.below hb4)
      have Hg4 := mkHid (gr_lowB Hg3.out hb4 hs3)
      have HR4 := mkHid (hR3.below hb4)
      have hs4 : w.heap.size ≤ W4.heap.size := Hg4.out.size
      have HB4 := mkHid hB4
      obtain ⟨W4b, hW4b⟩ : ∃ W, W = W4.alloc (.cells #[.string b.n, .string b.l, .string b.d] 35) := ⟨_, rfl⟩
      have hb4b : Below W4.heap.size W4 W4b := by rw [hW4b]; exact (Below.refl _ _).alloc (Nat.le_refl _) _
      have hN4 : W4b.heap[w3.heap.size + 1]? = some (.cells #[.string b.n, .string b.l, .string b.d] 35 (0, 0)) := by
        rw [hW4b]
        have := hp_alloc W4 (.cells #[.string b.n, .string b.l, .string b.d] 35)
        rwa [hW4, World.size_alloc, ← hW4] at this
      have HO4b := mkHid (HO4.out.below hb4b)
      have Hg4b := mkHid (gr_lowB Hg4.out hb4b hs4)
      have HR4b := mkHid (HR4.out.below hb4b)
      have hs4b : w.heap.size ≤ W4b.heap.size := Hg4b.out.size
      have HN4 := mkHid hN4
      rw [hW4] at HB4 hW4b
      have HW4b := mkHid hW4b
      rw [hW4b] at HN4 HO4b hs4b
      clear cB hR3 hg3 HO2 Hg2 HR2 hb4 hB4 hW4 HO3 Hg3 hs3 hb4b hN4 HO4 Hg4 HR4 hs4 hW4b
      go_wp2_with (first | (refine wpL_load_row rfl 35 _ rfl w3.heap.size #[.string b.n, .string b.l, .string b.d] 35 (0, 0) _ rfl HB4.out Tryz.underlying35 rfl (by kernel_rfl) ?_) | (at_builtin; refine wp_appBx rfl _ _ rfl w.heap.size u4 D rfl HO4b.out b (w3.heap.size + 1) _ rfl HN4.out (by omega) hs4b ?_; intro v5 w5 hown5 hb5; refine Hid.out ?_))
      refine mkHid ?_
      rw [← HW4b.out] at hb5
      have HO5 := mkHid hown5
      have Hg5 := mkHid (gr_lowB Hg4b.out hb5 (Nat.le_refl _))
      have HR5 := mkHid (HR4b.out.lowB hgl hql hb5)
      have hs5 := Hg5.out.size
      clear hown5 hb5 HB4 HO4b Hg4b HR4b HW4b hs4b HN4
      rcases HRh.out with hc | hc
      · have cS := mkHid (rsSign hT HR5.out ⟨#[44]⟩ true (by rw [hc]; exact sgEq 44))
        clear HRh hc
        go_wp2_with fail
        refine cS.out.mono ?_
        rintro e w6 ⟨rfl, hb6⟩
        have HO6 := mkHid (HO5.out.below hb6)
        have Hg6 := mkHid (gr_lowB Hg5.out hb6 hs5)
        have HR6 := mkHid (HR5.out.below hb6)
        clear cS hb6 HO5 Hg5 HR5
        go_wp2
        refine ⟨⟨D ++ [b], E2, R, HDE2, H2, HO6, mkHid (by rw [List.length_append]; exact HR6.out), Hg6⟩, ?_⟩
        rw [HR6.out.next, Hmeas.out]
        exact Hb.out.shorter
      · have cS := mkHid (rsSign hT HR5.out ⟨#[44]⟩ false (by rw [hc]; exact sgNe 59 44 (by decide)))
        clear HRh
        go_wp2_with fail
        refine cS.out.mono ?_
        rintro e w6 ⟨rfl, hb6⟩
        have HO6 := mkHid (HO5.out.below hb6)
        have Hg6 := mkHid (gr_lowB Hg5.out hb6 hs5)
        have HR6 := mkHid (HR5.out.below hb6)
        have hs6 := Hg6.out.size
        have cS2 := mkHid (rsSign hT HR6.out ⟨#[59]⟩ true (by rw [hc]; exact sgEq 59))
        clear cS hb6 HO5 Hg5 HR5 hc
        go_wp2_with fail
        refine cS2.out.mono ?_
        rintro e w7 ⟨rfl, hb7⟩
        have HO7 := mkHid (HO6.out.below hb7)
        have Hg7 := mkHid (gr_lowB Hg6.out hb7 hs6)
        have HR7 := mkHid (HR6.out.below hb7)
        clear cS2 hb7 HO6 Hg6 HR6
        go_wp2
        refine ⟨⟨D ++ [b], E2, R, HDE2, H2, HO7, mkHid (by rw [List.length_append]; exact HR7.out), Hg7⟩, ?_⟩
        rw [HR7.out.next, Hmeas.out]
        exact Hb.out.shorter
end Go.Proofs.YtadoifnfgoonaaaGreatDoor
