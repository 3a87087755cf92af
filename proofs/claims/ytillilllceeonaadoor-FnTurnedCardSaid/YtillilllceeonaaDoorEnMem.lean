
/- Drawn entries in memory: boxes in a row, entries in a row, each with a row of boxes. -/
import Derived.Test.YtillilllceeonaaDoorDrawOpC
namespace Go.Proofs.YtillilllceeonaaDoor
open Go.RowKit Go.Lib Go.Maps
structure Bx3 where
  n : ByteArray
  l : ByteArray
  d : ByteArray
def Bx3.ok (b : Bx3) : Prop := b.n.size ≤ 20 ∧ b.l.size ≤ 20 ∧ b.d.size ≤ 20
def bxC (b : Bx3) : List Value := [.string b.n, .string b.l, .string b.d]
def bxCells (L : List Bx3) : List Value := L.flatMap bxC
set_option maxRecDepth 20000 in
theorem bxCells_len (L : List Bx3) : (bxCells L).length = L.length * 3 := by
  induction L with
  | nil => rfl
  | cons r t ih => simp only [bxCells, bxC, List.flatMap_cons, List.length_append, List.length_cons, List.length_nil] at ih ⊢; omega
set_option maxRecDepth 20000 in
theorem bxCells_join (L R : List Bx3) : bxCells (L ++ R) = bxCells L ++ bxCells R := by simp [bxCells]
set_option maxRecDepth 20000 in
theorem bxCells_at (E : List Bx3) : ∀ (i : Nat) (h : i < E.length), (bxCells E)[i * 3]? = some (.string E[i].n) ∧ (bxCells E)[i * 3 + 1]? = some (.string E[i].l) ∧ (bxCells E)[i * 3 + 2]? = some (.string E[i].d) := by
  induction E with
  | nil => intro i h; exact absurd h (Nat.not_lt_zero _)
  | cons r t ih =>
    intro i h
    have e : bxCells (r :: t) = .string r.n :: .string r.l :: .string r.d :: bxCells t := rfl
    rw [e]
    cases i with
    | zero => exact ⟨rfl, rfl, rfl⟩
    | succ i =>
      have := ih i (by simpa using h)
      rw [show (i + 1) * 3 = i * 3 + 1 + 1 + 1 by omega]
      simpa using this
def OwnB (B : Nat) (v : Value) (L : List Bx3) (w : World) : Prop := w.ownsRow B 107 3 v L.length (bxCells L)
set_option maxRecDepth 20000 in
theorem OwnB.nil (B : Nat) (w : World) : OwnB B (.slice none 0 0) [] w := World.ownsRow_nil w B _ 3
set_option maxRecDepth 20000 in
theorem OwnB.shape {B : Nat} {v : Value} {F : List Bx3} {w : World} (h : OwnB B v F w) : ∃ o c, v = .slice o F.length c := by
  rcases h.2 with ⟨hv, h0⟩ | ⟨g, cap, cur, hv, _⟩
  · exact ⟨none, 0, by rw [hv, h0]⟩
  · exact ⟨_, _, hv⟩
set_option maxRecDepth 20000 in
theorem OwnB.base {B B' : Nat} {v : Value} {F : List Bx3} {w : World} (h : OwnB B v F w) (hB : B' ≤ B) : OwnB B' v F w := by
  refine ⟨h.1, ?_⟩
  rcases h.2 with h0 | ⟨g, cap, cur, hv, hg, hr⟩
  · exact .inl h0
  · exact .inr ⟨g, cap, cur, hv, Nat.le_trans hB hg, hr⟩
set_option maxRecDepth 20000 in
theorem OwnB.same {B : Nat} {v : Value} {F : List Bx3} {w w' : World} (h : OwnB B v F w) (hs : Same B w.heap.size w w') : OwnB B v F w' := row_same h hs
set_option maxRecDepth 20000 in
theorem OwnB.below {B : Nat} {v : Value} {F : List Bx3} {w w' : World} (h : OwnB B v F w) (hb : Below w.heap.size w w') : OwnB B v F w' := h.same (Same.of_below hb (Nat.le_refl _))
set_option maxRecDepth 20000 in
theorem OwnB.gr {B g : Nat} {v : Value} {F : List Bx3} {w w' : World} (h : OwnB B v F w) (hg : w.grownBy w' (some g)) (hB : g < B) : OwnB B v F w' := h.same (Same.gr hg hB (Nat.le_refl _))
set_option maxRecDepth 20000 in
theorem OwnB.cellsAt {B : Nat} {oo : Option Addr} {cc : Nat} {F : List Bx3} {w : World} (h : OwnB B (.slice oo F.length cc) F w) (hn : 0 < F.length) : ∃ gL, B ≤ gL ∧ gL < w.heap.size ∧ oo = some ⟨gL, 0, none⟩ ∧ ∀ j (hj : j < F.length), w.cell? ⟨gL, j * 3, none⟩ = some (.string F[j].n) ∧ w.cell? ⟨gL, j * 3 + 1, none⟩ = some (.string F[j].l) ∧ w.cell? ⟨gL, j * 3 + 2, none⟩ = some (.string F[j].d) := by
  rcases h.2 with ⟨h1, h0⟩ | ⟨g, cap', cur, h1, -⟩
  · omega
  · simp only [Value.slice.injEq] at h1
    obtain ⟨rfl, -⟩ := h1
    have hl := World.ownsRow.lt h g rfl
    refine ⟨g, hl.1, hl.2, rfl, fun j hj => ?_⟩
    have k := fun q u hu => World.ownsRow.cells h (g := g) rfl q u hu
    have e : ∀ q, ((⟨g, 0, none⟩ : Addr).add q) = ⟨g, q, none⟩ := fun q => by rw [Addr.add_lit, Nat.zero_add]
    obtain ⟨k0, k1, k2⟩ := bxCells_at F j hj
    have a0 := k _ _ k0
    have a1 := k _ _ k1
    have a2 := k _ _ k2
    rw [e] at a0 a1 a2
    exact ⟨a0, a1, a2⟩
set_option maxRecDepth 20000 in
theorem Tryd.infoBx : (Tryd.prog.info? 107).map (fun i => (i.zero, i.size, i.bytes)) = some (some (.agg #[.string ⟨#[]⟩, .string ⟨#[]⟩, .string ⟨#[]⟩]), 3, 48) := by kernel_rfl
set_option maxRecDepth 20000 in
theorem opAppB {w : World} {o : Oper} {a : Act} {K : Act → World → Prop} {Q : Exit → Act → World → Prop} (s x : Operand)
    (ho : o.op = .call { callee := .builtin .append, args := #[s, x], argTypes := #[108, 108] })
    (B : Nat) (v : Value) (C : List Bx3) (hs : a.eval s = v) (hown : OwnB B v C w) (R : List Bx3) (ad : Addr) (n c : Nat) (hx : a.eval x = .slice (some ad) n c) (hn : n = R.length) (hR : ∀ j u, (bxCells R)[j]? = some u → w.cell? (ad.add j) = some u) (hlen : C.length + R.length ≤ 10000) (hB : B ≤ w.heap.size)
    (h : ∀ v' w', OwnB B v' (C ++ R) w' → w.grownBy w' v.ownBlock → K (a.put o.dst v') w') : o.wp Tryd.prog a w K Q := by
  obtain ⟨i0, hi0, hz0, hz1, hz2⟩ := info_parts Tryd.infoBx
  subst hn
  unfold OwnB at hown
  have hone : ∀ u ∈ bxCells R, u.oneCell' = true := by
    intro u hu
    simp only [bxCells, List.mem_flatMap] at hu
    obtain ⟨m, _, hm⟩ := hu
    simp [bxC] at hm
    rcases hm with rfl | rfl | rfl <;> rfl
  obtain ⟨v', w', hr, h2, h3, h4, h5⟩ := run_append_own_at (P := Tryd.prog) w B 108 o.type 107 i0 _ 3 48 Tryd.underlying108 hi0 hz0 hz1 hz2 rfl (by decide) v C.length (bxCells C) hown ad R.length c (bxCells R) (bxCells_len R) hR hone (by unfold maxLen; omega) (by omega) hB
  unfold Oper.wp execOp
  simp only [ho, resolve, invoke, builtin, Sem.run_bind, Sem.run_pure, Result.andThen_ok, List.map_toArray, List.map_cons, List.map_nil, hs, hx, hr]
  refine h v' w' ?_ h3
  unfold OwnB
  rw [bxCells_join, List.length_append]
  exact h2
structure En where
  grp : Bool
  nm : ByteArray
  n : ByteArray
  l : ByteArray
  d : ByteArray
  mem : List Bx3
def En.ok (e : En) : Prop := e.nm.size ≤ 20 ∧ (e.n.size ≤ 20 ∧ e.l.size ≤ 20 ∧ e.d.size ≤ 20) ∧ e.mem.length ≤ 3 ∧ ∀ b ∈ e.mem, b.ok
abbrev EnE := En × Value
def enC (e : EnE) : List Value := [.bool e.1.grp, .string e.1.nm, .string e.1.n, .string e.1.l, .string e.1.d, e.2]
def enCells (E : List EnE) : List Value := E.flatMap enC
set_option maxRecDepth 20000 in
theorem enCells_len (L : List EnE) : (enCells L).length = L.length * 6 := by
  induction L with
  | nil => rfl
  | cons r t ih => simp only [enCells, enC, List.flatMap_cons, List.length_append, List.length_cons, List.length_nil] at ih ⊢; omega
set_option maxRecDepth 20000 in
theorem enCells_join (L R : List EnE) : enCells (L ++ R) = enCells L ++ enCells R := by simp [enCells]
set_option maxRecDepth 20000 in
theorem enCells_at (E : List EnE) : ∀ (i : Nat) (h : i < E.length), (enCells E)[i * 6]? = some (.bool E[i].1.grp) ∧ (enCells E)[i * 6 + 1]? = some (.string E[i].1.nm) ∧ (enCells E)[i * 6 + 2]? = some (.string E[i].1.n) ∧ (enCells E)[i * 6 + 3]? = some (.string E[i].1.l) ∧ (enCells E)[i * 6 + 4]? = some (.string E[i].1.d) ∧ (enCells E)[i * 6 + 5]? = some E[i].2 := by
  induction E with
  | nil => intro i h; exact absurd h (Nat.not_lt_zero _)
  | cons r t ih =>
    intro i h
    have e : enCells (r :: t) = .bool r.1.grp :: .string r.1.nm :: .string r.1.n :: .string r.1.l :: .string r.1.d :: r.2 :: enCells t := rfl
    rw [e]
    cases i with
    | zero => exact ⟨rfl, rfl, rfl, rfl, rfl, rfl⟩
    | succ i =>
      have := ih i (by simpa using h)
      rw [show (i + 1) * 6 = i * 6 + 1 + 1 + 1 + 1 + 1 + 1 by omega]
      simpa using this
structure Ens (B : Nat) (v : Value) (E : List EnE) (w : World) : Prop where
  row : w.ownsRow B 110 6 v E.length (enCells E)
  own : ∀ e ∈ E, OwnB B e.2 e.1.mem w
set_option maxRecDepth 20000 in
theorem Ens.made (B : Nat) (w : World) (hB : B ≤ w.heap.size) : Ens B (.slice (some ⟨w.heap.size, 0, none⟩) 0 0) [] (w.alloc (.cells #[] 110)) :=
  ⟨⟨rfl, .inr ⟨w.heap.size, 0, #[], rfl, hB, hp_alloc _ _, Nat.le_refl _, Nat.zero_le _, rfl, rfl⟩⟩, fun _ h => by simp at h⟩
set_option maxRecDepth 20000 in
theorem Ens.shape {B : Nat} {v : Value} {F : List EnE} {w : World} (h : Ens B v F w) : ∃ o c, v = .slice o F.length c := by
  rcases h.row.2 with ⟨hv, h0⟩ | ⟨g, cap, cur, hv, _⟩
  · exact ⟨none, 0, by rw [hv, h0]⟩
  · exact ⟨_, _, hv⟩
set_option maxRecDepth 20000 in
theorem Ens.same {B : Nat} {v : Value} {E : List EnE} {w w' : World} (h : Ens B v E w) (hs : Same B w.heap.size w w') : Ens B v E w' :=
  ⟨row_same h.row hs, fun e he => (h.own e he).same hs⟩
set_option maxRecDepth 20000 in
theorem Ens.below {B : Nat} {v : Value} {E : List EnE} {w w' : World} (h : Ens B v E w) (hb : Below w.heap.size w w') : Ens B v E w' := h.same (Same.of_below hb (Nat.le_refl _))
set_option maxRecDepth 20000 in
theorem Ens.gr {B g : Nat} {v : Value} {E : List EnE} {w w' : World} (h : Ens B v E w) (hg : w.grownBy w' (some g)) (hB : g < B) : Ens B v E w' := h.same (Same.gr hg hB (Nat.le_refl _))
set_option maxRecDepth 20000 in
theorem Ens.cellsAt {B : Nat} {oo : Option Addr} {cc : Nat} {F : List EnE} {w : World} (h : Ens B (.slice oo F.length cc) F w) (hn : 0 < F.length) : ∃ gL, gL < w.heap.size ∧ oo = some ⟨gL, 0, none⟩ ∧ ∀ j (hj : j < F.length), w.cell? ⟨gL, j * 6, none⟩ = some (.bool F[j].1.grp) ∧ w.cell? ⟨gL, j * 6 + 1, none⟩ = some (.string F[j].1.nm) ∧ w.cell? ⟨gL, j * 6 + 2, none⟩ = some (.string F[j].1.n) ∧ w.cell? ⟨gL, j * 6 + 3, none⟩ = some (.string F[j].1.l) ∧ w.cell? ⟨gL, j * 6 + 4, none⟩ = some (.string F[j].1.d) ∧ w.cell? ⟨gL, j * 6 + 5, none⟩ = some F[j].2 := by
  rcases h.row.2 with ⟨h1, h0⟩ | ⟨g, cap', cur, h1, -⟩
  · omega
  · simp only [Value.slice.injEq] at h1
    obtain ⟨rfl, -⟩ := h1
    have hl := World.ownsRow.lt h.row g rfl
    refine ⟨g, hl.2, rfl, fun j hj => ?_⟩
    have k := fun q u hu => World.ownsRow.cells h.row (g := g) rfl q u hu
    have e : ∀ q, ((⟨g, 0, none⟩ : Addr).add q) = ⟨g, q, none⟩ := fun q => by rw [Addr.add_lit, Nat.zero_add]
    obtain ⟨k0, k1, k2, k3, k4, k5⟩ := enCells_at F j hj
    have a0 := k _ _ k0
    have a1 := k _ _ k1
    have a2 := k _ _ k2
    have a3 := k _ _ k3
    have a4 := k _ _ k4
    have a5 := k _ _ k5
    rw [e] at a0 a1 a2 a3 a4 a5
    exact ⟨a0, a1, a2, a3, a4, a5⟩
set_option maxRecDepth 20000 in
theorem Tryd.infoEn : (Tryd.prog.info? 110).map (fun i => (i.zero, i.size, i.bytes)) = some (some (.agg #[.bool false, .string ⟨#[]⟩, .string ⟨#[]⟩, .string ⟨#[]⟩, .string ⟨#[]⟩, .slice none 0 0]), 6, 96) := by kernel_rfl
set_option maxRecDepth 20000 in
/-- An append of an entry. -/
theorem wp_appEn {w : World} {ops : Array Oper} {rest : List Oper} {o : Oper} {a : Act} {Q : Exit → Act → World → Prop} (hgd : o.guard = none) (s x : Operand)
    (ho : o.op = .call { callee := .builtin .append, args := #[s, x], argTypes := #[97, 97] })
    (B : Nat) (v : Value) (C : List EnE) (hs : a.eval s = v) (hown : Ens B v C w) (R : List EnE) (ad : Addr)
    (n c : Nat) (hx : a.eval x = .slice (some ad) n c) (hn : n = R.length) (hR : ∀ j u, (enCells R)[j]? = some u → w.cell? (ad.add j) = some u) (hRo : ∀ e ∈ R, OwnB B e.2 e.1.mem w) (hlen : C.length + R.length ≤ 10000) (hB : B ≤ w.heap.size)
    (h : ∀ v' w', Ens B v' (C ++ R) w' → w.grownBy w' v.ownBlock → wpList Tryd.prog ops Q rest (a.put o.dst v') w') : wpList Tryd.prog ops Q (o :: rest) a w := by
  obtain ⟨i0, hi0, hz0, hz1, hz2⟩ := info_parts Tryd.infoEn
  subst hn
  have hone : ∀ u ∈ enCells R, u.oneCell' = true := by
    intro u hu
    simp only [enCells, List.mem_flatMap] at hu
    obtain ⟨m, hm0, hm⟩ := hu
    obtain ⟨oo, cc, hv⟩ := (hRo m hm0).shape
    simp [enC] at hm
    rcases hm with rfl | rfl | rfl | rfl | rfl | rfl
    · rfl
    · rfl
    · rfl
    · rfl
    · rfl
    · rw [hv]; rfl
  refine wpList_append_own _ hgd s x 97 ho B 110 i0 _ 6 96 Tryd.underlying97 hi0 hz0 hz1 hz2 rfl (by decide) v C.length (enCells C) hs hown.row ad R.length c (enCells R) hx
    (enCells_len R) hR hone (by unfold maxLen; omega) (by omega) hB ?_
  intro v' w' h1 h2 _
  refine h v' w' ⟨?_, ?_⟩ h2
  · rw [enCells_join, List.length_append]
    exact h1
  · intro e he
    have hx0 : OwnB B e.2 e.1.mem w := by
      rcases List.mem_append.1 he with he | he
      · exact hown.own e he
      · exact hRo e he
    exact World.ownsRow.kept hx0 h2 (own_apartA (show w.ownsRow B 107 3 _ _ _ from hx0) hown.row (by decide))
end Go.Proofs.YtillilllceeonaaDoor
