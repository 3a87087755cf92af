
/- The specification's walk through aliases: what a step changes. -/
import Derived.Test.YtfkjbamjppnohaaDoorExSpec1
namespace Go.Proofs.YtfkjbamjppnohaaDoor
open Go.RowKit Go.Lib Go.Maps
/-- The specification's walk in memory. -/
structure Sp (g lo hi : Nat) (oa : Option Addr) (ca : Nat) (A : List GAlias) (way : List ByteArray) (s : Ex.St) (code : Int) (w : World) : Prop where
  blk : ∃ o1 c1 o2 c2 o3 c3, w.heap[g]? = some (.cells #[.slice oa A.length ca, .slice o1 s.out.length c1, .slice o2 way.length c2, .slice o3 s.past.length c3, .int .i64 code] 60 (0, 0)) ∧
    OwnX (g + 1) (.slice o1 s.out.length c1) s.out w ∧ OwnX (g + 1) (.slice o2 way.length c2) way w ∧ OwnX (g + 1) (.slice o3 s.past.length c3) s.past w ∧
    Apart (.slice o1 s.out.length c1) (.slice o2 way.length c2) ∧ Apart (.slice o1 s.out.length c1) (.slice o3 s.past.length c3) ∧ Apart (.slice o2 way.length c2) (.slice o3 s.past.length c3)
  als : GAliassL lo hi w oa A
theorem frozen5 {w : World} {g : Nat} {cs : Array Value} {t : TypeId} (h : w.heap[g]? = some (.cells cs t (0, 0))) (j : Nat) : w.frozen? ⟨g, j, none⟩ = false := by simp [World.frozen?, h]
theorem set5_1 {w : World} {g : Nat} {a b c d e : Value} {t : TypeId} (h : w.heap[g]? = some (.cells #[a, b, c, d, e] t (0, 0))) (v : Value) : (w.setCell ⟨g, 1, none⟩ v).heap[g]? = some (.cells #[a, v, c, d, e] t (0, 0)) := by
  simp [World.setCell, Array.getElem?_modify, h]
theorem set5_2 {w : World} {g : Nat} {a b c d e : Value} {t : TypeId} (h : w.heap[g]? = some (.cells #[a, b, c, d, e] t (0, 0))) (v : Value) : (w.setCell ⟨g, 2, none⟩ v).heap[g]? = some (.cells #[a, b, v, d, e] t (0, 0)) := by
  simp [World.setCell, Array.getElem?_modify, h]
theorem set5_3 {w : World} {g : Nat} {a b c d e : Value} {t : TypeId} (h : w.heap[g]? = some (.cells #[a, b, c, d, e] t (0, 0))) (v : Value) : (w.setCell ⟨g, 3, none⟩ v).heap[g]? = some (.cells #[a, b, c, v, e] t (0, 0)) := by
  simp [World.setCell, Array.getElem?_modify, h]
theorem below_set (w : World) (g j : Nat) (v : Value) : Below g w (w.setCell ⟨g, j, none⟩ v) := (Below.refl g w).setCell (p := ⟨g, j, none⟩) (Nat.le_refl _) v
theorem Sp.lt {g lo hi : Nat} {oa : Option Addr} {ca : Nat} {A : List GAlias} {way : List ByteArray} {s : Ex.St} {code : Int} {w : World} (h : Sp g lo hi oa ca A way s code w) : g < w.heap.size := by
  obtain ⟨o1, c1, o2, c2, o3, c3, h1, -⟩ := h.blk
  exact heap_lt h1
theorem Sp.setCode {g lo hi : Nat} {oa : Option Addr} {ca : Nat} {A : List GAlias} {way : List ByteArray} {s : Ex.St} {code : Int} {w : World} (h : Sp g lo hi oa ca A way s code w) (hh : hi ≤ g) (c : Int) : Sp g lo hi oa ca A way s c (w.setCell ⟨g, 4, none⟩ (.int .i64 c)) := by
  obtain ⟨o1, c1, o2, c2, o3, c3, h1, q1, q2, q3, a1, a2, a3⟩ := h.blk
  have hs := gr_setX w g 4 (.int .i64 c)
  exact ⟨⟨o1, c1, o2, c2, o3, c3, set5 h1 _, q1.keep hs (own_ne q1 (by omega)), q2.keep hs (own_ne q2 (by omega)), q3.keep hs (own_ne q3 (by omega)), a1, a2, a3⟩, h.als.below (below_set w g 4 _) hh⟩
/-- A row grows: another one is as it was, and apart from it. -/
theorem app_apart {B : Nat} {v v' u : Value} {D : List ByteArray} {w w' : World} {ob : Obj} (hu : OwnX B u D w) (ha : Apart v u) (hg : (w.alloc ob).grownBy w' v.ownBlock) (hv : v'.ownBlock = v.ownBlock ∨ v'.ownBlock = some (w.alloc ob).heap.size) : OwnX B u D w' ∧ Apart v' u := by
  have hb : Below w.heap.size w (w.alloc ob) := (Below.refl _ _).alloc (Nat.le_refl _) _
  refine ⟨(hu.below hb).keep hg ha.symm.keep, ?_⟩
  intro k hk e
  rcases hv with hv | hv
  · exact ha k (hv ▸ hk) e
  · rw [hv] at hk
    injection hk with hk
    have := (World.ownsRow.lt hu k e).2
    simp at hk
    omega
theorem below_app {g B : Nat} {v : Value} {C : List ByteArray} {w w' : World} {ob : Obj} (hg : g < w.heap.size) (ho : OwnX B v C w) (hB : g < B) (hgr : (w.alloc ob).grownBy w' v.ownBlock) : Below (g + 1) w w' := by
  have hb : Below w.heap.size w (w.alloc ob) := (Below.refl _ _).alloc (Nat.le_refl _) _
  exact (hb.mono (show g + 1 ≤ w.heap.size by omega)).grown hgr (by have := hb.size; omega) (fun j hj => by have := (World.ownsRow.lt ho j hj).1; omega)
/-- Behind an append to one of the three rows, and the store of it. -/
theorem Sp.appOut {g lo hi : Nat} {oa : Option Addr} {ca : Nat} {A : List GAlias} {way : List ByteArray} {s : Ex.St} {code : Int} {w w' : World} {ob : Obj} {o1 o2 o3 o' : Option Addr} {c1 c2 c3 c' : Nat} {k : ByteArray} (hh : hi ≤ g) (hal : GAliassL lo hi w oa A)
    (h1 : w.heap[g]? = some (.cells #[.slice oa A.length ca, .slice o1 s.out.length c1, .slice o2 way.length c2, .slice o3 s.past.length c3, .int .i64 code] 60 (0, 0)))
    (q1 : OwnX (g + 1) (.slice o1 s.out.length c1) s.out w) (q2 : OwnX (g + 1) (.slice o2 way.length c2) way w) (q3 : OwnX (g + 1) (.slice o3 s.past.length c3) s.past w) (a1 : Apart (.slice o1 s.out.length c1) (.slice o2 way.length c2)) (a2 : Apart (.slice o1 s.out.length c1) (.slice o3 s.past.length c3)) (a3 : Apart (.slice o2 way.length c2) (.slice o3 s.past.length c3))
    (hg : (w.alloc ob).grownBy w' (Value.slice o1 s.out.length c1).ownBlock) (hv : (Value.slice o' (s.out ++ [k]).length c').ownBlock = (Value.slice o1 s.out.length c1).ownBlock ∨ (Value.slice o' (s.out ++ [k]).length c').ownBlock = some (w.alloc ob).heap.size) (hown : OwnX (g + 1) (.slice o' (s.out ++ [k]).length c') (s.out ++ [k]) w') :
    (w'.cell? ⟨g, 1, none⟩ = some (.slice o1 s.out.length c1) ∧ w'.frozen? ⟨g, 1, none⟩ = false) ∧ Sp g lo hi oa ca A way ⟨s.out ++ [k], s.past⟩ code (w'.setCell ⟨g, 1, none⟩ (.slice o' (s.out ++ [k]).length c')) ∧ Below g w (w'.setCell ⟨g, 1, none⟩ (.slice o' (s.out ++ [k]).length c')) := by
  have hl := heap_lt h1
  have hb := below_app hl q1 (Nat.lt_succ_self g) hg
  have h1' := (hb.block g (Nat.lt_succ_self g)).trans h1
  obtain ⟨r2, b1⟩ := app_apart q2 a1 hg hv
  obtain ⟨r3, b2⟩ := app_apart q3 a2 hg hv
  have hs := gr_setX w' g 1 (.slice o' (s.out ++ [k]).length c')
  have hbs := below_set w' g 1 (.slice o' (s.out ++ [k]).length c')
  have hbg := (hb.mono (Nat.le_succ g)).trans hbs
  exact ⟨⟨(cells5 h1').2.1, frozen5 h1' 1⟩, ⟨⟨o', c', o2, c2, o3, c3, set5_1 h1' _, hown.keep hs (own_ne hown (by omega)), r2.keep hs (own_ne r2 (by omega)), r3.keep hs (own_ne r3 (by omega)), b1, b2, a3⟩, hal.below hbg hh⟩, hbg⟩
theorem Sp.appWay {g lo hi : Nat} {oa : Option Addr} {ca : Nat} {A : List GAlias} {way : List ByteArray} {s : Ex.St} {code : Int} {w w' : World} {ob : Obj} {o1 o2 o3 o' : Option Addr} {c1 c2 c3 c' : Nat} {k : ByteArray} (hh : hi ≤ g) (hal : GAliassL lo hi w oa A)
    (h1 : w.heap[g]? = some (.cells #[.slice oa A.length ca, .slice o1 s.out.length c1, .slice o2 way.length c2, .slice o3 s.past.length c3, .int .i64 code] 60 (0, 0)))
    (q1 : OwnX (g + 1) (.slice o1 s.out.length c1) s.out w) (q2 : OwnX (g + 1) (.slice o2 way.length c2) way w) (q3 : OwnX (g + 1) (.slice o3 s.past.length c3) s.past w) (a1 : Apart (.slice o1 s.out.length c1) (.slice o2 way.length c2)) (a2 : Apart (.slice o1 s.out.length c1) (.slice o3 s.past.length c3)) (a3 : Apart (.slice o2 way.length c2) (.slice o3 s.past.length c3))
    (hg : (w.alloc ob).grownBy w' (Value.slice o2 way.length c2).ownBlock) (hv : (Value.slice o' (way ++ [k]).length c').ownBlock = (Value.slice o2 way.length c2).ownBlock ∨ (Value.slice o' (way ++ [k]).length c').ownBlock = some (w.alloc ob).heap.size) (hown : OwnX (g + 1) (.slice o' (way ++ [k]).length c') (way ++ [k]) w') :
    (w'.cell? ⟨g, 2, none⟩ = some (.slice o2 way.length c2) ∧ w'.frozen? ⟨g, 2, none⟩ = false) ∧ Sp g lo hi oa ca A (way ++ [k]) s code (w'.setCell ⟨g, 2, none⟩ (.slice o' (way ++ [k]).length c')) ∧ Below g w (w'.setCell ⟨g, 2, none⟩ (.slice o' (way ++ [k]).length c')) := by
  have hl := heap_lt h1
  have hb := below_app hl q2 (Nat.lt_succ_self g) hg
  have h1' := (hb.block g (Nat.lt_succ_self g)).trans h1
  obtain ⟨r1, b1⟩ := app_apart q1 a1.symm hg hv
  obtain ⟨r3, b3⟩ := app_apart q3 a3 hg hv
  have hs := gr_setX w' g 2 (.slice o' (way ++ [k]).length c')
  have hbs := below_set w' g 2 (.slice o' (way ++ [k]).length c')
  have hbg := (hb.mono (Nat.le_succ g)).trans hbs
  exact ⟨⟨(cells5 h1').2.2.1, frozen5 h1' 2⟩, ⟨⟨o1, c1, o', c', o3, c3, set5_2 h1' _, r1.keep hs (own_ne r1 (by omega)), hown.keep hs (own_ne hown (by omega)), r3.keep hs (own_ne r3 (by omega)), b1.symm, a2, b3⟩, hal.below hbg hh⟩, hbg⟩
theorem Sp.appPast {g lo hi : Nat} {oa : Option Addr} {ca : Nat} {A : List GAlias} {way : List ByteArray} {s : Ex.St} {code : Int} {w w' : World} {ob : Obj} {o1 o2 o3 o' : Option Addr} {c1 c2 c3 c' : Nat} {k : ByteArray} (hh : hi ≤ g) (hal : GAliassL lo hi w oa A)
    (h1 : w.heap[g]? = some (.cells #[.slice oa A.length ca, .slice o1 s.out.length c1, .slice o2 way.length c2, .slice o3 s.past.length c3, .int .i64 code] 60 (0, 0)))
    (q1 : OwnX (g + 1) (.slice o1 s.out.length c1) s.out w) (q2 : OwnX (g + 1) (.slice o2 way.length c2) way w) (q3 : OwnX (g + 1) (.slice o3 s.past.length c3) s.past w) (a1 : Apart (.slice o1 s.out.length c1) (.slice o2 way.length c2)) (a2 : Apart (.slice o1 s.out.length c1) (.slice o3 s.past.length c3)) (a3 : Apart (.slice o2 way.length c2) (.slice o3 s.past.length c3))
    (hg : (w.alloc ob).grownBy w' (Value.slice o3 s.past.length c3).ownBlock) (hv : (Value.slice o' (s.past ++ [k]).length c').ownBlock = (Value.slice o3 s.past.length c3).ownBlock ∨ (Value.slice o' (s.past ++ [k]).length c').ownBlock = some (w.alloc ob).heap.size) (hown : OwnX (g + 1) (.slice o' (s.past ++ [k]).length c') (s.past ++ [k]) w') :
    (w'.cell? ⟨g, 3, none⟩ = some (.slice o3 s.past.length c3) ∧ w'.frozen? ⟨g, 3, none⟩ = false) ∧ Sp g lo hi oa ca A way ⟨s.out, s.past ++ [k]⟩ code (w'.setCell ⟨g, 3, none⟩ (.slice o' (s.past ++ [k]).length c')) ∧ Below g w (w'.setCell ⟨g, 3, none⟩ (.slice o' (s.past ++ [k]).length c')) := by
  have hl := heap_lt h1
  have hb := below_app hl q3 (Nat.lt_succ_self g) hg
  have h1' := (hb.block g (Nat.lt_succ_self g)).trans h1
  obtain ⟨r1, b1⟩ := app_apart q1 a2.symm hg hv
  obtain ⟨r2, b2⟩ := app_apart q2 a3.symm hg hv
  have hs := gr_setX w' g 3 (.slice o' (s.past ++ [k]).length c')
  have hbs := below_set w' g 3 (.slice o' (s.past ++ [k]).length c')
  have hbg := (hb.mono (Nat.le_succ g)).trans hbs
  exact ⟨⟨(cells5 h1').2.2.2.1, frozen5 h1' 3⟩, ⟨⟨o1, c1, o2, c2, o', c', set5_3 h1' _, r1.keep hs (own_ne r1 (by omega)), r2.keep hs (own_ne r2 (by omega)), hown.keep hs (own_ne hown (by omega)), a1, b1.symm, b2.symm⟩, hal.below hbg hh⟩, hbg⟩
/-- The way's last one is cut off. -/
theorem Sp.cutWay {g lo hi : Nat} {oa : Option Addr} {ca : Nat} {A : List GAlias} {way : List ByteArray} {s : Ex.St} {code : Int} {w : World} {o1 o2 o3 : Option Addr} {c1 c2 c3 : Nat} {k : ByteArray} (hh : hi ≤ g) (hal : GAliassL lo hi w oa A)
    (h1 : w.heap[g]? = some (.cells #[.slice oa A.length ca, .slice o1 s.out.length c1, .slice o2 (way ++ [k]).length c2, .slice o3 s.past.length c3, .int .i64 code] 60 (0, 0)))
    (q1 : OwnX (g + 1) (.slice o1 s.out.length c1) s.out w) (q2 : OwnX (g + 1) (.slice o2 (way ++ [k]).length c2) (way ++ [k]) w) (q3 : OwnX (g + 1) (.slice o3 s.past.length c3) s.past w) (a1 : Apart (.slice o1 s.out.length c1) (.slice o2 (way ++ [k]).length c2)) (a2 : Apart (.slice o1 s.out.length c1) (.slice o3 s.past.length c3)) (a3 : Apart (.slice o2 (way ++ [k]).length c2) (.slice o3 s.past.length c3)) :
    Sp g lo hi oa ca A way s code (w.setCell ⟨g, 2, none⟩ (.slice o2 way.length c2)) := by
  have hs := gr_setX w g 2 (.slice o2 way.length c2)
  have hq := q2.cut (m := way.length) rfl
  exact ⟨⟨o1, c1, o2, c2, o3, c3, set5_2 h1 _, q1.keep hs (own_ne q1 (by omega)), hq.keep hs (own_ne hq (by omega)), q3.keep hs (own_ne q3 (by omega)), by cases o2 <;> exact a1, a2, by cases o2 <;> exact a3⟩, hal.below (below_set w g 2 _) hh⟩
end Go.Proofs.YtfkjbamjppnohaaDoor
