
/- The program's walk through aliases: one address found, a step back. -/
import Derived.Test.YtfkjbamjppnohaaDoorExBook
import Derived.Test.YtfkjbamjppnohaaDoorOwnX
import Derived.Test.YtfkjbamjppnohaaDoorBase
namespace Go.Proofs.YtfkjbamjppnohaaDoor
open Go.RowKit Go.Lib Go.Maps
/-- Where the parts of an expansion lie. -/
structure Pl5 where
  lo : Nat
  hi : Nat
  b0 : Nat
  b1 : Nat
  b2 : Nat
  b3 : Nat
  g : Nat
  n0 : Nat
structure Pl5.ok (p : Pl5) : Prop where
  h0 : p.hi ≤ p.b0
  h1 : p.b0 < p.b1
  h2 : p.b1 < p.b2
  h3 : p.b2 < p.b3
  h4 : p.b3 < p.g
/-- An expansion of the aliases A in memory. -/
structure Ep (p : Pl5) (A : List GAlias) (way : List ByteArray) (s : Ex.St) (w : World) : Prop where
  blk : ∃ o c, w.heap[p.g]? = some (.cells #[.map (some p.b0), .map (some p.b1), .map (some p.b2), .map (some p.b3), .slice o s.out.length c] 72 (0, 0)) ∧ OwnX (p.g + 1) (.slice o s.out.length c) s.out w
  book : Book p.lo p.hi w p.b0 p.n0 A
  way : SetT w p.b1 (way.length + s.past.length) way
  gone : SetT w p.b2 s.past.length s.past
  found : SetT w p.b3 s.out.length s.out
theorem gr_of_below {w w' : World} (hb : Below w.heap.size w w') : w.grownBy w' none := ⟨hb.os, hb.tape, hb.output, hb.size, fun k hk _ => hb.block k hk⟩
theorem Ep.lt {p : Pl5} {A : List GAlias} {way : List ByteArray} {s : Ex.St} {w : World} (h : Ep p A way s w) : p.g < w.heap.size := by
  obtain ⟨o, c, h1, -⟩ := h.blk
  exact heap_lt h1
theorem Ep.below {p : Pl5} {A : List GAlias} {way : List ByteArray} {s : Ex.St} {w w' : World} (h : Ep p A way s w) (hp : p.ok) (hb : Below w.heap.size w w') : Ep p A way s w' := by
  have hl := h.lt
  have := hp.h0
  have := hp.h1
  have := hp.h2
  have := hp.h3
  have := hp.h4
  obtain ⟨o, c, h1, h2⟩ := h.blk
  exact ⟨⟨o, c, (hb.block p.g hl).trans h1, h2.below hb⟩, h.book.kept (gr_of_below hb) (by simp) (Same.of_below hb (by omega)), h.way.below hb, h.gone.below hb, h.found.below hb⟩
theorem own_ne {B b : Nat} {v : Value} {P : List ByteArray} {w : World} (h : OwnX B v P w) (hb : b < B) : v.ownBlock = none ∨ v.ownBlock ≠ some b := by
  cases hv : v.ownBlock with
  | none => exact .inl rfl
  | some k =>
    refine .inr ?_
    intro e
    have := (World.ownsRow.lt h k hv).1
    injection e with e
    omega
theorem cells5 {w : World} {g : Nat} {a b c d e : Value} {t : TypeId} {z : Nat × Nat} (h : w.heap[g]? = some (.cells #[a, b, c, d, e] t z)) :
    w.cell? ⟨g, 0, none⟩ = some a ∧ w.cell? ⟨g, 1, none⟩ = some b ∧ w.cell? ⟨g, 2, none⟩ = some c ∧ w.cell? ⟨g, 3, none⟩ = some d ∧ w.cell? ⟨g, 4, none⟩ = some e := by
  refine ⟨?_, ?_, ?_, ?_, ?_⟩ <;> simp [World.cell?, h]
/-- A change of one of the sets alone. -/
theorem Ep.turn {p : Pl5} {A : List GAlias} {way way' : List ByteArray} {s s' : Ex.St} {w w' : World} {b : Nat} (h : Ep p A way s w) (hp : p.ok) (hg : w.grownBy w' (some b)) (hb : p.b0 < b ∧ b < p.g) (ho : s'.out = s.out)
    (h1 : SetT w' p.b1 (way'.length + s'.past.length) way') (h2 : SetT w' p.b2 s'.past.length s'.past) (h3 : SetT w' p.b3 s'.out.length s'.out) : Ep p A way' s' w' := by
  have hl := h.lt
  have := hp.h0
  have := hp.h1
  have := hp.h2
  have := hp.h3
  have := hp.h4
  obtain ⟨o, c, q1, q2⟩ := h.blk
  refine ⟨⟨o, c, ?_, ?_⟩, h.book.kept hg (by intro e; injection e with e; omega) (fun k _ h2 => hg.block k (by omega) (by intro e; injection e with e; omega)), h1, h2, h3⟩
  · rw [ho, hg.block p.g hl (by intro e; injection e with e; omega)]
    exact q1
  · rw [ho]
    exact q2.keep hg (own_ne q2 (by omega))
set_option maxHeartbeats 2000000 in
theorem implStepBack (p : Pl5) (A : List GAlias) (way : List ByteArray) (s : Ex.St) (k : ByteArray) (w : World) (h : Ep p A (way ++ [k]) s w) (hp : p.ok) (hI : Ex.Inv A (way ++ [k]) s) (hA : A.length ≤ 100) (hk1 : k.size ≤ 1048576) (u : FrameMode) :
    CallsD Tryd.prog 69 #[.pointer (some ⟨p.g, 0, none⟩), .string k] u w fun e u' w' => u' = u ∧ (e = .returned (.tuple #[]) ∧ Hid (Ep p A way ⟨s.out, s.past ++ [k]⟩ w') ∧ Hid (Below p.b1 w w')) := by
  obtain ⟨o, c, q1, q2⟩ := h.blk
  obtain ⟨c0, c1, c2, c3, c4⟩ := cells5 q1
  have hl := h.lt
  have hshort := hI.short
  rw [List.length_append] at hshort
  have p0 := hp.h0
  have p1 := hp.h1
  have p2 := hp.h2
  have p3 := hp.h3
  have p4 := hp.h4
  have hnw : Ex.isIn way k = false ∧ Ex.isIn s.past k = false := by
    have hn := hI.nodup
    rw [List.append_assoc, List.nodup_append] at hn
    constructor
    · rw [Ex.isIn_no]
      intro hm
      exact hn.2.2 k hm k (by simp) rfl
    · rw [Ex.isIn_no]
      intro hm
      have := hn.2.1
      rw [List.nodup_append] at this
      exact this.2.2 k (by simp) k hm rfl
  obtain ⟨X, hX⟩ : ∃ X, X = w.alloc (.cells #[.string k] 9) := ⟨_, rfl⟩
  have hbX : Below w.heap.size w X := by rw [hX]; exact (Below.refl _ _).alloc (Nat.le_refl _) _
  have hcX : X.cell? ⟨w.heap.size, 0, none⟩ = some (.string k) := by rw [hX]; simp
  have hEX := h.below hp hbX
  have HX := mkHid hX.symm
  have cD := mkHid (implDropT p.b1 _ w.heap.size 1 way k X hEX.way hcX hk1 hnw.1)
  have HEX := mkHid hEX
  have HbX := mkHid hbX
  clear hX hEX hbX hcX
  go_enter_d Tryd.func69, Tryd.ntmps69
  go_wp2_with fail
  rw [HX.out]
  refine cD.out.mono ?_
  rintro e w1 ⟨rfl, hS1, hg1⟩
  have hlX : p.g < X.heap.size := HEX.out.lt
  have e1 := (World.cell?_of_block (w := X) (w' := w1) (a := ⟨p.g, 2, none⟩) (hg1.out.block p.g hlX (by intro e; injection e with e; omega))).trans ((cells5 (show X.heap[p.g]? = _ from (HbX.out.block p.g hl).trans q1)).2.2.1)
  obtain ⟨Y, hY⟩ : ∃ Y, Y = w1.alloc (.cells #[.string k] 9) := ⟨_, rfl⟩
  have hbY : Below w1.heap.size w1 Y := by rw [hY]; exact (Below.refl _ _).alloc (Nat.le_refl _) _
  have hcY : Y.cell? ⟨w1.heap.size, 0, none⟩ = some (.string k) := by rw [hY]; simp
  have hgone : SetT Y p.b2 s.past.length s.past := (HEX.out.gone.kept hg1.out (by intro e; injection e with e; omega)).below hbY
  have cA := mkHid (implAddT p.b2 s.past.length w1.heap.size 1 s.past k Y hgone hcY hk1 hnw.2 (by omega))
  have HY := mkHid hY.symm
  have HbY := mkHid hbY
  have hg1l : p.g < w1.heap.size := Nat.lt_of_lt_of_le hlX hg1.out.size
  have hYl : w1.heap.size ≤ Y.heap.size := hbY.size
  have hEp1 := mkHid (show ∀ w' : World, SetT w' p.b2 (s.past.length + 1) (s.past ++ [k]) → Y.grownBy w' (some p.b2) → Ep p A way ⟨s.out, s.past ++ [k]⟩ w' from fun w' hs hg => by
    have a1 : SetT Y p.b1 ((way ++ [k]).length + s.past.length) way := hS1.out.below HbY.out
    have a3 : SetT Y p.b3 s.out.length s.out := (HEX.out.found.kept hg1.out (by intro e; injection e with e; omega)).below HbY.out
    obtain ⟨o', c', r1, r2⟩ := HEX.out.blk
    have r2' := (r2.keep hg1.out (own_ne r2 (by omega))).below HbY.out
    have bk := (HEX.out.book.kept hg1.out (by intro e; injection e with e; omega) (fun k _ h2 => hg1.out.block k (by omega) (by intro e; injection e with e; omega))).kept (gr_of_below HbY.out) (by simp) (Same.of_below HbY.out (by omega))
    refine ⟨⟨o', c', (hg.block p.g (by omega) (by intro e; injection e with e; omega)).trans ((HbY.out.block p.g hg1l).trans ((hg1.out.block p.g hlX (by intro e; injection e with e; omega)).trans r1)), r2'.keep hg (own_ne r2' (by omega))⟩,
      bk.kept hg (by intro e; injection e with e; omega) (fun k _ h2 => hg.block k (by omega) (by intro e; injection e with e; omega)), ?_, ?_, a3.kept hg (by intro e; injection e with e; omega)⟩
    · have := a1.kept hg (by intro e; injection e with e; omega)
      rw [show (way ++ [k]).length + s.past.length = way.length + (s.past ++ [k]).length by simp; omega] at this
      exact this
    · rw [show (s.past ++ [k]).length = s.past.length + 1 by simp]
      exact hs)
  have hB1 : Hid (∀ w' : World, Y.grownBy w' (some p.b2) → Below p.b1 w w') := fun w' hg => by
    have z1 : Below p.b1 w X := HbX.out.mono (by omega)
    have z2 := z1.grown hg1.out (by omega) (fun j hj => by injection hj with hj; omega)
    have z3 := z2.trans (HbY.out.mono (by omega))
    exact z3.grown hg (by omega) (fun j hj => by injection hj with hj; omega)
  clear hgone hcY hY hbY cD hS1 hg1 HEX HbX HX
  go_wp2_with fail
  rw [HY.out]
  refine cA.out.mono ?_
  rintro e w2 ⟨rfl, hS2, hg2⟩
  have f1 := mkHid (hEp1.out w2 hS2.out hg2.out)
  have f2 := mkHid (hB1.out w2 hg2.out)
  clear hEp1 hB1 hS2 hg2 cA
  go_wp2
  exact bodyPost_end (v := .tuple #[]) (results_none Tryd.results69 _ _ _) rfl ⟨rfl, f1, f2⟩
end Go.Proofs.YtfkjbamjppnohaaDoor
