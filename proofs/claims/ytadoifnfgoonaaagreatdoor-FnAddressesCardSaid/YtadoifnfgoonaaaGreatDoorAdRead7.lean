
/- Rows that stay; what an append or a store leaves of a source. -/

/- The walks of a reader of addresses: a phrase. -/

/- The walks of a reader of addresses: words with points between. -/

/- The walks of a reader of addresses: a domain, an address. -/
import Derived.Test.YtadoifnfgoonaaaGreatDoorGenBase
import Derived.Test.YtadoifnfgoonaaaGreatDoorPhraseTests
import Derived.Maps.AppendAt
import Derived.Laws.ResultCell
namespace Go.Proofs.YtadoifnfgoonaaaGreatDoor
open Go.RowKit Go.Lib Go.Maps
set_option maxRecDepth 20000 in
theorem own_apartA {w : World} {B B' s s' n n' : Nat} {e e' : TypeId} {v v' : Value} {xs xs' : List Value} (h : w.ownsRow B e s v n xs) (h' : w.ownsRow B' e' s' v' n' xs') (he : e ≠ e') : v.ownBlock = none ∨ v.ownBlock ≠ v'.ownBlock := by
  rcases h.2 with ⟨rfl, -⟩ | ⟨g, cap, cur, rfl, -, hg, -⟩
  · exact .inl rfl
  · right
    rcases h'.2 with ⟨rfl, -⟩ | ⟨g', cap', cur', rfl, -, hg', -⟩
    · simp [Value.ownBlock]
    · intro e1
      simp only [Value.ownBlock, Option.some.injEq] at e1
      rw [e1, hg'] at hg
      simp only [Option.some.injEq, Obj.cells.injEq] at hg
      exact he hg.2.1.symm
set_option maxRecDepth 20000 in
/-- A row stands where its block does. -/
theorem row_stay {B s n : Nat} {e : TypeId} {v : Value} {xs : List Value} {w w' : World} (h : w.ownsRow B e s v n xs) (hk : ∀ k, v.ownBlock = some k → w'.heap[k]? = w.heap[k]?) : w'.ownsRow B e s v n xs := by
  obtain ⟨h1, h2⟩ := h
  refine ⟨h1, ?_⟩
  rcases h2 with h2 | ⟨k, cap, cur, rfl, e2, e3, e4⟩
  · exact .inl h2
  · exact .inr ⟨k, cap, cur, rfl, e2, (hk k rfl).trans e3, e4⟩
set_option maxRecDepth 20000 in
theorem row_same {B s n : Nat} {e : TypeId} {v : Value} {xs : List Value} {w w' : World} (h : w.ownsRow B e s v n xs) (hs : Same B w.heap.size w w') : w'.ownsRow B e s v n xs :=
  row_stay h fun k hk => hs k (World.ownsRow.lt h k hk).1 (World.ownsRow.lt h k hk).2
set_option maxRecDepth 20000 in
theorem gr_row {w0 w w' : World} {g : Nat} {v : Value} (h : w0.grownBy w (some g)) (hg : w.grownBy w' v.ownBlock) (hv : ∀ k, v.ownBlock = some k → w0.heap.size ≤ k) : w0.grownBy w' (some g) :=
  ⟨hg.os.trans h.os, hg.tape.trans h.tape, hg.output.trans h.output, Nat.le_trans h.size hg.size, fun i hi hr => (hg.block i (Nat.lt_of_lt_of_le hi h.size) (fun e => by have := hv i e.symm; omega)).trans (h.block i hi hr)⟩
set_option maxRecDepth 20000 in
theorem Src.row {w w' : World} {g n cp a z : Nat} {o : Option Addr} {v : Value} (h : Src w g o n cp a z) (hg : w.grownBy w' v.ownBlock) (hv : ∀ k, v.ownBlock = some k → k ≠ g) : Src w' g o n cp a z :=
  ⟨by rw [hg.block g h.lt (fun e => hv g e.symm rfl)]; exact h.blk⟩
set_option maxRecDepth 20000 in
theorem gr_setC {w0 w : World} {g b j : Nat} {v : Value} (h : w0.grownBy w (some g)) (hb : w0.heap.size ≤ b) : w0.grownBy (w.setCell ⟨b, j, none⟩ v) (some g) :=
  ⟨h.os, h.tape, h.output, by simpa [World.setCell] using h.size, fun i hi hr => by rw [← h.block i hi hr]; simp [World.setCell, Array.getElem?_modify, show b ≠ i by omega]⟩
set_option maxRecDepth 20000 in
theorem Src.setC {w : World} {g n cp a z b j : Nat} {o : Option Addr} {v : Value} (h : Src w g o n cp a z) (hb : b ≠ g) : Src (w.setCell ⟨b, j, none⟩ v) g o n cp a z :=
  ⟨by simp [World.setCell, Array.getElem?_modify, h.blk, hb]⟩
end Go.Proofs.YtadoifnfgoonaaaGreatDoor
namespace Go.Proofs.YtadoifnfgoonaaaGreatDoor
open Go.RowKit Go.Lib
set_option maxRecDepth 20000 in
theorem Rs.qlt {B g k : Nat} {T : List Tk} {s : ByteArray} {q : Nat × Nat} {L : List (Nat × ByteArray)} {w : World} (h : Rs B T g s q L k w) : q.1 < w.heap.size := by
  obtain ⟨n, h1, h2, h3⟩ := h
  exact (World.ownsRow.lt h3.own q.1 rfl).2
set_option maxRecDepth 20000 in
theorem Rs.lowB {B B0 g k : Nat} {T : List Tk} {s : ByteArray} {q : Nat × Nat} {L : List (Nat × ByteArray)} {w w' : World} (h : Rs B T g s q L k w) (hg : g < B0) (hq : q.1 < B0) (hb : Below B0 w w') : Rs B T g s q L k w' := by
  obtain ⟨n, h1, h2, ⟨a, b, d⟩, o, l⟩ := h
  refine ⟨n, h1, h2, ⟨⟨a, b, (hb.block g hg).trans d⟩, row_stay o (fun j hj => ?_), l⟩⟩
  obtain rfl : q.1 = j := Option.some.inj hj
  exact hb.block _ hq
set_option maxRecDepth 20000 in
theorem gr_lowB {g B0 : Nat} {w w1 w2 : World} (h : w.grownBy w1 (some g)) (hb : Below B0 w1 w2) (hB : w.heap.size ≤ B0) : w.grownBy w2 (some g) :=
  ⟨hb.os.trans h.os, hb.tape.trans h.tape, hb.output.trans h.output, Nat.le_trans h.size hb.size, fun i hi hr => (hb.block i (by omega)).trans (h.block i hi hr)⟩
/-- What the tokens of a phrase say. -/
def phT : List (Nat × ByteArray) → List UInt8
  | [] => []
  | p :: r => p.2.data.toList ++ r.flatMap fun p => 32 :: p.2.data.toList
set_option maxRecDepth 20000 in
theorem phT_snoc (P : List (Nat × ByteArray)) (p : Nat × ByteArray) (h : P ≠ []) : phT (P ++ [p]) = phT P ++ [32] ++ p.2.data.toList := by
  cases P with
  | nil => exact absurd rfl h
  | cons a P => simp [phT]
/-- An atom or a quoted text. -/
def isWd (p : Nat × ByteArray) : Bool := decide (p.1 = 1) || decide (p.1 = 2)
set_option maxRecDepth 20000 in
theorem isWd_ph (p : Nat × ByteArray) (h : isWd p = true) : isPh p = true := by
  unfold isWd at h
  unfold isPh
  rcases Bool.or_eq_true_iff.1 h with h | h
  · rw [h, Bool.true_or]
  · rw [h, Bool.true_or, Bool.or_true]
set_option maxRecDepth 20000 in
theorem isWd_sg (p : Nat × ByteArray) (y : ByteArray) (h : isWd p = true) : isSg p y = false := by
  unfold isWd at h
  unfold isSg
  rw [decide_eq_false, Bool.false_and]
  rcases Bool.or_eq_true_iff.1 h with h | h
  · have := of_decide_eq_true h; omega
  · have := of_decide_eq_true h; omega
set_option maxRecDepth 20000 in
theorem fieldT1 (a b c : Value) (w : World) : (Instr.field 107 (.agg #[a, b, c]) 1).run Tryz.prog w = .ok b w := by first | kernel_rfl | rfl
set_option maxRecDepth 20000 in
theorem sumT (P : List (Nat × ByteArray)) (p : Nat × ByteArray) (R : List (Nat × ByteArray)) : (phT P).length ≤ (phT (P ++ p :: R)).length ∧ p.2.size ≤ (phT (P ++ p :: R)).length := by
  cases P with
  | nil => simp [phT]
  | cons a P => simp [phT]; omega
/-- How many tokens are taken, by the world. -/
def nextOf (w : World) (g : Nat) : Nat := match w.cell? ⟨g, 4, none⟩ with
  | some (.int _ n) => n.toNat
  | _ => 0
set_option maxRecDepth 20000 in
theorem Rs.next {B g k : Nat} {T : List Tk} {s : ByteArray} {q : Nat × Nat} {L : List (Nat × ByteArray)} {w : World} (h : Rs B T g s q L k w) : T.length - nextOf w g = L.length := by
  obtain ⟨n, h1, h2, h3⟩ := h
  have e : nextOf w g = n := by
    unfold nextOf
    rw [h3.dr.cells.2.2.1]
    simp
  rw [e, ← h1, Kt]
  simp
set_option maxRecDepth 20000 in
set_option maxHeartbeats 8000000 in
theorem rsPhrase {B g k : Nat} {T : List Tk} {s : ByteArray} {q : Nat × Nat} {w : World} (hT : Ts T s) (P L : List (Nat × ByteArray)) (h : Rs B T g s q (P ++ L) k w) (hP : P.all isWd = true) (hL : isPh (hdT L) = false) (hlen : (phT P).length ≤ 100000) (X : ByteArray) (hX : X = ⟨(phT P).toArray⟩) :
    Calls Tryz.prog 107 #[scp g] w fun e w' => e = .returned (.string X) ∧ Rs B T g s q L k w' ∧ w.grownBy w' (some g) := by
  obtain ⟨i0, hi, hy0, hy1, hy2⟩ := info_parts Tryz.info5
  have hgl := h.glt
  have hql := h.qlt
  have HR := mkHid h
  have HP := mkHid hP
  have HL := mkHid hL
  have Hlen := mkHid hlen
  have HX := mkHid hX
  have hfd := fieldT1
  clear h hP hL hlen hX
  go_enter Tryz.func107, Tryz.ntmps107
  go_wp2
  go_loopw [3, 4] (fun v b wr => ∃ (D E : List (Nat × ByteArray)), b = .bool (!D.isEmpty) ∧ Hid (D ++ E = P) ∧ Hid (Own w.heap.size v (phT D) wr) ∧ Hid (Rs B T g s q (E ++ L) k wr) ∧ Hid (w.grownBy wr (some g))) (fun _ _ wr => T.length - nextOf wr g)
  case atStart => exact ⟨[], P, rfl, rfl, Own.nil _ _, HR, grown_refl _ _⟩
  case round =>
    clear HR
    obtain ⟨D, E, rfl, HDE, Hown, HR, Hgr⟩ := hrel
    have Hmeas : Hid (T.length - nextOf wr g = (E ++ L).length) := mkHid HR.out.next
    have hwr : w.heap.size ≤ wr.heap.size := Hgr.out.size
    cases E with
    | nil =>
      obtain ⟨kd, x, hx⟩ : ∃ a b, hdT L = (a, b) := ⟨_, _, rfl⟩
      have HL2 := HL.out
      rw [hx] at HL2
      have hDP : D = P := by simpa using HDE.out
      subst hDP
      have cP := mkHid (rsPeek hT HR.out kd x hx)
      have cI := mkHid (fun (a : Nat) w => implIsPh kd x a false w HL2)
      clear HL2 hx HDE Hmeas
      go_wp2_with fail
      refine cP.out.mono ?_
      rintro e w1 ⟨a, rfl, hb1⟩
      have HR1 := mkHid (HR.out.below hb1)
      have Hown1 : Hid (Own w.heap.size u3 (phT D) w1) := mkHid (Own.gr Hown.out (grown_below hb1) hgl)
      have Hgr1 := mkHid (gr_lowB Hgr.out hb1 hwr)
      clear cP hb1 HR Hown Hgr
      go_wp2_with fail
      refine (cI.out a _).mono ?_
      rintro e w2 ⟨rfl, hb2⟩
      have hs1 := Hgr1.out.size
      have HR2 := mkHid (HR1.out.below hb2)
      have hown2 : Own w.heap.size u3 (phT D) w2 := Own.gr Hown1.out (grown_below hb2) hgl
      have Hgr2 := mkHid (gr_lowB Hgr1.out hb2 hs1)
      have hbk := hown2.back (P := Tryz.prog) 22 9 Tryz.underlying22 Tryz.underlying5 Tryz.underlying9
      rw [← HX.out] at hbk
      clear cI hb2 HR1 Hown1 Hgr1 hown2
      go_wp2
      go_ret
      exact ⟨rfl, HR2.out, Hgr2.out⟩
    | cons p E =>
      obtain ⟨kd, x⟩ := p
      have hpw : isWd (kd, x) = true := List.all_eq_true.1 HP.out _ (by rw [← HDE.out]; simp)
      have hsz := sumT D (kd, x) E
      rw [HDE.out] at hsz
      have hl1 : (phT D).length ≤ 100000 := Nat.le_trans hsz.1 Hlen.out
      have hl2 : x.size ≤ 100000 := Nat.le_trans hsz.2 Hlen.out
      have HDE2 : Hid ((D ++ [(kd, x)]) ++ E = P) := mkHid (by rw [← HDE.out]; simp)
      have HR' : Hid (Rs B T g s q ((kd, x) :: (E ++ L)) k wr) := HR
      have cP := mkHid (rsPeek hT HR'.out kd x rfl)
      have cI := mkHid (fun (a : Nat) w => implIsPh kd x a true w (isWd_ph _ hpw))
      have hsg := isWd_sg (kd, x) ⟨#[46]⟩ hpw
      clear hsz HDE HR hpw
      go_wp2_with fail
      refine cP.out.mono ?_
      rintro e w1 ⟨a, rfl, hb1⟩
      have HR1 := mkHid (HR'.out.below hb1)
      have Hown1 : Hid (Own w.heap.size u3 (phT D) w1) := mkHid (Own.gr Hown.out (grown_below hb1) hgl)
      have Hgr1 := mkHid (gr_lowB Hgr.out hb1 hwr)
      clear cP hb1 HR' Hown Hgr
      go_wp2_with fail
      refine (cI.out a _).mono ?_
      rintro e w2 ⟨rfl, hb2⟩
      have hs1 := Hgr1.out.size
      have HR2 := mkHid (HR1.out.below hb2)
      have Hown2 : Hid (Own w.heap.size u3 (phT D) w2) := mkHid (Own.gr Hown1.out (grown_below hb2) hgl)
      have Hgr2 := mkHid (gr_lowB Hgr1.out hb2 hs1)
      have hs2 := Hgr2.out.size
      clear cI hb2 HR1 Hown1 Hgr1 hs1
      cases D with
      | nil =>
        have cT := mkHid (rsTake hT kd x (E ++ L) HR2.out)
        go_wp2_with fail
        refine cT.out.mono ?_
        rintro e w3 ⟨a3, rfl, hR3, hg3⟩
        have HR3 := mkHid hR3
        have hown3 : Own w.heap.size u3 (phT []) w3 := Own.gr Hown2.out hg3 hgl
        have Hgr3 := mkHid (grown_trans Hgr2.out hg3)
        have hs3 := Hgr3.out.size
        clear cT hR3 hg3 HR2 Hown2 Hgr2
        go_wp2_with (at_builtin; refine wp_apps (W := w3) rfl _ _ 22 9 rfl i0 Tryz.underlying22 Tryz.underlying9 hi hy0 hy1 hy2 w.heap.size u3 (phT []) rfl hown3 x rfl (by omega) hs3 (Below.refl _ _) ?_; intro v4 w4 hown4 hb4)
        have HR4 := mkHid (HR3.out.lowB hgl hql hb4)
        have Hgr4 := mkHid (gr_lowB Hgr3.out hb4 (Nat.le_refl _))
        refine ⟨⟨[(kd, x)], E, rfl, HDE2, mkHid (by simpa [phT] using hown4), HR4, Hgr4⟩, ?_⟩
        rw [HR4.out.next, Hmeas.out]
        simp
      | cons d D =>
        have cS := mkHid (rsSign hT HR2.out ⟨#[46]⟩ false (by rw [show hdT ((kd, x) :: (E ++ L)) = (kd, x) from rfl]; exact hsg))
        go_wp2_with fail
        refine cS.out.mono ?_
        rintro e w3 ⟨rfl, hb3⟩
        have HR3 := mkHid (HR2.out.below hb3)
        have hown3 : Own w.heap.size u3 (phT (d :: D)) w3 := Own.gr Hown2.out (grown_below hb3) hgl
        have Hgr3 := mkHid (gr_lowB Hgr2.out hb3 hs2)
        have hs3 := Hgr3.out.size
        clear cS hb3 HR2 Hown2 Hgr2
        go_wp2_with (at_builtin; refine wp_app (W := w3) rfl _ _ 22 rfl i0 Tryz.underlying22 hi hy0 hy1 hy2 w.heap.size u3 (phT (d :: D)) rfl hown3 _ [32] rfl 1 1 rfl rfl (by simp; omega) hs3 (Below.refl _ _) ?_; intro v4 w4 hown4 hb4; refine Hid.out ?_)
        refine mkHid ?_
        have HR4 := mkHid (HR3.out.lowB hgl hql hb4)
        have Hgr4 := mkHid (gr_lowB Hgr3.out hb4 (Nat.le_refl _))
        have cT := mkHid (rsTake hT kd x (E ++ L) HR4.out)
        have Hown4 := mkHid hown4
        clear hown4 hb4 HR3 hown3 Hgr3 hs3
        go_wp2_with fail
        refine cT.out.mono ?_
        rintro e w5 ⟨a5, rfl, hR5, hg5⟩
        have HR5 := mkHid hR5
        have hown5 : Own w.heap.size v4 (phT (d :: D) ++ [32]) w5 := Own.gr Hown4.out hg5 hgl
        have Hgr5 := mkHid (grown_trans Hgr4.out hg5)
        have hs5 := Hgr5.out.size
        clear cT hR5 hg5 HR4 Hown4 Hgr4
        go_wp2_with (at_builtin; refine wp_apps (W := w5) rfl _ _ 22 9 rfl i0 Tryz.underlying22 Tryz.underlying9 hi hy0 hy1 hy2 w.heap.size v4 (phT (d :: D) ++ [32]) rfl hown5 x rfl (by simp; omega) hs5 (Below.refl _ _) ?_; intro v6 w6 hown6 hb6)
        have HR6 := mkHid (HR5.out.lowB hgl hql hb6)
        have Hgr6 := mkHid (gr_lowB Hgr5.out hb6 (Nat.le_refl _))
        refine ⟨⟨d :: D ++ [(kd, x)], E, rfl, HDE2, mkHid (by rw [phT_snoc _ _ (by simp)]; exact hown6), HR6, Hgr6⟩, ?_⟩
        rw [HR6.out.next, Hmeas.out]
        simp
end Go.Proofs.YtadoifnfgoonaaaGreatDoor
namespace Go.Proofs.YtadoifnfgoonaaaGreatDoor
open Go.RowKit Go.Lib
/-- Words with points between, as tokens and as a text. -/
def dotK : List (Nat × ByteArray) → List (Nat × ByteArray)
  | [] => []
  | [p] => [p]
  | p :: q :: r => p :: (5, ⟨#[46]⟩) :: dotK (q :: r)
def dotT : List (Nat × ByteArray) → List UInt8
  | [] => []
  | [p] => p.2.data.toList
  | p :: q :: r => p.2.data.toList ++ 46 :: dotT (q :: r)
/-- The kinds that are taken, in memory: one or two. -/
structure Kinds (kb m : Nat) (w : World) : Prop where
  m12 : m = 1 ∨ m = 2
  c0 : w.cell? ⟨kb, 0, none⟩ = some (.int .i64 1)
  c1 : m = 2 → w.cell? ⟨kb, 1, none⟩ = some (.int .i64 2)
  lt : kb < w.heap.size
set_option maxRecDepth 20000 in
theorem Kinds.low {kb m B0 : Nat} {w w' : World} (h : Kinds kb m w) (hk : kb < B0) (hb : Below B0 w w') : Kinds kb m w' :=
  ⟨h.m12, (hb.cell (p := ⟨kb, 0, none⟩) hk).trans h.c0, fun e => (hb.cell (p := ⟨kb, 1, none⟩) hk).trans (h.c1 e), Nat.lt_of_lt_of_le h.lt hb.size⟩
set_option maxRecDepth 20000 in
theorem Kinds.gr {kb m g : Nat} {w w' : World} (h : Kinds kb m w) (hk : kb ≠ g) (hg : w.grownBy w' (some g)) : Kinds kb m w' := by
  have hb := hg.block kb h.lt (fun e => hk (Option.some.inj e))
  exact ⟨h.m12, (World.cell?_of_block (a := ⟨kb, 0, none⟩) hb).trans h.c0, fun e => (World.cell?_of_block (a := ⟨kb, 1, none⟩) hb).trans (h.c1 e), Nat.lt_of_lt_of_le h.lt hg.size⟩
set_option maxRecDepth 20000 in
theorem implHasIndex (kb m kd : Nat) (w : World) (h : Kinds kb m w) (hk : kd = 1 ∨ kd = 2 ∧ m = 2) :
    Calls Tryz.prog 140 #[.slice (some ⟨kb, 0, none⟩) m m, .int .i64 (kd : Int)] w fun e w' => (∃ i : Nat, i < 5 ∧ e = .returned (.int .i64 (i : Int))) ∧ w = w' := by
  obtain ⟨h12, c0, c1, -⟩ := h
  rcases hk with rfl | ⟨rfl, rfl⟩
  · have hm : (0 : Int) < (m : Int) := by omega
    clear c1 h12
    go_enter Tryz.func140, Tryz.ntmps140
    go_wp2
    refine wp_loop_rounds 1 ?_
    rw [rounds_succ]
    go_wp2
    go_ret
    exact ⟨⟨0, by omega, rfl⟩, rfl⟩
  · have c1 := c1 rfl
    go_enter Tryz.func140, Tryz.ntmps140
    go_wp2
    refine wp_loop_rounds 2 ?_
    rw [rounds_succ]
    go_wp2
    rw [rounds_succ]
    go_wp2
    go_ret
    exact ⟨⟨1, by omega, rfl⟩, rfl⟩
set_option maxRecDepth 20000 in
theorem implHas (kb m kd : Nat) (w : World) (h : Kinds kb m w) (hk : kd = 1 ∨ kd = 2 ∧ m = 2) :
    Calls Tryz.prog 138 #[.slice (some ⟨kb, 0, none⟩) m m, .int .i64 (kd : Int)] w fun e w' => e = .returned (.bool true) ∧ w = w' := by
  have cI := mkHid (implHasIndex kb m kd w h hk)
  clear h hk
  go_enter Tryz.func138, Tryz.ntmps138
  go_wp2_with fail
  refine cI.out.mono ?_
  rintro e w1 ⟨⟨i, hi, rfl⟩, rfl⟩
  go_wp2
  go_ret
  exact ⟨rfl, rfl⟩
set_option maxRecDepth 20000 in
set_option maxHeartbeats 8000000 in
theorem rsDotted {B g k : Nat} {T : List Tk} {s : ByteArray} {q : Nat × Nat} {w : World} (hT : Ts T s) (kb m : Nat) (hK : Kinds kb m w) (hkg : kb ≠ g) (Q L : List (Nat × ByteArray)) (hQ : Q ≠ []) (h : Rs B T g s q (dotK Q ++ L) k w) (hW : ∀ p ∈ Q, p.1 = 1 ∨ p.1 = 2 ∧ m = 2) (hL : isSg (hdT L) ⟨#[46]⟩ = false) (hlen : (dotT Q).length ≤ 100000) (X : ByteArray) (hX : X = ⟨(dotT Q).toArray⟩) :
    Calls Tryz.prog 130 #[scp g, .slice (some ⟨kb, 0, none⟩) m m] w fun e w' => e = .returned (.tuple #[.string X, .nilIface]) ∧ Rs B T g s q L k w' ∧ w.grownBy w' (some g) := by
  obtain ⟨i0, hi, hy0, hy1, hy2⟩ := info_parts Tryz.info5
  have hgl := h.glt
  have hql := h.qlt
  have hkl := hK.lt
  have HR := mkHid h
  have HW := mkHid hW
  have HL := mkHid hL
  have Hlen := mkHid hlen
  have HX := mkHid hX
  have HK := mkHid hK
  have HQ := mkHid hQ
  have hfd1 := fieldT1
  have hfd0 := fieldT0
  clear h hW hL hlen hX hK hQ
  go_enter Tryz.func130, Tryz.ntmps130
  go_wp2
  go_loopw [6] (fun v wr => ∃ (D : List UInt8) (p : Nat × ByteArray) (E : List (Nat × ByteArray)), Hid (D ++ dotT (p :: E) = dotT Q) ∧ Hid (∀ z ∈ p :: E, z ∈ Q) ∧ Hid (Own w.heap.size v D wr) ∧ Hid (Rs B T g s q (dotK (p :: E) ++ L) k wr) ∧ Hid (Kinds kb m wr) ∧ Hid (w.grownBy wr (some g))) (fun _ wr => T.length - nextOf wr g)
  case atStart =>
    cases Q with
    | nil => exact absurd rfl HQ.out
    | cons p E => exact ⟨[], p, E, rfl, fun z hz => hz, Own.nil _ _, HR, HK, grown_refl _ _⟩
  case round =>
    clear HR HK HQ
    obtain ⟨D, ⟨kd, x⟩, E, HD, HM, Hown, HR, HK, Hgr⟩ := hrel
    have Hmeas : Hid (T.length - nextOf wr g = (dotK ((kd, x) :: E) ++ L).length) := mkHid HR.out.next
    have hwr : w.heap.size ≤ wr.heap.size := Hgr.out.size
    have hkd := HW.out (kd, x) (HM.out _ List.mem_cons_self)
    obtain ⟨R1, hR1⟩ : ∃ R1, dotK ((kd, x) :: E) ++ L = (kd, x) :: R1 := by
      cases E with
      | nil => exact ⟨L, rfl⟩
      | cons a E => exact ⟨_, rfl⟩
    have HR' : Hid (Rs B T g s q ((kd, x) :: R1) k wr) := mkHid (by rw [← hR1]; exact HR.out)
    have hlD : D.length ≤ 100000 ∧ x.size ≤ 100000 := by
      have h1 := congrArg List.length HD.out
      have h2 := Hlen.out
      have h3 : x.data.toList.length = x.size := by simp
      cases E with
      | nil => simp only [dotT, List.length_append] at h1; omega
      | cons a E => simp only [dotT, List.length_append, List.length_cons] at h1; omega
    obtain ⟨hlD, hlx⟩ := hlD
    have HR1 := mkHid hR1
    have cP := mkHid (rsPeek hT HR'.out kd x rfl)
    clear hR1 HR
    go_wp2_with fail
    refine cP.out.mono ?_
    rintro e w1 ⟨a, rfl, hb1⟩
    have HR2 := mkHid (HR'.out.below hb1)
    have Hown1 : Hid (Own w.heap.size u6 D w1) := mkHid (Own.gr Hown.out (grown_below hb1) hgl)
    have Hgr1 := mkHid (gr_lowB Hgr.out hb1 hwr)
    have HK1 := mkHid (HK.out.low HK.out.lt hb1)
    have cC := mkHid (implHas kb m kd w1 HK1.out hkd)
    clear cP hb1 HR' Hown Hgr HK hkd
    go_wp2_with fail
    refine cC.out.mono ?_
    rintro e w2 ⟨rfl, hw2⟩
    subst hw2
    have cT := mkHid (rsTake hT kd x R1 HR2.out)
    clear cC HR2
    go_wp2_with fail
    refine cT.out.mono ?_
    rintro e w3 ⟨a3, rfl, hR3, hg3⟩
    have HR3 := mkHid hR3
    have hown3 : Own w.heap.size u6 D w3 := Own.gr Hown1.out hg3 hgl
    have Hgr3 := mkHid (grown_trans Hgr1.out hg3)
    have HK3 := mkHid (HK1.out.gr hkg hg3)
    have hs3 := Hgr3.out.size
    clear cT hR3 hg3 Hown1 Hgr1 HK1
    go_wp2_with (at_builtin; refine wp_apps (W := w3) rfl _ _ 22 9 rfl i0 Tryz.underlying22 Tryz.underlying9 hi hy0 hy1 hy2 w.heap.size u6 D rfl hown3 x rfl (by omega) hs3 (Below.refl _ _) ?_; intro v4 w4 hown4 hb4; refine Hid.out ?_)
    refine mkHid ?_
    have HR4 := mkHid (HR3.out.lowB hgl hql hb4)
    have Hgr4 := mkHid (gr_lowB Hgr3.out hb4 (Nat.le_refl _))
    have HK4 := mkHid (HK3.out.low hkl hb4)
    have Hown4 := mkHid hown4
    have hs4 := Hgr4.out.size
    clear hb4 HR3 hown3 Hgr3 HK3 hs3 hown4
    cases E with
    | nil =>
      obtain rfl : L = R1 := (List.cons.inj HR1.out).2
      have cN := mkHid (rsTakeNo hT HR4.out ⟨#[46]⟩ HL.out)
      have HXX : Hid (D ++ x.data.toList = dotT Q) := HD
      clear HR1 HM HD
      go_wp2_with fail
      refine cN.out.mono ?_
      rintro e w5 ⟨rfl, hb5⟩
      have HR5 := mkHid (HR4.out.below hb5)
      have Hgr5 := mkHid (gr_lowB Hgr4.out hb5 hs4)
      have hown5 : Own w.heap.size v4 (D ++ x.data.toList) w5 := Own.gr Hown4.out (grown_below hb5) hgl
      have hbk := hown5.back (P := Tryz.prog) 22 9 Tryz.underlying22 Tryz.underlying5 Tryz.underlying9
      rw [HXX.out, ← HX.out] at hbk
      clear cN hb5 HR4 Hgr4 Hown4 hown5 HK4
      go_wp2
      refine bodyPost_ret (v := .tuple #[.string X, .nilIface]) (by rw [results_tmp2 Tryz.results130]; rfl) rfl ?_
      exact ⟨rfl, HR5.out, Hgr5.out⟩
    | cons p2 E =>
      have e1 : R1 = (5, ⟨#[46]⟩) :: (dotK (p2 :: E) ++ L) := (List.cons.inj HR1.out).2.symm
      rw [e1] at HR4
      have cY := mkHid (rsTakeYes hT ⟨#[46]⟩ (dotK (p2 :: E) ++ L) HR4.out)
      clear HR1 e1
      go_wp2_with fail
      refine cY.out.mono ?_
      rintro e w5 ⟨rfl, hR5, hg5⟩
      have HR5 := mkHid hR5
      have hown5 : Own w.heap.size v4 (D ++ x.data.toList) w5 := Own.gr Hown4.out hg5 hgl
      have Hgr5 := mkHid (grown_trans Hgr4.out hg5)
      have HK5 := mkHid (HK4.out.gr hkg hg5)
      have hs5 := Hgr5.out.size
      clear cY hR5 hg5 HR4 Hown4 Hgr4 HK4
      go_wp2_with (at_builtin; refine wp_app (W := w5) rfl _ _ 22 rfl i0 Tryz.underlying22 hi hy0 hy1 hy2 w.heap.size v4 (D ++ x.data.toList) rfl hown5 _ [46] rfl 1 1 rfl rfl (by simp; omega) hs5 (Below.refl _ _) ?_; intro v6 w6 hown6 hb6)
      have HR6 := mkHid (HR5.out.lowB hgl hql hb6)
      have Hgr6 := mkHid (gr_lowB Hgr5.out hb6 (Nat.le_refl _))
      have HK6 := mkHid (HK5.out.low hkl hb6)
      refine ⟨⟨D ++ x.data.toList ++ [46], p2, E, mkHid (by rw [← HD.out]; simp [dotT]), mkHid (fun z hz => HM.out z (List.mem_cons_of_mem _ hz)), hown6, HR6, HK6, Hgr6⟩, ?_⟩
      rw [HR6.out.next, Hmeas.out]
      simp only [dotK, List.length_append, List.length_cons]
      omega
end Go.Proofs.YtadoifnfgoonaaaGreatDoor
namespace Go.Proofs.YtadoifnfgoonaaaGreatDoor
open Go.RowKit Go.Lib
/-- A domain: its tokens and its text. -/
inductive Dom : List (Nat × ByteArray) → ByteArray → Prop
  | lit (x : ByteArray) (hx : x.size ≤ 1000) (X : ByteArray) (hX : X = ⟨#[91]⟩ ++ x ++ ⟨#[93]⟩) : Dom [(3, x)] X
  | dots (Q : List (Nat × ByteArray)) (hQ : Q ≠ []) (hW : ∀ p ∈ Q, p.1 = 1) (hlen : (dotT Q).length ≤ 1000) (X : ByteArray) (hX : X = ⟨(dotT Q).toArray⟩) : Dom (dotK Q) X
set_option maxRecDepth 20000 in
theorem dotK_hd (Q : List (Nat × ByteArray)) (hQ : Q ≠ []) (L : List (Nat × ByteArray)) : ∃ p R, Q.head? = some p ∧ dotK Q ++ L = p :: R := by
  match Q, hQ with
  | [p], _ => exact ⟨p, L, rfl, rfl⟩
  | p :: a :: r, _ => exact ⟨p, _, rfl, rfl⟩
set_option maxRecDepth 20000 in
theorem sgNe (c d : UInt8) (h : (c == d) = false) : isSg (5, ⟨#[c]⟩) ⟨#[d]⟩ = false := by
  have h2 : ¬ c = d := by simpa using h
  simp [isSg, h2]
set_option maxRecDepth 20000 in
set_option maxHeartbeats 8000000 in
theorem rsDomain {B g k : Nat} {T : List Tk} {s : ByteArray} {q : Nat × Nat} {w : World} (hT : Ts T s) (K L : List (Nat × ByteArray)) (X : ByteArray) (hD : Dom K X) (h : Rs B T g s q (K ++ L) k w) (hL : isSg (hdT L) ⟨#[46]⟩ = false) :
    Calls Tryz.prog 131 #[scp g] w fun e w' => e = .returned (.tuple #[.string X, .nilIface]) ∧ Rs B T g s q L k w' ∧ w.grownBy w' (some g) := by
  have hgl := h.glt
  have hfd1 := fieldT1
  have hfd0 := fieldT0
  cases hD with
  | lit x hx X hX =>
    have HR := mkHid h
    have cP := mkHid (rsPeek hT h 3 x rfl)
    have HX := mkHid hX
    clear h hL hX
    have z1 : (⟨#[91]⟩ : ByteArray).size + x.size ≤ 2000 := by show 1 + x.size ≤ 2000; omega
    go_enter Tryz.func131, Tryz.ntmps131
    go_wp2_with fail
    refine cP.out.mono ?_
    rintro e w1 ⟨a, rfl, hb1⟩
    have cT := mkHid (rsTake hT 3 x L (HR.out.below hb1))
    have Hb1 := mkHid hb1
    clear cP HR hb1
    go_wp2_with fail
    refine cT.out.mono ?_
    rintro e w2 ⟨a2, rfl, hR2, hg2⟩
    have HR2 := mkHid hR2
    have Hg2 := mkHid (grown_trans (grown_below Hb1.out) hg2)
    clear cT hR2 hg2 Hb1
    have n1 : ¬ 9223372036854775807 < (((⟨#[91]⟩ : ByteArray) ++ x).size : Int) := by rw [ByteArray.size_append]; omega
    have n2 : ¬ 9223372036854775807 < (((⟨#[91]⟩ : ByteArray) ++ x ++ ⟨#[93]⟩).size : Int) := by
      rw [ByteArray.size_append, ByteArray.size_append]
      have : (⟨#[93]⟩ : ByteArray).size = 1 := rfl
      omega
    go_wp2
    rw [← HX.out]
    refine bodyPost_ret (v := .tuple #[.string X, .nilIface]) (by rw [results_tmp2 Tryz.results131]; rfl) rfl ?_
    exact ⟨rfl, HR2.out, Hg2.out⟩
  | dots Q hQ hW hlen X hX =>
    obtain ⟨⟨kd, x⟩, R, hh, hR⟩ := dotK_hd Q hQ L
    obtain rfl : kd = 1 := hW (kd, x) (List.mem_of_mem_head? hh)
    have HR := mkHid h
    have hp0 : Rs B T g s q ((1, x) :: R) k w := by rw [← hR]; exact h
    have cP := mkHid (rsPeek hT hp0 1 x rfl)
    have HQ := mkHid hQ
    have HW := mkHid hW
    have Hlen := mkHid hlen
    have HX := mkHid hX
    have HL := mkHid hL
    clear h hL hX hQ hW hlen hR hh hp0
    go_enter Tryz.func131, Tryz.ntmps131
    go_wp2_with fail
    refine cP.out.mono ?_
    rintro e w1 ⟨a, rfl, hb1⟩
    obtain ⟨W, hW⟩ : ∃ W, W = w1.alloc (.cells #[.int .i64 1] 2) := ⟨_, rfl⟩
    have hbW : Below w1.heap.size w1 W := by rw [hW]; exact (Below.refl _ _).alloc (Nat.le_refl _) _
    have hkW : W.heap[w1.heap.size]? = some (.cells #[.int .i64 1] 2 (0, 0)) := by rw [hW]; exact hp_alloc _ _
    have hK : Kinds w1.heap.size 1 W := ⟨.inl rfl, by simp [World.cell?, hkW], fun e => (by cases e), hp_lt hkW⟩
    have hg1 := (HR.out.below hb1).glt
    have cD := mkHid (rsDotted hT w1.heap.size 1 hK (by omega) Q L HQ.out ((HR.out.below hb1).below hbW) (fun p hp => .inl (HW.out p hp)) HL.out (Nat.le_trans Hlen.out (by omega)) X HX.out)
    have Hb := mkHid (hb1.trans (hbW.mono hb1.size))
    have HWe := mkHid hW
    clear cP hb1 hbW hkW hK hW HR
    go_wp2_with fail
    rw [← HWe.out]
    refine cD.out.mono ?_
    rintro e w2 ⟨rfl, hR2, hg2⟩
    have HR2 := mkHid hR2
    have Hg2 := mkHid (grown_trans (grown_below Hb.out) hg2)
    clear cD hR2 hg2 Hb
    go_wp2
    refine bodyPost_ret (v := .tuple #[.string X, .nilIface]) (by rw [results_tmp2 Tryz.results131]; rfl) rfl ?_
    exact ⟨rfl, HR2.out, Hg2.out⟩
set_option maxRecDepth 20000 in
/-- route, where there is none. -/
theorem rsRoute {B g k : Nat} {T : List Tk} {s : ByteArray} {q : Nat × Nat} {w : World} (hT : Ts T s) (L : List (Nat × ByteArray)) (h : Rs B T g s q L k w) (h1 : isSg (hdT L) ⟨#[64]⟩ = false) (h2 : isSg (hdT L) ⟨#[44]⟩ = false) :
    Calls Tryz.prog 129 #[scp g] w fun e w' => e = .returned .nilIface ∧ Below w.heap.size w w' := by
  have c1 := mkHid (rsSign hT h ⟨#[64]⟩ false h1)
  have HR := mkHid h
  clear h h1
  go_enter Tryz.func129, Tryz.ntmps129
  go_wp2_with fail
  refine c1.out.mono ?_
  rintro e w1 ⟨rfl, hb1⟩
  have c2 := mkHid (rsSign hT (HR.out.below hb1) ⟨#[44]⟩ false h2)
  go_wp2_with fail
  refine c2.out.mono ?_
  rintro e w2 ⟨rfl, hb2⟩
  have Hb := mkHid (hb1.trans (hb2.mono hb1.size))
  clear hb1 hb2
  go_wp2
  go_ret
  exact ⟨rfl, Hb.out⟩
set_option maxRecDepth 20000 in
theorem results_rowA {P : Program} {fn : Func} {p u : Tmp} {ty : TypeId} (h : fn.results = #[.cell p ty, .tmp u]) (tmps : Array Value) (w : World) (g : Nat) (t : TypeId) (cs : Array Value) (fr : Nat × Nat) (d : TypeDesc) (x : Value)
    (hp : tmps.getD p undef = .pointer (some ⟨g, 0, none⟩)) (hg : w.heap[g]? = some (.cells cs t fr))
    (hu : P.underlying ty = some d) (hd : (match d with | .struct _ | .array _ _ => true | _ => false) = true) (hi : (P.info? ty).map (·.size) = some cs.size) (hx : tmps.getD u undef = x) :
    (results fn tmps).run P w = .ok (.tuple #[.agg cs, x]) w := by
  rw [results_cell_tmp h, hp, hx]
  simp [asAddr, Result.andThen, run_loadVar_row w g t ty cs fr d hg hu hd hi]
set_option maxRecDepth 20000 in
theorem gr_setRowA {g b : Nat} {w W : World} {cs : Array Value} (h : w.grownBy W (some g)) (hb : w.heap.size ≤ b) : w.grownBy (W.setRow b cs) (some g) :=
  ⟨h.os, h.tape, h.output, by have := (grown_setRow W b cs).size; have := h.size; omega, fun k hk hr => (setRow_other W b k cs (by omega)).trans (h.block k hk hr)⟩
set_option maxRecDepth 20000 in
theorem Rs.setRow {B B0 b g k : Nat} {T : List Tk} {s : ByteArray} {q : Nat × Nat} {L : List (Nat × ByteArray)} {w : World} {cs : Array Value} (h : Rs B T g s q L k w) (hg : g < B0) (hq : q.1 < B0) (hb : B0 ≤ b) : Rs B T g s q L k (w.setRow b cs) :=
  h.lowB hg hq ⟨rfl, rfl, rfl, (grown_setRow w b cs).size, fun k hk => setRow_other w b k cs (by omega)⟩
set_option maxRecDepth 20000 in
set_option maxHeartbeats 8000000 in
theorem rsAddress {B g k : Nat} {T : List Tk} {s : ByteArray} {q : Nat × Nat} {w : World} (hT : Ts T s) (Q K L : List (Nat × ByteArray)) (l d : ByteArray) (hQ : Q ≠ []) (hW : Q.all isWd = true) (hlen : (dotT Q).length ≤ 1000) (hl : l = ⟨(dotT Q).toArray⟩) (hD : Dom K d) (h : Rs B T g s q (dotK Q ++ (5, ⟨#[64]⟩) :: (K ++ L)) k w) (hL : isSg (hdT L) ⟨#[46]⟩ = false) :
    Calls Tryz.prog 119 #[scp g] w fun e w' => e = .returned (.tuple #[.agg #[.string ⟨#[]⟩, .string l, .string d], .nilIface]) ∧ Rs B T g s q L k w' ∧ w.grownBy w' (some g) := by
  have hgl := h.glt
  have hql := h.qlt
  obtain ⟨W, hW0⟩ : ∃ W, W = (w.alloc (.cells #[.string ⟨#[]⟩, .string ⟨#[]⟩, .string ⟨#[]⟩] 35)).alloc (.cells #[.int .i64 1, .int .i64 2] 2) := ⟨_, rfl⟩
  have hbW : Below w.heap.size w W := by rw [hW0]; exact ((Below.refl _ _).alloc (Nat.le_refl _) _).alloc (by simp) _
  have hA0 : W.heap[w.heap.size]? = some (.cells #[.string ⟨#[]⟩, .string ⟨#[]⟩, .string ⟨#[]⟩] 35 (0, 0)) := by
    rw [hW0, heap_alloc_old _ _ _ (by simp)]
    exact hp_alloc _ _
  have hkW : W.heap[w.heap.size + 1]? = some (.cells #[.int .i64 1, .int .i64 2] 2 (0, 0)) := by
    rw [hW0]
    have := hp_alloc (w.alloc (.cells #[.string ⟨#[]⟩, .string ⟨#[]⟩, .string ⟨#[]⟩] 35)) (.cells #[.int .i64 1, .int .i64 2] 2)
    rwa [World.size_alloc] at this
  have hK : Kinds (w.heap.size + 1) 2 W := ⟨.inr rfl, by simp [World.cell?, hkW], fun _ => by simp [World.cell?, hkW], hp_lt hkW⟩
  have hWd : ∀ p ∈ Q, p.1 = 1 ∨ p.1 = 2 ∧ 2 = 2 := fun p hp => by
    have h5 := List.all_eq_true.1 hW p hp
    unfold isWd at h5
    rcases Bool.or_eq_true_iff.1 h5 with h6 | h6
    · exact .inl (of_decide_eq_true h6)
    · exact .inr ⟨of_decide_eq_true h6, rfl⟩
  have cD := mkHid (rsDotted hT (w.heap.size + 1) 2 hK (by omega) Q ((5, ⟨#[64]⟩) :: (K ++ L)) hQ (h.below hbW) hWd (sgNe 64 46 (by decide)) (Nat.le_trans hlen (by omega)) l hl)
  have HbW := mkHid hbW
  have HA0 := mkHid hA0
  have HW0 := mkHid hW0
  have HD := mkHid hD
  have HL := mkHid hL
  clear h hW hQ hlen hl hbW hA0 hkW hK hWd hW0 hD hL
  go_enter Tryz.func119, Tryz.ntmps119
  go_wp2_with fail
  rw [← HW0.out]
  refine cD.out.mono ?_
  rintro e w1 ⟨rfl, hR1, hg1⟩
  have hneg : some w.heap.size ≠ some g := fun e => by have := Option.some.inj e; omega
  have HA1 : Hid (w1.heap[w.heap.size]? = some (.cells #[.string ⟨#[]⟩, .string ⟨#[]⟩, .string ⟨#[]⟩] 35 (0, 0))) := mkHid ((hg1.block _ (hp_lt HA0.out) hneg).trans HA0.out)
  have Hg1 := mkHid (grown_trans (grown_below HbW.out) hg1)
  have cY := mkHid (rsTakeYes hT ⟨#[64]⟩ (K ++ L) hR1)
  clear cD hR1 hg1 HA0 HbW HW0
  go_wp2_with fail
  refine cY.out.mono ?_
  rintro e w2 ⟨rfl, hR2, hg2⟩
  have HA2 : Hid (w2.heap[w.heap.size]? = some (.cells #[.string ⟨#[]⟩, .string ⟨#[]⟩, .string ⟨#[]⟩] 35 (0, 0))) := mkHid ((hg2.block _ (hp_lt HA1.out) hneg).trans HA1.out)
  have Hg2 := mkHid (grown_trans Hg1.out hg2)
  have cM := mkHid (rsDomain hT K L d HD.out hR2 HL.out)
  clear cY hR2 hg2 HA1 Hg1
  go_wp2_with fail
  refine cM.out.mono ?_
  rintro e w3 ⟨rfl, hR3, hg3⟩
  have HA3 : Hid (w3.heap[w.heap.size]? = some (.cells #[.string ⟨#[]⟩, .string ⟨#[]⟩, .string ⟨#[]⟩] 35 (0, 0))) := mkHid ((hg3.block _ (hp_lt HA2.out) hneg).trans HA2.out)
  have Hg3 := mkHid (grown_trans Hg2.out hg3)
  have HR3 := mkHid hR3
  clear cM hR3 hg3 HA2 Hg2
  go_wp2_with (refine wpL_store_row rfl 35 _ _ rfl w.heap.size #[.string ⟨#[]⟩, .string l, .string d] rfl rfl 35 _ HA3.out (by kernel_rfl) rfl (by simp [Value.oneCell']) ?_)
  refine bodyPost_ret (v := .tuple #[.agg #[.string ⟨#[]⟩, .string l, .string d], .nilIface]) (results_rowA Tryz.results119 _ _ w.heap.size 35 _ (0, 0) _ _ rfl (setRow_heap _ _ _ _ _ _ HA3.out) Tryz.underlying35 rfl (by kernel_rfl) rfl) rfl ?_
  exact ⟨rfl, HR3.out.setRow hgl hql (Nat.le_refl _), gr_setRowA Hg3.out (Nat.le_refl _)⟩
end Go.Proofs.YtadoifnfgoonaaaGreatDoor
