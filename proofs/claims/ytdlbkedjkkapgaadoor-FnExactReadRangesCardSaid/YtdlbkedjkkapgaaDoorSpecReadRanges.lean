
/- The specification's ReadRanges. -/
import Derived.Test.YtdlbkedjkkapgaaDoorSpecNum
import Derived.Test.YtdlbkedjkkapgaaDoorGenRange
namespace Go.Proofs.YtdlbkedjkkapgaaDoor
open Go.RowKit Go.Lib Go.Maps
namespace Cu
def ra (p : List UInt8) : Int := rnum ((cut 58 [] p).getD 0 [])
def rb (p : List UInt8) : Int := rnum ((cut 58 [] p).getD ((cut 58 [] p).length - 1) [])
def okp (p : List UInt8) : Bool := decide ((cut 58 [] p).length ≤ 2) && (decide (0 ≤ ra p) && decide (0 ≤ rb p))
def rg (p : List UInt8) : GRange := if rb p < ra p then ⟨rb p, ra p⟩ else ⟨ra p, rb p⟩
def rr : List GRange → List (List UInt8) → List GRange
  | C, [] => C
  | C, p :: r => if okp p && !(decide (C.length = 100)) then rr (C ++ [rg p]) r else []
theorem rr_step (C : List GRange) (l : List (List UInt8)) (k : Nat) (h : k < l.length) : rr C (l.drop k) = if okp l[k] && !(decide (C.length = 100)) then rr (C ++ [rg l[k]]) (l.drop (k + 1)) else [] := by
  rw [List.drop_eq_getElem_cons h, rr]
end Cu
def plReadRanges (t : ByteArray) : List GRange := if 3000 < t.size then [] else Cu.rr [] (Cu.cut 44 [] t.data.toList)
theorem own_apart {w : World} {B B' s s' n n' : Nat} {e e' : TypeId} {v v' : Value} {xs xs' : List Value} (h : w.ownsRow B e s v n xs) (h' : w.ownsRow B' e' s' v' n' xs') (he : e ≠ e') : v.ownBlock = none ∨ v.ownBlock ≠ v'.ownBlock := by
  rcases h.2 with ⟨rfl, -⟩ | ⟨g, cap, cur, rfl, -, hg, -⟩
  · exact .inl rfl
  · right
    rcases h'.2 with ⟨rfl, -⟩ | ⟨g', cap', cur', rfl, -, hg', -⟩
    · simp [Value.ownBlock]
    · intro e1
      simp only [Value.ownBlock, Option.some.injEq] at e1
      rw [e1, hg'] at hg
      simp only [Option.some.injEq, Obj.cells.injEq] at hg
      exact he hg.2.1.symm
def rgCells (P : List GRange) : List Value := P.flatMap fun r => [.int .i64 r.fromF, .int .i64 r.toF]
theorem rgCells_len (P : List GRange) : (rgCells P).length = P.length * 2 := by
  induction P with
  | nil => rfl
  | cons r t ih => simp only [rgCells, List.flatMap_cons, List.length_append, List.length_cons, List.length_nil] at ih ⊢; omega
theorem rgCells_app (P : List GRange) (r : GRange) : rgCells (P ++ [r]) = rgCells P ++ [.int .i64 r.fromF, .int .i64 r.toF] := by
  simp [rgCells, List.flatMap_append]
/-- The slice v, whose array is among the blocks from B on, holds just the ranges P. -/
def OwnR (B : Nat) (v : Value) (P : List GRange) (w : World) : Prop := w.ownsRow B 31 2 v P.length (rgCells P)
theorem OwnR.made (B : Nat) (w : World) (hB : B ≤ w.heap.size) : OwnR B (.slice (some ⟨w.heap.size, 0, none⟩) 0 0) [] (w.alloc (.cells #[] 31)) :=
  ⟨rfl, .inr ⟨w.heap.size, 0, #[], rfl, hB, heap_alloc_at _ _, Nat.le_refl _, Nat.zero_le _, rfl, rfl⟩⟩
theorem OwnR.shape {B : Nat} {v : Value} {P : List GRange} {w : World} (h : OwnR B v P w) : ∃ o cap, v = .slice o P.length cap := by
  rcases h.2 with ⟨rfl, h0⟩ | ⟨g, cap, cur, rfl, -⟩
  · exact ⟨none, 0, by rw [h0]⟩
  · exact ⟨_, cap, rfl⟩
theorem OwnR.keep {B : Nat} {v : Value} {P : List GRange} {w w' : World} {row : Option Nat} (h : OwnR B v P w) (hg : w.grownBy w' row) (hne : v.ownBlock = none ∨ v.ownBlock ≠ row) : OwnR B v P w' := World.ownsRow.kept h hg hne
theorem OwnR.below {B : Nat} {v : Value} {P : List GRange} {w w' : World} (h : OwnR B v P w) (hb : Below w.heap.size w w') : OwnR B v P w' := World.ownsRow.kept h (row := none) ⟨hb.os, hb.tape, hb.output, hb.size, fun k hk _ => hb.block k hk⟩ (by
  cases hv : v.ownBlock with
  | none => exact .inl rfl
  | some k => exact .inr (by simp))
theorem wp_appR {w : World} {ops : Array Oper} {rest : List Oper} {o : Oper} {a : Act} {Q : Exit → Act → World → Prop} (hgd : o.guard = none) (s x : Operand)
    (ho : o.op = .call { callee := .builtin .append, args := #[s, x], argTypes := #[22, 22] })
    (B : Nat) (v : Value) (C : List GRange) (hs : a.eval s = v) (hown : OwnR B v C w) (r : GRange)
    (c : Nat) (hx : a.eval x = .slice (some ⟨w.heap.size, 0, none⟩) 1 c) (hlen : C.length ≤ 1000000) (hB : B ≤ w.heap.size)
    (h : ∀ v' w', OwnR B v' (C ++ [r]) w' → (w.alloc (.cells #[.int .i64 r.fromF, .int .i64 r.toF] 31)).grownBy w' v.ownBlock → wpList Tryd.prog ops Q rest (a.put o.dst v') w') : wpList Tryd.prog ops Q (o :: rest) a (w.alloc (.cells #[.int .i64 r.fromF, .int .i64 r.toF] 31)) := by
  obtain ⟨i0, hi0, hz0, hz1, hz2⟩ := info_parts Tryd.infoGRange
  unfold OwnR at hown
  refine wpList_append_own _ hgd s x 22 ho B 31 i0 (.agg #[.int .i64 0, .int .i64 0]) 2 16 Tryd.underlying22 hi0 hz0 hz1 hz2 rfl (by decide) v C.length (rgCells C) hs (World.ownsRow.alloc hown _) ⟨w.heap.size, 0, none⟩ 1 c [.int .i64 r.fromF, .int .i64 r.toF] hx
    rfl ?_ ?_ (by unfold maxLen; omega) (by omega) (by simp; omega) ?_
  · intro j y hj
    rw [add_off]
    match j, hj with
    | 0, hj => simp at hj; subst hj; simp
    | 1, hj => simp at hj; subst hj; simp
  · intro y hy
    simp at hy
    rcases hy with rfl | rfl <;> rfl
  · intro v' w' h1 h2 _
    refine h v' w' ?_ h2
    unfold OwnR
    rw [rgCells_app, List.length_append]
    exact h1
theorem mk_list (l : List UInt8) : (Cu.mk l).data.toList = l := by simp [Cu.mk]
theorem mk_size (l : List UInt8) : (Cu.mk l).size = l.length := by simp [Cu.mk, ByteArray.size]
set_option maxHeartbeats 8000000 in
set_option maxRecDepth 20000 in
theorem specReadRanges (t : ByteArray) (w : World) (hs : t.size ≤ 1048576) :
    Calls Tryd.prog 4 #[.string t] w fun e w' => ∃ y : Value, e = .returned y ∧ Hid (OwnR w.heap.size y (plReadRanges t) w') ∧ Below w.heap.size w w' := by
  unfold plReadRanges
  obtain ⟨W, hW⟩ : ∃ W, W = w.alloc (.cells #[] 31) := ⟨_, rfl⟩
  have hbW : Hid (Below w.heap.size w W) := by rw [hW]; exact (Below.refl _ _).alloc (Nat.le_refl _) _
  have hown0 : Hid (OwnR w.heap.size (.slice (some ⟨w.heap.size, 0, none⟩) 0 0) [] W) := by rw [hW]; exact OwnR.made _ w (Nat.le_refl _)
  have HW := mkHid hW
  clear hW
  by_cases h3 : 3000 < t.size
  · have x1 : decide ((3000 : Int) < (t.size : Int)) = true := decide_eq_true (by omega)
    rw [if_pos h3]
    go_enter Tryd.func4, Tryd.ntmps4
    go_wp2
    go_ret
    rw [← HW.out]
    exact ⟨_, rfl, hown0, hbW.out⟩
  · have x1 : decide ((3000 : Int) < (t.size : Int)) = false := decide_eq_false (by omega)
    rw [if_neg h3]
    have cC := mkHid (specCut t 44 W (by omega))
    have hsm : Hid (∀ p ∈ Cu.cut 44 [] t.data.toList, p.length ≤ 3000) := by
      intro p hp
      have := Cu.cut_mem 44 _ _ _ hp
      have hll : t.data.toList.length = t.size := by simp
      simp only [List.length_nil] at this
      omega
    have hcl : (Cu.cut 44 [] t.data.toList).length ≤ 3001 := by
      have := Cu.cut_len 44 t.data.toList []
      have hll : t.data.toList.length = t.size := by simp
      omega
    obtain ⟨P, hP⟩ : ∃ P, Cu.rr [] (Cu.cut 44 [] t.data.toList) = P := ⟨_, rfl⟩
    rw [hP]
    have HP : Hid (Cu.rr [] ((Cu.cut 44 [] t.data.toList).drop 0) = P) := hP
    clear hP
    generalize Cu.cut 44 [] t.data.toList = L at *
    go_enter Tryd.func4, Tryd.ntmps4
    go_wp2_with (go_at_call 9; fail)
    rw [← HW.out]
    refine cC.out.mono ?_
    rintro e w1 ⟨y, rfl, hpx, hb1⟩
    have hpx2 : OwnX W.heap.size y (L.map Cu.mk) w1 := hpx.out
    obtain ⟨po, pk, rfl⟩ := hpx2.shape
    have hown1 := mkHid (hown0.out.below hb1)
    have B1 := mkHid (hbW.out.trans (hb1.mono hbW.out.size))
    have hml : (L.map Cu.mk).length = L.length := List.length_map _
    replace hpx := mkHid hpx2
    rw [hml] at hpx ⊢
    clear cC hown0 hpx2 hb1 HW
    go_wp2
    go_loopw [3, 5] (fun yv iv wr => ∃ (i : Nat) (C : List GRange), i ≤ L.length ∧ iv = .int .i64 i ∧ C.length ≤ 100 ∧ Hid (Cu.rr C (L.drop i) = P) ∧ Hid (OwnR w.heap.size yv C wr) ∧ Hid (OwnX W.heap.size (.slice po L.length pk) (L.map Cu.mk) wr) ∧ Hid (Below w.heap.size w wr)) (fun _ iv _ => L.length - (Lib.intOf iv).toNat)
    case atStart => exact ⟨0, [], Nat.zero_le _, rfl, Nat.zero_le _, HP, hown1, hpx, B1⟩
    case round =>
      clear HP hown1 hpx B1
      obtain ⟨i, C, hi, rfl, hCl, hz, hown, hpx, hB⟩ := hrel
      obtain ⟨co, ck, rfl⟩ := hown.out.shape
      by_cases hlt : i < L.length
      · have htx : TxL W.heap.size wr.heap.size wr po (L.map Cu.mk) := OwnX.txL (cap := pk) (by rw [hml]; exact hpx.out)
        obtain ⟨a, rfl, ha1, ha2, c0⟩ := htx i (by rw [hml]; exact hlt)
        rw [List.getElem_map] at c0
        have hst := hz.out
        rw [Cu.rr_step C L i hlt] at hst
        have hpl := hsm.out L[i] (List.getElem_mem hlt)
        clear htx hz
        generalize L[i] = pc at *
        unfold Cu.okp at hst
        have cQ := mkHid (specCut (Cu.mk pc) 58 wr (by rw [mk_size]; omega))
        rw [mk_list] at cQ
        have hqn := Cu.cut_ne 58 pc []
        have hql : (Cu.cut 58 [] pc).length ≤ 3001 := by have := Cu.cut_len 58 pc []; omega
        have hqm := Cu.cut_mem 58 pc []
        have hra : Cu.ra pc = Cu.rnum ((Cu.cut 58 [] pc).getD 0 []) := rfl
        have hrb : Cu.rb pc = Cu.rnum ((Cu.cut 58 [] pc).getD ((Cu.cut 58 [] pc).length - 1) []) := rfl
        have hrg : Cu.rg pc = if Cu.rb pc < Cu.ra pc then ⟨Cu.rb pc, Cu.ra pc⟩ else ⟨Cu.ra pc, Cu.rb pc⟩ := rfl
        generalize Cu.cut 58 [] pc = q at *
        generalize Cu.ra pc = za at *
        generalize Cu.rb pc = zb at *
        generalize Cu.rg pc = rgv at *
        have hq0 : 0 < q.length := List.length_pos_iff.2 hqn
        obtain ⟨q0, hq0e⟩ : ∃ q0, q.getD 0 [] = q0 := ⟨_, rfl⟩
        obtain ⟨q1, hq1e⟩ : ∃ q1, q.getD (q.length - 1) [] = q1 := ⟨_, rfl⟩
        have hg0 : q[0]'hq0 = q0 := by rw [← hq0e, List.getD_eq_getElem?_getD, List.getElem?_eq_getElem hq0]; rfl
        have hg1 : q[q.length - 1]'(by omega) = q1 := by rw [← hq1e, List.getD_eq_getElem?_getD, List.getElem?_eq_getElem (by omega)]; rfl
        have hs0 : q0.length ≤ 3000 := by have := hqm q0 (by rw [← hg0]; exact List.getElem_mem hq0); simp at this; omega
        have hs1 : q1.length ≤ 3000 := by have := hqm q1 (by rw [← hg1]; exact List.getElem_mem _); simp at this; omega
        rw [hq0e] at hra
        rw [hq1e] at hrb
        have Hg0 := mkHid hg0
        have Hg1 := mkHid hg1
        have Hra := mkHid hra
        have Hrb := mkHid hrb
        have Hrg := mkHid hrg
        replace hst := mkHid hst
        clear hqn hqm hq0e hq1e hg0 hg1 hra hrb hrg hpl
        go_wp2_with (go_at_call 9; fail)
        refine cQ.out.mono ?_
        rintro e w2 ⟨y, rfl, hqx, hb2⟩
        have hmq : (q.map Cu.mk).length = q.length := List.length_map _
        obtain ⟨qo, qk, rfl⟩ := hqx.out.shape
        have htq : TxL wr.heap.size w2.heap.size w2 qo (q.map Cu.mk) := OwnX.txL hqx.out
        obtain ⟨b, rfl, hb1', hb2', d0⟩ := htq 0 (by rw [hmq]; exact hq0)
        obtain ⟨b', eb, -, -, d1⟩ := htq (q.length - 1) (by rw [hmq]; omega)
        cases eb
        rw [List.getElem_map, Hg0.out] at d0
        rw [List.getElem_map, Hg1.out] at d1
        have B2 := mkHid (hB.out.trans (hb2.mono hB.out.size))
        have hown2 := mkHid (hown.out.below hb2)
        have hpx2 := mkHid (hpx.out.below hb2)
        have cA := mkHid (specRnum (Cu.mk q0) w2 (by rw [mk_size]; omega))
        have cB := mkHid (specRnum (Cu.mk q1) w2 (by rw [mk_size]; omega))
        rw [mk_list, ← Hra.out] at cA
        rw [mk_list, ← Hrb.out] at cB
        rw [hmq]
        have d0b := d0
        rw [show b.add 0 = b from rfl] at d0b
        have hqI : (q.length : Int) - 1 = ((q.length - 1 : Nat) : Int) := by omega
        clear cQ htq hqx hb2 hown hpx hB c0 hmq Hg0 Hg1
        generalize hqk : q.length = ql at *
        generalize Cu.mk q0 = t0 at *
        generalize Cu.mk q1 = t1 at *
        go_wp2_with (go_at_call 10; fail)
        refine cA.out.mono ?_
        rintro e w3 ⟨rfl, rfl⟩
        clear cA
        go_wp2_with (go_at_call 10; fail)
        refine cB.out.mono ?_
        rintro e w4 ⟨rfl, rfl⟩
        clear cB
        by_cases g1 : ql ≤ 2
        · have u1 : decide ((2 : Int) < (ql : Int)) = false := decide_eq_false (by omega)
          by_cases g2 : 0 ≤ za
          · have u2 : decide (za < 0) = false := decide_eq_false (by omega)
            by_cases g3 : 0 ≤ zb
            · have u3 : decide (zb < 0) = false := decide_eq_false (by omega)
              by_cases g4 : C.length = 100
              · have u4 : ((C.length : Int) == 100) = true := by rw [beq_iff_eq]; omega
                have hr : Hid (P = []) := by show _ = _; rw [← hst.out, decide_eq_true g4]; simp
                clear hst
                have hfin : Hid (OwnR w.heap.size (.slice (some ⟨w2.heap.size, 0, none⟩) 0 0) [] (w2.alloc (.cells #[] 31))) := OwnR.made _ w2 B2.out.size
                have hbf : Hid (Below w.heap.size w (w2.alloc (.cells #[] 31))) := B2.out.alloc B2.out.size _
                go_wp2
                go_ret
                exact ⟨_, rfl, by rw [hr.out]; exact hfin, hbf.out⟩
              · have u4 : ((C.length : Int) == 100) = false := by rw [beq_eq_false_iff_ne]; omega
                have hC99 : C.length ≤ 99 := by omega
                by_cases g5 : zb < za
                · have u5 : decide (zb < za) = true := decide_eq_true g5
                  have hrv : rgv = ⟨zb, za⟩ := by rw [Hrg.out, if_pos g5]
                  subst hrv
                  have hst2 : Hid (Cu.rr (C ++ [⟨zb, za⟩]) (L.drop (i + 1)) = P) := by
                    show _ = _
                    have := hst.out
                    rw [decide_eq_true g1, decide_eq_true g2, decide_eq_true g3, decide_eq_false g4] at this
                    exact this
                  have hnb : Hid (∀ k, (Value.slice co C.length ck).ownBlock = some k → w.heap.size ≤ k) := fun k hk => (World.ownsRow.lt hown2.out k hk).1
                  have hsw : w.heap.size ≤ w2.heap.size := B2.out.size
                  clear hst Hrg d0 d0b d1
                  go_wp2_with (first | (at_builtin; (refine wp_appR rfl _ _ rfl w.heap.size (.slice co C.length ck) C rfl hown2.out ⟨zb, za⟩ 1 (by rfl) (by omega) hsw ?_; intro y5 w6 hown5 hg5; refine Hid.out ?_)) | fail)
                  have hal := (Below.refl w2.heap.size w2).alloc (Nat.le_refl _) (.cells #[.int .i64 zb, .int .i64 za] 31)
                  have hpx6 : Hid (OwnX W.heap.size (.slice (some a) L.length pk) (L.map Cu.mk) w6) := (hpx2.out.below hal).keep hg5 (own_apart (hpx2.out.below hal) (hown2.out.below hal) (by decide))
                  have B6 : Hid (Below w.heap.size w w6) := (B2.out.alloc hsw (.cells #[.int .i64 zb, .int .i64 za] 31)).grown hg5 (by simp; omega) (fun k hk => hnb.out k hk)
                  replace hown5 := mkHid hown5
                  have hC5 : (C ++ [(⟨zb, za⟩ : GRange)]).length ≤ 100 := by rw [List.length_append, List.length_singleton]; omega
                  clear hg5 hal hnb hown2 hpx2 B2
                  refine mkHid ?_
                  go_wp2
                  go_roundw
                  case rel => exact ⟨i + 1, C ++ [⟨zb, za⟩], by omega, by go_num, hC5, hst2, hown5, hpx6, B6⟩
                  case measure => simp [Lib.intOf]; omega
                · have u5 : decide (zb < za) = false := decide_eq_false g5
                  have hrv : rgv = ⟨za, zb⟩ := by rw [Hrg.out, if_neg g5]
                  subst hrv
                  have hst2 : Hid (Cu.rr (C ++ [⟨za, zb⟩]) (L.drop (i + 1)) = P) := by
                    show _ = _
                    have := hst.out
                    rw [decide_eq_true g1, decide_eq_true g2, decide_eq_true g3, decide_eq_false g4] at this
                    exact this
                  have hnb : Hid (∀ k, (Value.slice co C.length ck).ownBlock = some k → w.heap.size ≤ k) := fun k hk => (World.ownsRow.lt hown2.out k hk).1
                  have hsw : w.heap.size ≤ w2.heap.size := B2.out.size
                  clear hst Hrg d0 d0b d1
                  go_wp2_with (first | (at_builtin; (refine wp_appR rfl _ _ rfl w.heap.size (.slice co C.length ck) C rfl hown2.out ⟨za, zb⟩ 1 (by rfl) (by omega) hsw ?_; intro y5 w6 hown5 hg5; refine Hid.out ?_)) | fail)
                  have hal := (Below.refl w2.heap.size w2).alloc (Nat.le_refl _) (.cells #[.int .i64 za, .int .i64 zb] 31)
                  have hpx6 : Hid (OwnX W.heap.size (.slice (some a) L.length pk) (L.map Cu.mk) w6) := (hpx2.out.below hal).keep hg5 (own_apart (hpx2.out.below hal) (hown2.out.below hal) (by decide))
                  have B6 : Hid (Below w.heap.size w w6) := (B2.out.alloc hsw (.cells #[.int .i64 za, .int .i64 zb] 31)).grown hg5 (by simp; omega) (fun k hk => hnb.out k hk)
                  replace hown5 := mkHid hown5
                  have hC5 : (C ++ [(⟨za, zb⟩ : GRange)]).length ≤ 100 := by rw [List.length_append, List.length_singleton]; omega
                  clear hg5 hal hnb hown2 hpx2 B2
                  refine mkHid ?_
                  go_wp2
                  go_roundw
                  case rel => exact ⟨i + 1, C ++ [⟨za, zb⟩], by omega, by go_num, hC5, hst2, hown5, hpx6, B6⟩
                  case measure => simp [Lib.intOf]; omega
            · have u3 : decide (zb < 0) = true := decide_eq_true (by omega)
              have hr : Hid (P = []) := by show _ = _; rw [← hst.out, decide_eq_false g3]; simp
              clear hst
              have hfin : Hid (OwnR w.heap.size (.slice (some ⟨w2.heap.size, 0, none⟩) 0 0) [] (w2.alloc (.cells #[] 31))) := OwnR.made _ w2 B2.out.size
              have hbf : Hid (Below w.heap.size w (w2.alloc (.cells #[] 31))) := B2.out.alloc B2.out.size _
              go_wp2
              go_ret
              exact ⟨_, rfl, by rw [hr.out]; exact hfin, hbf.out⟩
          · have u2 : decide (za < 0) = true := decide_eq_true (by omega)
            have hr : Hid (P = []) := by show _ = _; rw [← hst.out, decide_eq_false g2]; simp
            clear hst
            have hfin : Hid (OwnR w.heap.size (.slice (some ⟨w2.heap.size, 0, none⟩) 0 0) [] (w2.alloc (.cells #[] 31))) := OwnR.made _ w2 B2.out.size
            have hbf : Hid (Below w.heap.size w (w2.alloc (.cells #[] 31))) := B2.out.alloc B2.out.size _
            go_wp2
            go_ret
            exact ⟨_, rfl, by rw [hr.out]; exact hfin, hbf.out⟩
        · have u1 : decide ((2 : Int) < (ql : Int)) = true := decide_eq_true (by omega)
          have hr : Hid (P = []) := by show _ = _; rw [← hst.out, decide_eq_false g1]; simp
          clear hst
          have hfin : Hid (OwnR w.heap.size (.slice (some ⟨w2.heap.size, 0, none⟩) 0 0) [] (w2.alloc (.cells #[] 31))) := OwnR.made _ w2 B2.out.size
          have hbf : Hid (Below w.heap.size w (w2.alloc (.cells #[] 31))) := B2.out.alloc B2.out.size _
          go_wp2
          go_ret
          exact ⟨_, rfl, by rw [hr.out]; exact hfin, hbf.out⟩
      · have hz1 : Hid (C = P) := by
          have := hz.out
          rw [List.drop_eq_nil_of_le (by omega)] at this
          exact this
        clear hz hpx
        go_wp2
        go_ret
        exact ⟨_, rfl, by rw [← hz1.out]; exact hown, hB.out⟩
end Go.Proofs.YtdlbkedjkkapgaaDoor
