
/- The program's coder: a node of its own. -/
import Derived.Test.YtonnmbkfjiddnaaCompImplC
import Derived.Test.YtonnmbkfjiddnaaNodeImpl
namespace Go.Proofs.Ytonnmbkfjiddnaa
open Go.RowKit Go.Lib Go.Maps
abbrev nCs (n : Nd) (vn vk vd : Value) : Array Value := #[.int .i64 n.kind, .int .i64 n.num, .int .i64 n.mat, .string n.text, vn, vk, vd]
abbrev zCn : Array Value := #[.int .i64 0, .int .i64 0, .int .i64 0, .string ⟨#[]⟩, .slice none 0 0, .slice none 0 0, .slice none 0 0]
theorem far_of {B1 B2 : Nat} {v1 v2 : Value} {P1 P2 : List ByteArray} {w1 w2 : World} (h1 : OwnX B1 v1 P1 w1) (h2 : OwnX B2 v2 P2 w2) (h : w1.heap.size ≤ B2) : FarX (v1, P1) (v2, P2) := by
  by_cases hn : P1 = []
  · exact .inl hn
  by_cases hn2 : P2 = []
  · exact .inr (.inl hn2)
  refine .inr (.inr ?_)
  rcases h1.2 with ⟨-, h0⟩ | ⟨q, cap', cur, e1, -⟩
  · exact absurd (List.length_eq_zero_iff.1 h0) hn
  rcases h2.2 with ⟨-, h0⟩ | ⟨q2, cap2, cur2, e2, -⟩
  · exact absurd (List.length_eq_zero_iff.1 h0) hn2
  have l1 := (World.ownsRow.lt h1 q (by rw [e1]; rfl)).2
  have l2 := (World.ownsRow.lt h2 q2 (by rw [e2]; rfl)).1
  subst e1 e2
  simp only [Value.ownBlock, ne_eq, Option.some.injEq]
  omega
set_option maxHeartbeats 4000000 in
theorem implOwnNode (n : Nd) (a1 a2 a3 : Option Addr) (c1 c2 c3 : Nat) (w : World) (T1 : Tx w.heap.size w a1 n.names) (T2 : Tx w.heap.size w a2 n.keys) (hf : n.fits 1048576) :
    Calls Try.prog 45 #[ndV n (.slice a1 n.names.length c1) (.slice a2 n.keys.length c2) (.slice a3 n.kids.length c3)] w fun e w' => ∃ un uk ud, e = .returned (ndV (Cp.bare n) un uk ud) ∧ LsX w.heap.size w' (un, n.names) ∧ LsX w.heap.size w' (uk, n.keys) ∧ FarX (un, n.names) (uk, n.keys) ∧ (∃ o c, ud = .slice o 0 c) ∧ Below w.heap.size w w' := by
  obtain ⟨f0, f1, f2, f3, f4, f5⟩ := hf
  obtain ⟨S, hS⟩ : ∃ S, w.heap.size = S := ⟨_, rfl⟩
  obtain ⟨W, hW⟩ : ∃ W, (w.alloc (.cells (nCs n (.slice a1 n.names.length c1) (.slice a2 n.keys.length c2) (.slice a3 n.kids.length c3)) 44)).alloc (.cells zCn 44) = W := ⟨_, rfl⟩
  have hb : Below S w W := by
    rw [← hW, ← hS]
    exact ((Below.refl _ _).alloc (Nat.le_refl _) _).alloc (by simp) _
  have hs : W.heap.size = S + 2 := by rw [← hW, ← hS]; simp
  have hx : W.heap[S]? = some (.cells (nCs n (.slice a1 n.names.length c1) (.slice a2 n.keys.length c2) (.slice a3 n.kids.length c3)) 44 (0, 0)) := by
    rw [← hW, heap_alloc_old _ _ _ (by simp; omega), ← hS]
    exact heap_alloc_at _ _
  have hr : W.heap[S + 1]? = some (.cells zCn 44 (0, 0)) := by
    have := heap_alloc_at (w.alloc (.cells (nCs n (.slice a1 n.names.length c1) (.slice a2 n.keys.length c2) (.slice a3 n.kids.length c3)) 44)) (.cells zCn 44)
    rw [hW] at this
    simpa [hS] using this
  have y3 : ((w.alloc (.cells (nCs n (.slice a1 n.names.length c1) (.slice a2 n.keys.length c2) (.slice a3 n.kids.length c3)) 44)).alloc (.cells zCn 44)).cell? ⟨w.heap.size, 3, none⟩ = some (.string n.text) := by rw [hW, hS]; exact (blk7 hx).2.2.2.1
  have kc := mkHid (libClone n.text W (by omega))
  have kn := mkHid (fun (V : World) (hv : Below S w V) => implOwnTexts n.names a1 c1 V ((T1.below (hS ▸ hv)).mono (hv.size)) f1 f2)
  have kk := mkHid (fun (V : World) (hv : Below S w V) => implOwnTexts n.keys a2 c2 V ((T2.below (hS ▸ hv)).mono (hv.size)) f3 f4)
  have HW := mkHid hW
  have HS := mkHid hS
  have Hb := mkHid hb
  have Hx := mkHid hx
  have Hr := mkHid hr
  have Hs := mkHid hs
  unfold ndV
  clear hb hx hr hW hs T1 T2 hS
  go_enter Try.func45, Try.ntmps45
  go_wp2_with (go_at_call 58; fail)
  rw [HW.out]
  refine kc.out.mono ?_
  rintro e w1 ⟨rfl, hb1⟩
  have hx1 := (hb1.block S (by rw [Hs.out]; omega)).trans Hx.out
  have hr1 := (hb1.block (S + 1) (by rw [Hs.out]; omega)).trans Hr.out
  have gs1 : S + 2 ≤ w1.heap.size := by have := hb1.size; rw [Hs.out] at this; exact this
  have hB1 : Below S w w1 := Hb.out.trans (hb1.mono (by rw [Hs.out]; omega))
  obtain ⟨V1, hV1⟩ : ∃ V1, w1.setCell ⟨S, 3, none⟩ (.string n.text) = V1 := ⟨_, rfl⟩
  have hxV1 : V1.heap[S]? = some (.cells (nCs n (.slice a1 n.names.length c1) (.slice a2 n.keys.length c2) (.slice a3 n.kids.length c3)) 44 (0, 0)) := by
    rw [← hV1]
    simp [World.setCell, Array.getElem?_modify, hx1]
  have hg1 : w1.grownBy V1 (some S) := by rw [← hV1]; exact grG_set w1 S 3 _
  have hrV1 := (hg1.block (S + 1) (by omega) (by simp)).trans hr1
  have hBV1 : Below S w V1 := by rw [← hV1]; exact hB1.setCell (p := ⟨S, 3, none⟩) (Nat.le_refl _) _
  have d3 := (blk7 hx1).2.2.2.1
  have z3 := frz7 hx1 3
  have e4 : (w1.setCell ⟨S, 3, none⟩ (.string n.text)).cell? ⟨S, 4, none⟩ = some (.slice a1 n.names.length c1) := by rw [hV1]; exact (blk7 hxV1).2.2.2.2.1
  have gsV1 : V1.heap.size = w1.heap.size := by rw [← hV1]; simp
  have HV1 := mkHid hV1
  have HxV1 := mkHid hxV1
  have HrV1 := mkHid hrV1
  have HBV1 := mkHid hBV1
  have HgV1 := mkHid gsV1
  clear hx1 hr1 hb1 hB1 hV1 hxV1 hg1 hrV1 hBV1 gsV1
  simp only [HS.out]
  go_wp2_with (go_at_call 59; fail)
  rw [HV1.out]
  refine (kn.out V1 HBV1.out).mono ?_
  rintro e w2 ⟨v2, rfl, hO2, hb2⟩
  obtain ⟨o2, k2, rfl⟩ := hO2.shape
  have gV1 := HgV1.out
  have hx2 := (hb2.block S (by omega)).trans HxV1.out
  have hr2 := (hb2.block (S + 1) (by omega)).trans HrV1.out
  have gs2 : S + 2 ≤ w2.heap.size := by have := hb2.size; omega
  have hB2 : Below S w w2 := HBV1.out.trans (hb2.mono (by omega))
  obtain ⟨V2, hV2⟩ : ∃ V2, w2.setCell ⟨S, 4, none⟩ (.slice o2 n.names.length k2) = V2 := ⟨_, rfl⟩
  have hxV2 : V2.heap[S]? = some (.cells (nCs n (.slice o2 n.names.length k2) (.slice a2 n.keys.length c2) (.slice a3 n.kids.length c3)) 44 (0, 0)) := by
    rw [← hV2]
    simp [World.setCell, Array.getElem?_modify, hx2]
  have hg2 : w2.grownBy V2 (some S) := by rw [← hV2]; exact grG_set w2 S 4 _
  have hrV2 := (hg2.block (S + 1) (by omega) (by simp)).trans hr2
  have hBV2 : Below S w V2 := by rw [← hV2]; exact hB2.setCell (p := ⟨S, 4, none⟩) (Nat.le_refl _) _
  have d4 := (blk7 hx2).2.2.2.2.1
  have z4 := frz7 hx2 4
  have e5 : (w2.setCell ⟨S, 4, none⟩ (.slice o2 n.names.length k2)).cell? ⟨S, 5, none⟩ = some (.slice a2 n.keys.length c2) := by rw [hV2]; exact (blk7 hxV2).2.2.2.2.2.1
  have hOV2 : OwnX V1.heap.size (.slice o2 n.names.length k2) n.names V2 := by rw [← hV2]; exact hO2.setLow (by omega)
  have gsV2 : V2.heap.size = w2.heap.size := by rw [← hV2]; simp
  have HV2 := mkHid hV2
  have HxV2 := mkHid hxV2
  have HrV2 := mkHid hrV2
  have HBV2 := mkHid hBV2
  have HOV2 := mkHid hOV2
  have HgV2 := mkHid gsV2
  clear hx2 hr2 hb2 hB2 hV2 hxV2 hg2 hrV2 hBV2 hO2 hOV2 gsV2 d3 z3 e4 gV1
  go_wp2_with (go_at_call 59; fail)
  rw [HV2.out]
  refine (kk.out V2 HBV2.out).mono ?_
  rintro e w3 ⟨v3, rfl, hO3, hb3⟩
  obtain ⟨o3, k3, rfl⟩ := hO3.shape
  have gV1 := HgV1.out
  have gV2 := HgV2.out
  have hx3 := (hb3.block S (by omega)).trans HxV2.out
  have hr3 := (hb3.block (S + 1) (by omega)).trans HrV2.out
  have gs3 : S + 2 ≤ w3.heap.size := by have := hb3.size; omega
  have hB3 : Below S w w3 := HBV2.out.trans (hb3.mono (by omega))
  have HOn := mkHid (HOV2.out.below hb3)
  have HOk := mkHid hO3
  have Hfar := mkHid (far_of HOV2.out hO3 (Nat.le_refl _))
  have HB3 := mkHid hB3
  obtain ⟨x0, x1, x2, x3, x4, x5, x6⟩ := blk7 hx3
  obtain ⟨y0, y1, y2, y3, y4, y5, y6⟩ := blk7 hr3
  have zx := frz7 hx3
  have zr := frz7 hr3
  clear hx3 hr3 hb3 hB3 hO3 d4 z4 e5
  go_wp2
  refine bodyPost_ret (v := .agg #[.int .i64 n.kind, .int .i64 n.num, .int .i64 n.mat, .string n.text, .slice o2 n.names.length k2, .slice o3 n.keys.length k3, .slice none 0 0]) (by simp [results, Try.results45, go_sem, y0, y1, y2, y3, y4, y5, y6]) rfl ⟨_, _, _, rfl, ?_, ?_, Hfar.out, ⟨_, _, rfl⟩, ?_⟩
  · refine ⟨⟨_, _, rfl⟩, fun _ => ?_⟩
    rw [HS.out]
    exact (((((((((HOn.out.setLow (by omega)).setLow (by omega)).setLow (by omega)).setLow (by omega)).setLow (by omega)).setLow (by omega)).setLow (by omega)).setLow (by omega)).setLow (by omega)).lowerC (by omega)
  · refine ⟨⟨_, _, rfl⟩, fun _ => ?_⟩
    rw [HS.out]
    exact (((((((((HOk.out.setLow (by omega)).setLow (by omega)).setLow (by omega)).setLow (by omega)).setLow (by omega)).setLow (by omega)).setLow (by omega)).setLow (by omega)).setLow (by omega)).lowerC (by omega)
  · rw [HS.out]
    have l0 : S ≤ S := Nat.le_refl _
    have l1 : S ≤ S + 1 := Nat.le_succ _
    exact ((((((((HB3.out.setCell (p := ⟨S, 5, none⟩) l0 _).setCell (p := ⟨S, 6, none⟩) l0 _).setCell (p := ⟨S + 1, 0, none⟩) l1 _).setCell (p := ⟨S + 1, 1, none⟩) l1 _).setCell (p := ⟨S + 1, 2, none⟩) l1 _).setCell (p := ⟨S + 1, 3, none⟩) l1 _).setCell (p := ⟨S + 1, 4, none⟩) l1 _).setCell (p := ⟨S + 1, 5, none⟩) l1 _).setCell (p := ⟨S + 1, 6, none⟩) l1 _
theorem implLeafOp (k : Int) (w : World) :
    Calls Try.prog 44 #[.int .i64 k] w fun e w' => e = .returned (.int .i64 (if Fn.isTest k then 7 else 6)) ∧ w' = w := by
  have k1 := mkHid (implIsTest k w)
  cases hb : Fn.isTest k
  all_goals
    rw [hb] at k1
    go_enter Try.func44, Try.ntmps44
    go_wp2_with (go_at_call 57; fail)
    refine k1.out.mono ?_
    rintro e w1 ⟨rfl, rfl⟩
    go_wp2
    go_ret
    exact ⟨rfl, rfl⟩
end Go.Proofs.Ytonnmbkfjiddnaa
