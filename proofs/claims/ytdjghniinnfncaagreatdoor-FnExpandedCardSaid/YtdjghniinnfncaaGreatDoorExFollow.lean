
/- The program's walk through aliases: an address found. -/

/- The program's walk through aliases: all that they stand for. -/
import Derived.Test.YtdjghniinnfncaaGreatDoorExStep
import Derived.Deep.RegionWith
namespace Go.Proofs.YtdjghniinnfncaaGreatDoor
open Go.RowKit Go.Lib Go.Maps
set_option maxRecDepth 20000 in
theorem SetT.num {w : World} {m n n' : Nat} {L : List ByteArray} (h : SetT w m n L) (e : n = n') : SetT w m n' L := e ▸ h
set_option maxRecDepth 20000 in
theorem gr_setX (w : World) (g j : Nat) (v : Value) : w.grownBy (w.setCell ⟨g, j, none⟩ v) (some g) := by
  refine ⟨rfl, rfl, rfl, by simp [World.setCell], fun i _ hi => ?_⟩
  have hne : g ≠ i := fun e => hi (by rw [e])
  simp [World.setCell, Array.getElem?_modify, hne]
set_option maxRecDepth 20000 in
theorem set5 {w : World} {g : Nat} {a b c d e : Value} {t : TypeId} (h : w.heap[g]? = some (.cells #[a, b, c, d, e] t (0, 0))) (v : Value) : (w.setCell ⟨g, 4, none⟩ v).heap[g]? = some (.cells #[a, b, c, d, v] t (0, 0)) := by
  simp [World.setCell, Array.getElem?_modify, h]
set_option maxRecDepth 20000 in
theorem ep_fin (p : Pl5) (A : List GAlias) (way : List ByteArray) (s : Ex.St) (k : ByteArray) (o : Option Addr) (c : Nat) (w2 w3 w6 : World) (o5 : Option Addr) (k5 : Nat) (hp : p.ok)
    (r1 : w2.heap[p.g]? = some (.cells #[.map (some p.b0), .map (some p.b1), .map (some p.b2), .map (some p.b3), .slice o s.out.length c] 75 (0, 0))) (r2 : OwnX (p.g + 1) (.slice o s.out.length c) s.out w2)
    (rB : Book p.lo p.hi w2 p.b0 p.n0 A) (rW : SetT w2 p.b1 (way.length + s.past.length) way) (rG : SetT w2 p.b2 s.past.length s.past) (rF : SetT w2 p.b3 (s.out.length + 1) (s.out ++ [k]))
    (hb3 : Below w2.heap.size w2 w3) (hg6 : (w3.alloc (.cells #[.string k] 9)).grownBy w6 (Value.slice o s.out.length c).ownBlock) (hown : OwnX (p.g + 1) (.slice o5 (s.out ++ [k]).length k5) (s.out ++ [k]) w6) :
    (w6.cell? ⟨p.g, 4, none⟩ = some (.slice o s.out.length c) ∧ w6.frozen? ⟨p.g, 4, none⟩ = false) ∧ Ep p A way ⟨s.out ++ [k], s.past⟩ (w6.setCell ⟨p.g, 4, none⟩ (.slice o5 (s.out ++ [k]).length k5)) ∧ Below p.b1 w2 (w6.setCell ⟨p.g, 4, none⟩ (.slice o5 (s.out ++ [k]).length k5)) := by
  have p0 := hp.h0
  have p1 := hp.h1
  have p2 := hp.h2
  have p3 := hp.h3
  have p4 := hp.h4
  have hl2 : p.g < w2.heap.size := heap_lt r1
  have hs3 := hb3.size
  obtain ⟨V, hV⟩ : ∃ V, V = w3.alloc (.cells #[.string k] 9) := ⟨_, rfl⟩
  rw [← hV] at hg6
  have hbV : Below w2.heap.size w2 V := by rw [hV]; exact hb3.alloc hs3 _
  have hnb : ∀ j, (Value.slice o s.out.length c).ownBlock = some j → p.g + 1 ≤ j := fun j hj => (World.ownsRow.lt r2 j hj).1
  have hne : ∀ b, b ≤ p.g → some b ≠ (Value.slice o s.out.length c).ownBlock := fun b hb e => by
    have := hnb b e.symm
    omega
  have hVs := hbV.size
  have hg6l := hg6.size
  have hblk : w6.heap[p.g]? = some (.cells #[.map (some p.b0), .map (some p.b1), .map (some p.b2), .map (some p.b3), .slice o s.out.length c] 75 (0, 0)) := (hg6.block p.g (by omega) (hne p.g (Nat.le_refl _))).trans ((hbV.block p.g hl2).trans r1)
  have hset := gr_setX w6 p.g 4 (.slice o5 (s.out ++ [k]).length k5)
  have z1 : Below p.b1 w2 w6 := (hbV.mono (show p.b1 ≤ w2.heap.size by omega)).grown hg6 (by omega) (fun j hj => by have := hnb j hj; omega)
  refine ⟨⟨(cells5 hblk).2.2.2.2, by simp [World.frozen?, hblk]⟩, ⟨⟨o5, k5, set5 hblk _, hown.keep hset (own_ne hown (by omega))⟩, ?_, ?_, ?_, ?_⟩, z1.grown hset (by omega) (fun j hj => by injection hj with hj; omega)⟩
  · exact ((rB.kept (gr_of_below hbV) (by simp) (Same.of_below hbV (by omega))).kept hg6 (hne _ (by omega)) (fun b _ h2 => hg6.block b (by omega) (hne b (by omega)))).kept hset (by intro e; injection e with e; omega) (fun b _ h2 => hset.block b (by omega) (by intro e; injection e with e; omega))
  · exact ((rW.below hbV).kept hg6 (hne _ (by omega))).kept hset (by intro e; injection e with e; omega)
  · exact ((rG.below hbV).kept hg6 (hne _ (by omega))).kept hset (by intro e; injection e with e; omega)
  · have hf := ((rF.below hbV).kept hg6 (hne _ (by omega))).kept hset (by intro e; injection e with e; omega)
    have hn : s.out.length + 1 = (s.out ++ [k]).length := by simp
    exact hf.num hn
set_option maxHeartbeats 8000000 in
set_option maxRecDepth 20000 in
theorem implAddX (p : Pl5) (A : List GAlias) (way : List ByteArray) (s : Ex.St) (k : ByteArray) (w : World) (h : Ep p A way s w) (hp : p.ok) (hk1 : k.size ≤ 1048576) (hfew : s.out.length ≤ 200) :
    Calls Tryz.prog 82 #[.pointer (some ⟨p.g, 0, none⟩), .string k] w fun e w' => e = .returned (.int .i64 (Ex.add s k).2) ∧ Hid (Ep p A way (Ex.add s k).1 w') ∧ Hid (Below p.b1 w w') := by
  obtain ⟨o, c, q1, q2⟩ := h.blk
  obtain ⟨c0, c1, c2, c3, c4⟩ := cells5 q1
  have hl := h.lt
  have p0 := hp.h0
  have p1 := hp.h1
  have p2 := hp.h2
  have p3 := hp.h3
  have p4 := hp.h4
  have cH := mkHid (implHasT p.b3 _ s.out k w h.found hk1)
  cases hin : Ex.isIn s.out k
  · rw [hin] at cH
    unfold Ex.add
    rw [if_neg (by rw [hin]; simp)]
    by_cases hfull : s.out.length = 200
    · have b200 : ((s.out.length : Int) == 200) = true := by rw [hfull]; rfl
      rw [if_pos hfull]
      have HE := mkHid h
      clear h q1 q2
      go_enter Tryz.func82, Tryz.ntmps82
      go_wp2_with fail
      refine cH.out.mono ?_
      rintro e w1 ⟨rfl, hb1⟩
      have e4 := (hb1.cell (p := ⟨p.g, 4, none⟩) hl).trans c4
      have f1 := mkHid (HE.out.below hp hb1)
      have f2 := mkHid (hb1.mono (show p.b1 ≤ w.heap.size by omega))
      clear hb1 cH
      go_wp2
      go_ret
      exact ⟨rfl, f1, f2⟩
    · have b200 : ((s.out.length : Int) == 200) = false := by simp; omega
      rw [if_neg hfull]
      have HE := mkHid h
      clear h
      go_enter Tryz.func82, Tryz.ntmps82
      go_wp2_with fail
      refine cH.out.mono ?_
      rintro e w1 ⟨rfl, hb1⟩
      have hE1 := HE.out.below hp hb1
      have e4 := (hb1.cell (p := ⟨p.g, 4, none⟩) hl).trans c4
      have e3 := (hb1.cell (p := ⟨p.g, 3, none⟩) hl).trans c3
      have z1 := hb1.mono (show p.b1 ≤ w.heap.size by omega)
      obtain ⟨X, hX⟩ : ∃ X, X = w1.alloc (.cells #[.string k] 9) := ⟨_, rfl⟩
      have hbX : Below w1.heap.size w1 X := by rw [hX]; exact (Below.refl _ _).alloc (Nat.le_refl _) _
      have hcX : X.cell? ⟨w1.heap.size, 0, none⟩ = some (.string k) := by rw [hX]; simp
      have hEX := hE1.below hp hbX
      have HX := mkHid hX.symm
      have cA := mkHid (implAddT p.b3 _ w1.heap.size 1 s.out k X hEX.found hcX hk1 hin (by omega))
      have zX := mkHid (z1.trans (hbX.mono (show p.b1 ≤ w1.heap.size by have := hb1.size; omega)))
      have HEX := mkHid hEX
      clear hX hbX hcX hEX hE1 hb1 cH z1 c0 c1 c2 c3 c4 q1 q2 HE
      go_wp2_with fail
      rw [HX.out]
      refine cA.out.mono ?_
      rintro e w2 ⟨rfl, hS2, hg2⟩
      obtain ⟨o, c, q1, q2⟩ := HEX.out.blk
      have hlX := HEX.out.lt
      have r1 := mkHid ((hg2.out.block p.g hlX (by intro e; injection e with e; omega)).trans q1)
      have r2 := mkHid (q2.keep hg2.out (own_ne q2 (by omega)))
      have rB := mkHid (HEX.out.book.kept hg2.out (by intro e; injection e with e; omega) (fun k _ h2 => hg2.out.block k (by omega) (by intro e; injection e with e; omega)))
      have rW := mkHid (HEX.out.way.kept hg2.out (by intro e; injection e with e; omega))
      have rG := mkHid (HEX.out.gone.kept hg2.out (by intro e; injection e with e; omega))
      have z2 := mkHid (zX.out.grown hg2.out (by omega) (fun j hj => by injection hj with hj; omega))
      have hl2 : p.g < w2.heap.size := Nat.lt_of_lt_of_le hlX hg2.out.size
      obtain ⟨t0, t1, t2, t3, t4⟩ := cells5 r1.out
      clear q1 q2 hg2 cA HX HEX zX e3 e4 hl hlX
      go_wp2_with fail
      obtain ⟨i0, hi0, hz0, hz1_, hz2_⟩ := info_parts Tryz.info9X
      have cC := mkHid (fun w => libClone k w (by omega))
      clear hin hfull b200
      refine wp_region_any (by kernel_rfl) ?_
      refine wpAny_take (i := 0) (v := .pointer (some ⟨p.g, 0, none⟩)) rfl (by kernel_rfl) (by kernel_rfl) (by kernel_rfl) (fun _ _ _ h => h) (Or.inl ⟨by rfl, ?_⟩) ?_
      · intro w
        go_simp
      go_simp
      refine wpAny_take (i := 1) (v := .pointer (some ⟨p.g, 0, none⟩)) rfl (by kernel_rfl) (by kernel_rfl) (by kernel_rfl) (fun _ _ _ h => h) (Or.inl ⟨by rfl, ?_⟩) ?_
      · intro w
        go_simp
      go_simp
      refine wpAny_take (i := 2) (v := .pointer (some ⟨p.g, 0, none⟩)) rfl (by kernel_rfl) (by kernel_rfl) (by kernel_rfl) (fun _ _ _ h => h) (Or.inl ⟨by rfl, ?_⟩) ?_
      · intro w
        go_simp
      go_simp
      refine wpAny_take (i := 3) (v := .pointer (some ⟨p.g, 4, none⟩)) rfl (by kernel_rfl) (by kernel_rfl) (by kernel_rfl) (fun _ _ _ h => h) (Or.inl ⟨by rfl, ?_⟩) ?_
      · intro w
        go_simp
      go_simp
      refine wpAny_take (i := 5) (v := .string k) rfl (by kernel_rfl) (by kernel_rfl) (by kernel_rfl) (fun _ _ _ h => h) (Or.inl ⟨by rfl, ?_⟩) ?_
      · intro w
        go_simp
      go_simp
      refine wpAny_ready (rs := [4, 6]) (by kernel_rfl) (by simp) ?_
      refine AllReady.cons rfl (fun K hK => ?_) (AllReady.cons rfl (fun K hK => ?_) AllReady.nil)
      · go_simp
        refine hK _ _ ?_
        clear hK K
        go_simp
        refine wpAny_ready (rs := [6]) (by kernel_rfl) (by simp) ?_
        refine AllReady.cons rfl (fun K hK => ?_) AllReady.nil
        go_simp
        go_wp2_with fail
        refine (cC.out _).mono ?_
        rintro e w3 ⟨rfl, hb3⟩
        replace hb3 : Below w2.heap.size w2 w3 := by first | exact hb3 | exact ((Below.refl w2.heap.size w2).drew).trans hb3 | exact ((Below.refl w2.heap.size w2).drew.drew).trans hb3
        show K _ w3
        refine hK _ _ ?_
        clear hK K
        go_simp
        refine wpAny_ready (rs := [7]) (by kernel_rfl) (by simp) ?_
        refine AllReady.cons rfl (fun K hK => ?_) AllReady.nil
        go_simp
        refine hK _ _ ?_
        clear hK K
        go_simp
        refine wpAny_ready (rs := [8]) (by kernel_rfl) (by simp) ?_
        refine AllReady.cons rfl (fun K hK => ?_) AllReady.nil
        refine wp_append_own _ _ _ 26 rfl (p.g + 1) 9 i0 (.string ⟨#[]⟩) 1 16 Tryz.underlying26 hi0 hz0 hz1_ hz2_ rfl (by decide) (.slice o s.out.length c) s.out.length (strCellsX s.out) rfl (World.ownsRow.alloc (OwnX.below r2.out hb3) _) ⟨w3.heap.size, 0, none⟩ 1 1 [.string k] rfl rfl (by intro j u hj; match j, hj with | 0, hj => cases hj; simp [Addr.add]) (by intro u hu; simp at hu; subst hu; rfl) (by unfold maxLen; omega) (by omega) (by simp; have := (hb3).size; omega) ?_
        intro y5 w6 ho5 hg5 _
        have hown5 : OwnX (p.g + 1) y5 (s.out ++ [k]) w6 := by
          unfold OwnX strCellsX
          rw [List.map_append, List.length_append]
          exact ho5
        obtain ⟨o5, k5, rfl⟩ := hown5.shape
        obtain ⟨⟨x4, xf⟩, fE, fB⟩ := ep_fin p A way s k o c w2 w3 w6 o5 k5 hp r1.out r2.out rB.out rW.out rG.out hS2.out hb3 hg5 hown5
        have FE := mkHid fE
        have FB := mkHid (z2.out.trans fB)
        generalize (s.out ++ [k]).length = ln at *
        clear fE fB hg5 ho5 hown5
        refine hK _ _ ?_
        clear hK K
        go_simp
        refine wpAny_take (i := 9) (v := .pointer (some ⟨p.g, 0, none⟩)) rfl (by kernel_rfl) (by kernel_rfl) (by kernel_rfl) (fun _ _ _ h => h) (Or.inl ⟨by rfl, ?_⟩) ?_
        · intro w
          go_simp
        go_simp
        refine wpAny_take (i := 10) (v := .pointer (some ⟨p.g, 4, none⟩)) rfl (by kernel_rfl) (by kernel_rfl) (by kernel_rfl) (fun _ _ _ h => h) (Or.inl ⟨by rfl, ?_⟩) ?_
        · intro w
          go_simp
        go_simp
        refine wpAny_ready (rs := [11]) (by kernel_rfl) (by simp) ?_
        refine AllReady.cons rfl (fun K hK => ?_) AllReady.nil
        go_simp
        refine hK _ _ ?_
        clear hK K
        go_simp
        refine wpAny_done (by kernel_rfl) ?_ _
        go_wp2
        go_ret
        exact ⟨rfl, FE, FB⟩
      · go_simp
        go_wp2_with fail
        refine (cC.out _).mono ?_
        rintro e w3 ⟨rfl, hb3⟩
        replace hb3 : Below w2.heap.size w2 w3 := by first | exact hb3 | exact ((Below.refl w2.heap.size w2).drew).trans hb3 | exact ((Below.refl w2.heap.size w2).drew.drew).trans hb3
        show K _ w3
        refine hK _ _ ?_
        clear hK K
        go_simp
        have u4 := (hb3.cell (p := ⟨p.g, 4, none⟩) hl2).trans t4
        have u5 : (w3.alloc (.cells #[.string k] 9)).cell? ⟨p.g, 4, none⟩ = some (.slice o s.out.length c) := (((Below.refl w3.heap.size w3).alloc (Nat.le_refl _) (.cells #[.string k] 9)).cell (p := ⟨p.g, 4, none⟩) (Nat.lt_of_lt_of_le hl2 hb3.size)).trans u4
        refine wpAny_ready (rs := [4, 7]) (by kernel_rfl) (by simp) ?_
        refine AllReady.cons rfl (fun K hK => ?_) (AllReady.cons rfl (fun K hK => ?_) AllReady.nil)
        · go_simp
          refine hK _ _ ?_
          clear hK K
          go_simp
          refine wpAny_ready (rs := [7]) (by kernel_rfl) (by simp) ?_
          refine AllReady.cons rfl (fun K hK => ?_) AllReady.nil
          go_simp
          refine hK _ _ ?_
          clear hK K
          go_simp
          refine wpAny_ready (rs := [8]) (by kernel_rfl) (by simp) ?_
          refine AllReady.cons rfl (fun K hK => ?_) AllReady.nil
          refine wp_append_own _ _ _ 26 rfl (p.g + 1) 9 i0 (.string ⟨#[]⟩) 1 16 Tryz.underlying26 hi0 hz0 hz1_ hz2_ rfl (by decide) (.slice o s.out.length c) s.out.length (strCellsX s.out) rfl (World.ownsRow.alloc (OwnX.below r2.out hb3) _) ⟨w3.heap.size, 0, none⟩ 1 1 [.string k] rfl rfl (by intro j u hj; match j, hj with | 0, hj => cases hj; simp [Addr.add]) (by intro u hu; simp at hu; subst hu; rfl) (by unfold maxLen; omega) (by omega) (by simp; have := (hb3).size; omega) ?_
          intro y5 w6 ho5 hg5 _
          have hown5 : OwnX (p.g + 1) y5 (s.out ++ [k]) w6 := by
            unfold OwnX strCellsX
            rw [List.map_append, List.length_append]
            exact ho5
          obtain ⟨o5, k5, rfl⟩ := hown5.shape
          obtain ⟨⟨x4, xf⟩, fE, fB⟩ := ep_fin p A way s k o c w2 w3 w6 o5 k5 hp r1.out r2.out rB.out rW.out rG.out hS2.out hb3 hg5 hown5
          have FE := mkHid fE
          have FB := mkHid (z2.out.trans fB)
          generalize (s.out ++ [k]).length = ln at *
          clear fE fB hg5 ho5 hown5
          refine hK _ _ ?_
          clear hK K
          go_simp
          refine wpAny_take (i := 9) (v := .pointer (some ⟨p.g, 0, none⟩)) rfl (by kernel_rfl) (by kernel_rfl) (by kernel_rfl) (fun _ _ _ h => h) (Or.inl ⟨by rfl, ?_⟩) ?_
          · intro w
            go_simp
          go_simp
          refine wpAny_take (i := 10) (v := .pointer (some ⟨p.g, 4, none⟩)) rfl (by kernel_rfl) (by kernel_rfl) (by kernel_rfl) (fun _ _ _ h => h) (Or.inl ⟨by rfl, ?_⟩) ?_
          · intro w
            go_simp
          go_simp
          refine wpAny_ready (rs := [11]) (by kernel_rfl) (by simp) ?_
          refine AllReady.cons rfl (fun K hK => ?_) AllReady.nil
          go_simp
          refine hK _ _ ?_
          clear hK K
          go_simp
          refine wpAny_done (by kernel_rfl) ?_ _
          go_wp2
          go_ret
          exact ⟨rfl, FE, FB⟩
        · go_simp
          refine hK _ _ ?_
          clear hK K
          go_simp
          refine wpAny_ready (rs := [4]) (by kernel_rfl) (by simp) ?_
          refine AllReady.cons rfl (fun K hK => ?_) AllReady.nil
          go_simp
          refine hK _ _ ?_
          clear hK K
          go_simp
          refine wpAny_ready (rs := [8]) (by kernel_rfl) (by simp) ?_
          refine AllReady.cons rfl (fun K hK => ?_) AllReady.nil
          refine wp_append_own _ _ _ 26 rfl (p.g + 1) 9 i0 (.string ⟨#[]⟩) 1 16 Tryz.underlying26 hi0 hz0 hz1_ hz2_ rfl (by decide) (.slice o s.out.length c) s.out.length (strCellsX s.out) rfl (World.ownsRow.alloc (OwnX.below r2.out hb3) _) ⟨w3.heap.size, 0, none⟩ 1 1 [.string k] rfl rfl (by intro j u hj; match j, hj with | 0, hj => cases hj; simp [Addr.add]) (by intro u hu; simp at hu; subst hu; rfl) (by unfold maxLen; omega) (by omega) (by simp; have := (hb3).size; omega) ?_
          intro y5 w6 ho5 hg5 _
          have hown5 : OwnX (p.g + 1) y5 (s.out ++ [k]) w6 := by
            unfold OwnX strCellsX
            rw [List.map_append, List.length_append]
            exact ho5
          obtain ⟨o5, k5, rfl⟩ := hown5.shape
          obtain ⟨⟨x4, xf⟩, fE, fB⟩ := ep_fin p A way s k o c w2 w3 w6 o5 k5 hp r1.out r2.out rB.out rW.out rG.out hS2.out hb3 hg5 hown5
          have FE := mkHid fE
          have FB := mkHid (z2.out.trans fB)
          generalize (s.out ++ [k]).length = ln at *
          clear fE fB hg5 ho5 hown5
          refine hK _ _ ?_
          clear hK K
          go_simp
          refine wpAny_take (i := 9) (v := .pointer (some ⟨p.g, 0, none⟩)) rfl (by kernel_rfl) (by kernel_rfl) (by kernel_rfl) (fun _ _ _ h => h) (Or.inl ⟨by rfl, ?_⟩) ?_
          · intro w
            go_simp
          go_simp
          refine wpAny_take (i := 10) (v := .pointer (some ⟨p.g, 4, none⟩)) rfl (by kernel_rfl) (by kernel_rfl) (by kernel_rfl) (fun _ _ _ h => h) (Or.inl ⟨by rfl, ?_⟩) ?_
          · intro w
            go_simp
          go_simp
          refine wpAny_ready (rs := [11]) (by kernel_rfl) (by simp) ?_
          refine AllReady.cons rfl (fun K hK => ?_) AllReady.nil
          go_simp
          refine hK _ _ ?_
          clear hK K
          go_simp
          refine wpAny_done (by kernel_rfl) ?_ _
          go_wp2
          go_ret
          exact ⟨rfl, FE, FB⟩
  · rw [hin] at cH
    unfold Ex.add
    rw [if_pos hin]
    have HE := mkHid h
    clear h q1 q2
    go_enter Tryz.func82, Tryz.ntmps82
    go_wp2_with fail
    refine cH.out.mono ?_
    rintro e w1 ⟨rfl, hb1⟩
    have f1 := mkHid (HE.out.below hp hb1)
    have f2 := mkHid (hb1.mono (show p.b1 ≤ w.heap.size by omega))
    clear hb1 cH
    go_wp2
    go_ret
    exact ⟨rfl, f1, f2⟩
end Go.Proofs.YtdjghniinnfncaaGreatDoor
namespace Go.Proofs.YtdjghniinnfncaaGreatDoor
open Go.RowKit Go.Lib Go.Maps
namespace Ex
set_option maxRecDepth 20000 in
theorem add_inv (A : List GAlias) (way : List ByteArray) (s : St) (k : ByteArray) (h : Inv A way s) (hf : s.out.length ≤ 200) : Inv A way (add s k).1 ∧ (add s k).1.out.length ≤ 200 := by
  unfold add
  split
  · exact ⟨h, hf⟩
  · split
    · exact ⟨h, hf⟩
    · exact ⟨⟨h.nodup, h.named, by simp; omega⟩, by simp; omega⟩
set_option maxRecDepth 20000 in
theorem all_inv (A : List GAlias) (way : List ByteArray) (f : St → ByteArray → St × Int) (hfn : ∀ s k, Inv A way s → s.out.length ≤ 200 → Inv A way (f s k).1 ∧ (f s k).1.out.length ≤ 200) : ∀ (K : List ByteArray) (s : St), Inv A way s → s.out.length ≤ 200 → Inv A way (all f s K).1 ∧ (all f s K).1.out.length ≤ 200
  | [], _, h, hf => ⟨h, hf⟩
  | k :: r, s, h, hf => by
    rw [all]
    obtain ⟨h1, h2⟩ := hfn s k h hf
    split
    · exact all_inv A way f hfn r _ h1 h2
    · exact ⟨h1, h2⟩
set_option maxRecDepth 20000 in
theorem go_inv (A : List GAlias) : ∀ (n : Nat) (way : List ByteArray) (s : St) (k : ByteArray), Inv A way s → s.out.length ≤ 200 → Inv A way (go A n way s k).1 ∧ (go A n way s k).1.out.length ≤ 200
  | 0, way, s, k, h, hf => by
    rw [go]
    split
    · exact add_inv A way s k h hf
    · split
      · exact ⟨h, hf⟩
      · split <;> exact ⟨h, hf⟩
  | n + 1, way, s, k, h, hf => by
    rw [go]
    split
    · exact add_inv A way s k h hf
    · rename_i al hal
      split
      · exact ⟨h, hf⟩
      · rename_i hw
        split
        · exact ⟨h, hf⟩
        · rename_i hp
          have hi := h.push k (by rw [hal]; rfl) (by simpa using hw) (by simpa using hp)
          obtain ⟨h1, h2⟩ := all_inv A (way ++ [k]) _ (fun s' k' => go_inv A n (way ++ [k]) s' k') al.toF s hi hf
          exact ⟨h1.pop, h2⟩
set_option maxRecDepth 20000 in
theorem all_step (f : St → ByteArray → St × Int) (s : St) (k : ByteArray) (r : List ByteArray) : all f s (k :: r) = if (f s k).2 = 0 then all f (f s k).1 r else f s k := rfl
end Ex
/-- What is asked of the aliases' texts. -/
def TextsOk (A : List GAlias) : Prop := ∀ al ∈ A, al.name.size ≤ 1048576 ∧ al.toF.length ≤ 1048576 ∧ ∀ t ∈ al.toF, t.size ≤ 1048576
def FollowOk (p : Pl5) (A : List GAlias) (n : Nat) : Prop := ∀ (way : List ByteArray) (s : Ex.St) (k : ByteArray) (w : World), way.length + n = 20 → Ep p A way s w → Ex.Inv A way s → s.out.length ≤ 200 → k.size ≤ 1048576 →
    Calls Tryz.prog 62 #[.pointer (some ⟨p.g, 0, none⟩), .string k] w fun e w' => e = .returned (.int .i64 (Ex.go A n way s k).2) ∧ Hid (Ep p A way (Ex.go A n way s k).1 w') ∧ Hid (Below p.b1 w w')
set_option maxHeartbeats 4000000 in
set_option maxRecDepth 20000 in
theorem implFollowAll (p : Pl5) (A : List GAlias) (n : Nat) (hfo : FollowOk p A n) (way : List ByteArray) (s : Ex.St) (o : Option Addr) (K : List ByteArray) (cap lo hi : Nat) (w : World) (hw : way.length + n = 20) (h : Ep p A way s w) (hI : Ex.Inv A way s) (hfew : s.out.length ≤ 200)
    (hK : TxL lo hi w o K) (hhi : hi ≤ p.b1) (hKl : K.length ≤ 1048576) (hKs : ∀ t ∈ K, t.size ≤ 1048576) :
    Calls Tryz.prog 40 #[.pointer (some ⟨p.g, 0, none⟩), .slice o K.length cap] w fun e w' => e = .returned (.int .i64 (Ex.all (Ex.go A n way) s K).2) ∧ Hid (Ep p A way (Ex.all (Ex.go A n way) s K).1 w') ∧ Hid (Below p.b1 w w') := by
  obtain ⟨R, hR⟩ : ∃ R, Ex.all (Ex.go A n way) s K = R := ⟨_, rfl⟩
  rw [hR]
  have HR : Hid (Ex.all (Ex.go A n way) s (K.drop 0) = R) := hR
  have HK := mkHid hK
  have HKs := mkHid hKs
  have Hfo := mkHid hfo
  have HE := mkHid h
  have HI := mkHid hI
  clear hR hK hKs hfo h hI
  go_enter Tryz.func40, Tryz.ntmps40
  go_wp2
  go_loopw [10] (fun iv wr => ∃ (i : Nat) (s' : Ex.St), i ≤ K.length ∧ iv = .int .i64 i ∧ Hid (Ex.all (Ex.go A n way) s' (K.drop i) = R) ∧ Hid (Ep p A way s' wr) ∧ Hid (Ex.Inv A way s' ∧ s'.out.length ≤ 200) ∧ Hid (Below p.b1 w wr)) (fun iv _ => K.length - (Lib.intOf iv).toNat)
  case atStart => exact ⟨0, s, Nat.zero_le _, rfl, HR, HE, ⟨HI.out, hfew⟩, Below.refl _ _⟩
  case round =>
    clear HR HE HI
    obtain ⟨i, s', hi, rfl, hRi, hE, hJ, hB⟩ := hrel
    by_cases hlt : i < K.length
    · obtain ⟨a, rfl, ha1, ha2, c0⟩ := (HK.out.below hB.out hhi) i hlt
      have cF := mkHid (Hfo.out way s' K[i] wr hw hE.out hJ.out.1 hJ.out.2 (HKs.out _ (List.getElem_mem hlt)))
      have hst : Hid ((if (Ex.go A n way s' K[i]).2 = 0 then Ex.all (Ex.go A n way) (Ex.go A n way s' K[i]).1 (K.drop (i + 1)) else Ex.go A n way s' K[i]) = R) := show _ = _ from by rw [← hRi.out, List.drop_eq_getElem_cons hlt, Ex.all_step]
      have hinv := mkHid (Ex.go_inv A n way s' K[i] hJ.out.1 hJ.out.2)
      clear hRi hE hJ
      generalize K[i] = x at *
      generalize Ex.go A n way s' x = q at *
      go_wp2_with fail
      refine cF.out.mono ?_
      rintro e w1 ⟨rfl, hE1, hB1⟩
      have hB2 := mkHid (hB.out.trans hB1.out)
      clear cF hB1 hB c0
      by_cases hq : q.2 = 0
      · have hR2 : Hid (Ex.all (Ex.go A n way) q.1 (K.drop (i + 1)) = R) := show _ = _ from by rw [← hst.out, if_pos hq]
        have b0 : (q.2 != 0) = false := by rw [hq]; rfl
        clear hst
        go_wp2
        go_roundw
        case rel => exact ⟨i + 1, q.1, by omega, by go_num, hR2, hE1, hinv, hB2⟩
        case measure => simp [Lib.intOf]; omega
      · have hR2 : Hid (q = R) := show _ = _ from by rw [← hst.out, if_neg hq]
        have b0 : (q.2 != 0) = true := by simp [hq]
        clear hst
        go_wp2
        go_ret
        rw [← hR2.out]
        exact ⟨rfl, hE1, hB2⟩
    · have hR2 : Hid ((s', 0) = R) := show _ = _ from by rw [← hRi.out, List.drop_eq_nil_of_le (by omega)]; rfl
      clear hRi
      go_wp2
      go_ret
      rw [← hR2.out]
      exact ⟨rfl, hE, hB⟩
set_option maxRecDepth 20000 in
theorem Ep.pushed {p : Pl5} {A : List GAlias} {way : List ByteArray} {s : Ex.St} {k : ByteArray} {w w' : World} (h : Ep p A way s w) (hp : p.ok) (hg : w.grownBy w' (some p.b1)) (hS : SetT w' p.b1 (way.length + s.past.length + 1) (way ++ [k])) : Ep p A (way ++ [k]) s w' := by
  have p1 := hp.h1
  have p2 := hp.h2
  have p3 := hp.h3
  have p4 := hp.h4
  exact h.turn hp hg ⟨by omega, by omega⟩ rfl (hS.num (by simp; omega)) (h.gone.kept hg (by intro e; injection e with e; omega)) (h.found.kept hg (by intro e; injection e with e; omega))
set_option maxHeartbeats 8000000 in
set_option maxRecDepth 20000 in
theorem implFollowOk (p : Pl5) (A : List GAlias) (hp : p.ok) (hA : A.length ≤ 100) (hT : TextsOk A) (n : Nat) (IH : ∀ m, n = m + 1 → FollowOk p A m) : FollowOk p A n := by
  intro way s k w hwn h hI hfew hk1
  obtain ⟨o, c, q1, q2⟩ := h.blk
  obtain ⟨c0, c1, c2, c3, c4⟩ := cells5 q1
  have hl := h.lt
  have p0 := hp.h0
  have p1 := hp.h1
  have p2 := hp.h2
  have p3 := hp.h3
  have p4 := hp.h4
  have hk := Go.WideMaps.keyOf_string_mk (P := Tryz.prog) (k := 9) Tryz.underlying9 (show k.size ≤ maxLen by unfold maxLen; omega)
  obtain ⟨D, hD, g1, g2⟩ := h.book.own
  cases hf : Ex.find A k with
  | none =>
    have hgo : Ex.go A n way s k = Ex.add s k := by cases n <;> rw [Ex.go, hf]
    rw [hgo]
    have hhas := g1 k hf
    have hat := atKey_of_not_has hhas (.held zeroA)
    obtain ⟨X, hX⟩ : ∃ X, X = w.alloc (.cells #[.string ⟨#[]⟩, .slice none 0 0] 32) := ⟨_, rfl⟩
    have hbX : Below w.heap.size w X := by rw [hX]; exact (Below.refl _ _).alloc (Nat.le_refl _) _
    have cA := mkHid (implAddX p A way s k X (h.below hp hbX) hp hk1 hfew)
    have zX := mkHid (hbX.mono (show p.b1 ≤ w.heap.size by omega))
    have HX := mkHid hX.symm
    clear hX hbX g1 g2 h q1 q2 hf hgo IH
    go_enter_defers Tryz.func62, Tryz.ntmps62
    go_wp2_with (first | (at_lookup; refine wpList_lookup_held _ rfl _ _ 50 rfl 9 32 lawTxt Tryz.underlying50 (zero_alias _) p.b0 p.n0 D rfl hD _ _ rfl hk zeroA hat false hhas ?_) | (go_at_call 82; go_must (rw [HX.out]; refine cA.out.mono ?_; rintro e w1 ⟨rfl, hE1, hB1⟩)) | go_in)
    have f2 := mkHid (zX.out.trans hB1.out)
    exact ⟨.int .i64 _, by simp [results, Tryz.results62, go_sem], rfl, hE1, f2⟩
  | some al =>
    obtain ⟨hmem, hname⟩ := Ex.find_mem A k al hf
    obtain ⟨t1, t2, t3⟩ := hT al hmem
    clear hmem hname
    obtain ⟨hhas, va, hat, hInA⟩ := g2 k al hf
    obtain ⟨⟨r2, cp2, rfl, hTx⟩⟩ := hInA
    unfold GAliasV at hat
    obtain ⟨X, hX⟩ : ∃ X, X = w.alloc (.cells #[.string al.name, .slice r2 al.toF.length cp2] 32) := ⟨_, rfl⟩
    have hbX : Below w.heap.size w X := by rw [hX]; exact (Below.refl _ _).alloc (Nat.le_refl _) _
    have hrX : X.heap[w.heap.size]? = some (.cells #[.string al.name, .slice r2 al.toF.length cp2] 32 (0, 0)) := by rw [hX]; exact heap_alloc_at _ _
    have hEX := h.below hp hbX
    have zX := mkHid (hbX.mono (show p.b1 ≤ w.heap.size by omega))
    have HX := mkHid hX.symm
    have cW := mkHid (implHasT p.b1 _ way k X hEX.way hk1)
    have hlX : p.g < X.heap.size := hEX.lt
    have d0 := (hbX.block p.g hl).trans q1
    obtain ⟨-, x1, x2, -, -⟩ := cells5 d0
    have hXs : w.heap.size < X.heap.size := by rw [hX]; simp
    have HEX := mkHid hEX
    have HTx := mkHid (hTx.below hbX (show p.hi ≤ w.heap.size by omega))
    clear hX hEX g1 g2 h q1 q2 d0 hTx
    cases hiw : Ex.isIn way k
    · rw [hiw] at cW
      cases hip : Ex.isIn s.past k
      · cases n with
        | zero =>
          have hgo : Ex.go A 0 way s k = (s, 4) := by rw [Ex.go, hf]; simp [hiw, hip]
          rw [hgo]
          have hw20 : way.length = 20 := by omega
          clear hf hgo IH
          go_enter_defers Tryz.func62, Tryz.ntmps62
          go_wp2_with (at_lookup; refine wpList_lookup_held _ rfl _ _ 50 rfl 9 32 lawTxt Tryz.underlying50 (zero_alias _) p.b0 p.n0 D rfl hD _ _ rfl hk _ hat true hhas ?_)
          rw [HX.out]
          refine cW.out.mono ?_
          rintro e w1 ⟨rfl, hb1⟩
          have hE1 := HEX.out.below hp hb1
          have z1 := mkHid (zX.out.trans (hb1.mono (show p.b1 ≤ X.heap.size by omega)))
          have HE1 := mkHid hE1
          have y2 := (hb1.cell (p := ⟨p.g, 2, none⟩) hlX).trans x2
          have y1 := (hb1.cell (p := ⟨p.g, 1, none⟩) hlX).trans x1
          have hl1 : p.g < w1.heap.size := hE1.lt
          have cG := mkHid (implHasT p.b2 _ s.past k w1 hE1.gone hk1)
          rw [hip] at cG
          have ya := mkHid ((hb1.block w.heap.size hXs).trans hrX)
          have HTx1 := mkHid (HTx.out.below hb1 (show p.hi ≤ X.heap.size by omega))
          clear cW HEX hb1 hE1 zX HX
          go_wp2_with fail
          refine cG.out.mono ?_
          rintro e w2 ⟨rfl, hb2⟩
          have hE2 := HE1.out.below hp hb2
          have z2 := mkHid (z1.out.trans (hb2.mono (show p.b1 ≤ w1.heap.size by omega)))
          have HE2 := mkHid hE2
          have v1 := (hb2.cell (p := ⟨p.g, 1, none⟩) hl1).trans y1
          have v2 := mkHid ((hb2.block w.heap.size (heap_lt ya.out)).trans ya.out)
          have HTx2 := mkHid (HTx1.out.below hb2 (show p.hi ≤ w1.heap.size by omega))
          have hl2 : p.g < w2.heap.size := hE2.lt
          obtain ⟨DW, hDW, -, hszW⟩ := hE2.way.own
          clear cG HE1 hb2 z1 hE2
          have b20 : ((Maps.size DW : Int) == 20) = true := by rw [hszW, hw20]; rfl
          go_wp2_with (at_len; refine wpList_len_own _ rfl _ 73 rfl 9 99 Tryz.underlying73 _ p.b1 _ DW rfl hDW ?_)
          exact ⟨.int .i64 4, by simp [results, Tryz.results62, go_sem], rfl, HE2, z2⟩
        | succ m =>
          have hgo : Ex.go A (m + 1) way s k = (⟨(Ex.all (Ex.go A m (way ++ [k])) s al.toF).1.out, (Ex.all (Ex.go A m (way ++ [k])) s al.toF).1.past ++ [k]⟩, (Ex.all (Ex.go A m (way ++ [k])) s al.toF).2) := by rw [Ex.go, hf]; simp [hiw, hip]
          have hIp := hI.push k (by rw [hf]; rfl) hiw hip
          have hfo := IH m rfl
          rw [hgo]
          have hw20 : way.length ≠ 20 := by omega
          have hInv := Ex.all_inv A (way ++ [k]) _ (fun s' k' => Ex.go_inv A m (way ++ [k]) s' k') al.toF s hIp hfew
          obtain ⟨r, hr⟩ : ∃ r, Ex.all (Ex.go A m (way ++ [k])) s al.toF = r := ⟨_, rfl⟩
          rw [hr] at hInv ⊢
          replace hr := mkHid hr
          clear hf hgo IH
          go_enter_defers Tryz.func62, Tryz.ntmps62
          go_wp2_with (at_lookup; refine wpList_lookup_held _ rfl _ _ 50 rfl 9 32 lawTxt Tryz.underlying50 (zero_alias _) p.b0 p.n0 D rfl hD _ _ rfl hk _ hat true hhas ?_)
          rw [HX.out]
          refine cW.out.mono ?_
          rintro e w1 ⟨rfl, hb1⟩
          have hE1 := HEX.out.below hp hb1
          have z1 := mkHid (zX.out.trans (hb1.mono (show p.b1 ≤ X.heap.size by omega)))
          have HE1 := mkHid hE1
          have y2 := (hb1.cell (p := ⟨p.g, 2, none⟩) hlX).trans x2
          have y1 := (hb1.cell (p := ⟨p.g, 1, none⟩) hlX).trans x1
          have hl1 : p.g < w1.heap.size := hE1.lt
          have cG := mkHid (implHasT p.b2 _ s.past k w1 hE1.gone hk1)
          rw [hip] at cG
          have ya := mkHid ((hb1.block w.heap.size hXs).trans hrX)
          have HTx1 := mkHid (HTx.out.below hb1 (show p.hi ≤ X.heap.size by omega))
          clear cW HEX hb1 hE1 zX HX
          go_wp2_with fail
          refine cG.out.mono ?_
          rintro e w2 ⟨rfl, hb2⟩
          have hE2 := HE1.out.below hp hb2
          have z2 := mkHid (z1.out.trans (hb2.mono (show p.b1 ≤ w1.heap.size by omega)))
          have HE2 := mkHid hE2
          have v1 := (hb2.cell (p := ⟨p.g, 1, none⟩) hl1).trans y1
          have v2 := mkHid ((hb2.block w.heap.size (heap_lt ya.out)).trans ya.out)
          have HTx2 := mkHid (HTx1.out.below hb2 (show p.hi ≤ w1.heap.size by omega))
          have hl2 : p.g < w2.heap.size := hE2.lt
          obtain ⟨DW, hDW, -, hszW⟩ := hE2.way.own
          clear cG HE1 hb2 z1 hE2
          have b20 : ((Maps.size DW : Int) == 20) = false := by rw [hszW]; simp; omega
          obtain ⟨Y, hY⟩ : ∃ Y, Y = w2.alloc (.cells #[.string k] 9) := ⟨_, rfl⟩
          have hbY : Below w2.heap.size w2 Y := by rw [hY]; exact (Below.refl _ _).alloc (Nat.le_refl _) _
          have hcY : Y.cell? ⟨w2.heap.size, 0, none⟩ = some (.string k) := by rw [hY]; simp
          have hEY := HE2.out.below hp hbY
          have hshort := hI.short
          have cA := mkHid (implAddT p.b1 _ w2.heap.size 1 way k Y hEY.way hcY hk1 hiw (by omega))
          have zY := mkHid (z2.out.trans (hbY.mono (show p.b1 ≤ w2.heap.size by omega)))
          have vY := mkHid ((hbY.block w.heap.size (heap_lt v2.out)).trans v2.out)
          have HTxY := mkHid (HTx2.out.below hbY (show p.hi ≤ w2.heap.size by omega))
          have HEY := mkHid hEY
          have HY := mkHid hY.symm
          have hlY : p.g < Y.heap.size := hEY.lt
          clear hY hbY hcY hEY HE2 z2 v2 HTx2
          go_wp2_with (at_len; refine wpList_len_own _ rfl _ 73 rfl 9 99 Tryz.underlying73 _ p.b1 _ DW rfl hDW ?_)
          rw [HY.out]
          refine cA.out.mono ?_
          rintro e w3 ⟨rfl, hS3, hg3⟩
          have hE3 := HEY.out.pushed hp hg3.out hS3.out
          have z3 := mkHid (zY.out.grown hg3.out (by omega) (fun j hj => by injection hj with hj; omega))
          have u3 := (hg3.out.block w.heap.size (heap_lt vY.out) (by intro e; injection e with e; omega)).trans vY.out
          have hTx3 : TxL p.lo p.hi w3 r2 al.toF := HTxY.out.same (fun b _ h2 => hg3.out.block b (by omega) (by intro e; injection e with e; omega))
          have cF := mkHid (implFollowAll p A m hfo (way ++ [k]) s r2 al.toF cp2 p.lo p.hi w3 (by simp; omega) hE3 hIp hfew hTx3 (by omega) t2 t3)
          obtain ⟨-, s1⟩ := two_cells u3
          clear cA HEY hS3 hg3 zY vY HTxY HY hE3 u3 hTx3
          rw [hr.out] at cF
          go_wp2_with fail
          refine cF.out.mono ?_
          rintro e w4 ⟨rfl, hE4, hB4⟩
          have z4 := mkHid (z3.out.trans hB4.out)
          clear cF z3 hB4 s1
          go_wp2_with fail
          refine leaves_cons (f := 83) (args := #[.pointer (some ⟨p.g, 0, none⟩), .string k]) (by simp) (by simp [go_sem]) ?_
          refine (implStepBack p A way r.1 k w4 hE4.out hp hInv.1 hA hk1 _).mono ?_
          rintro e u' w5 ⟨rfl, rfl, hE5, hB5⟩
          have z5 := mkHid (z4.out.trans hB5.out)
          clear z4 hB5 hE4
          exact ⟨.int .i64 r.2, by simp [results, Tryz.results62, go_sem], rfl, hE5, z5⟩
      · have hgo : Ex.go A n way s k = (s, 0) := by cases n <;> (rw [Ex.go, hf]; simp [hiw, hip])
        rw [hgo]
        clear hf hgo IH
        go_enter_defers Tryz.func62, Tryz.ntmps62
        go_wp2_with (at_lookup; refine wpList_lookup_held _ rfl _ _ 50 rfl 9 32 lawTxt Tryz.underlying50 (zero_alias _) p.b0 p.n0 D rfl hD _ _ rfl hk _ hat true hhas ?_)
        rw [HX.out]
        refine cW.out.mono ?_
        rintro e w1 ⟨rfl, hb1⟩
        have hE1 := HEX.out.below hp hb1
        have z1 := mkHid (zX.out.trans (hb1.mono (show p.b1 ≤ X.heap.size by omega)))
        have HE1 := mkHid hE1
        have y2 := (hb1.cell (p := ⟨p.g, 2, none⟩) hlX).trans x2
        have y1 := (hb1.cell (p := ⟨p.g, 1, none⟩) hlX).trans x1
        have hl1 : p.g < w1.heap.size := hE1.lt
        have cG := mkHid (implHasT p.b2 _ s.past k w1 hE1.gone hk1)
        rw [hip] at cG
        have ya := mkHid ((hb1.block w.heap.size hXs).trans hrX)
        have HTx1 := mkHid (HTx.out.below hb1 (show p.hi ≤ X.heap.size by omega))
        clear cW HEX hb1 hE1 zX HX
        go_wp2_with fail
        refine cG.out.mono ?_
        rintro e w2 ⟨rfl, hb2⟩
        have hE2 := HE1.out.below hp hb2
        have z2 := mkHid (z1.out.trans (hb2.mono (show p.b1 ≤ w1.heap.size by omega)))
        have HE2 := mkHid hE2
        clear cG hb2 hE2
        go_wp2
        exact ⟨.int .i64 0, by simp [results, Tryz.results62, go_sem], rfl, HE2, z2⟩
    · rw [hiw] at cW
      have hgo : Ex.go A n way s k = (s, 9) := by cases n <;> (rw [Ex.go, hf]; simp [hiw])
      rw [hgo]
      clear hf hgo IH
      go_enter_defers Tryz.func62, Tryz.ntmps62
      go_wp2_with (at_lookup; refine wpList_lookup_held _ rfl _ _ 50 rfl 9 32 lawTxt Tryz.underlying50 (zero_alias _) p.b0 p.n0 D rfl hD _ _ rfl hk _ hat true hhas ?_)
      rw [HX.out]
      refine cW.out.mono ?_
      rintro e w1 ⟨rfl, hb1⟩
      have hE1 := HEX.out.below hp hb1
      have z1 := mkHid (zX.out.trans (hb1.mono (show p.b1 ≤ X.heap.size by omega)))
      have HE1 := mkHid hE1
      clear cW hb1 hE1
      go_wp2
      exact ⟨.int .i64 9, by simp [results, Tryz.results62, go_sem], rfl, HE1, z1⟩
set_option maxRecDepth 20000 in
theorem implFollow (p : Pl5) (A : List GAlias) (hp : p.ok) (hA : A.length ≤ 100) (hT : TextsOk A) : ∀ n, FollowOk p A n
  | 0 => implFollowOk p A hp hA hT 0 (fun m h => by omega)
  | n + 1 => implFollowOk p A hp hA hT (n + 1) (fun m h => by
    obtain rfl : n = m := by omega
    exact implFollow p A hp hA hT n)
end Go.Proofs.YtdjghniinnfncaaGreatDoor
