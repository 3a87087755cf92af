
/- The program's walk through aliases: an address found. -/
import Derived.Test.YtfkjbamjppnohaaDoorExStep
import Derived.Deep.RegionWith
namespace Go.Proofs.YtfkjbamjppnohaaDoor
open Go.RowKit Go.Lib Go.Maps
theorem SetT.num {w : World} {m n n' : Nat} {L : List ByteArray} (h : SetT w m n L) (e : n = n') : SetT w m n' L := e ▸ h
theorem gr_setX (w : World) (g j : Nat) (v : Value) : w.grownBy (w.setCell ⟨g, j, none⟩ v) (some g) := by
  refine ⟨rfl, rfl, rfl, by simp [World.setCell], fun i _ hi => ?_⟩
  have hne : g ≠ i := fun e => hi (by rw [e])
  simp [World.setCell, Array.getElem?_modify, hne]
theorem set5 {w : World} {g : Nat} {a b c d e : Value} {t : TypeId} (h : w.heap[g]? = some (.cells #[a, b, c, d, e] t (0, 0))) (v : Value) : (w.setCell ⟨g, 4, none⟩ v).heap[g]? = some (.cells #[a, b, c, d, v] t (0, 0)) := by
  simp [World.setCell, Array.getElem?_modify, h]
theorem ep_fin (p : Pl5) (A : List GAlias) (way : List ByteArray) (s : Ex.St) (k : ByteArray) (o : Option Addr) (c : Nat) (w2 w3 w6 : World) (o5 : Option Addr) (k5 : Nat) (hp : p.ok)
    (r1 : w2.heap[p.g]? = some (.cells #[.map (some p.b0), .map (some p.b1), .map (some p.b2), .map (some p.b3), .slice o s.out.length c] 72 (0, 0))) (r2 : OwnX (p.g + 1) (.slice o s.out.length c) s.out w2)
    (rB : Book p.lo p.hi w2 p.b0 p.n0 A) (rW : SetT w2 p.b1 (way.length + s.past.length) way) (rG : SetT w2 p.b2 s.past.length s.past) (rF : SetT w2 p.b3 (s.out.length + 1) (s.out ++ [k]))
    (hb3 : Below w2.heap.size w2 w3) (hg6 : (w3.alloc (.cells #[.string k] 9)).grownBy w6 (Value.slice o s.out.length c).ownBlock) (hown : OwnX (p.g + 1) (.slice o5 (s.out ++ [k]).length k5) (s.out ++ [k]) w6) :
    (w6.cell? ⟨p.g, 4, none⟩ = some (.slice o s.out.length c) ∧ w6.frozen? ⟨p.g, 4, none⟩ = false) ∧ Ep p A way ⟨s.out ++ [k], s.past⟩ (w6.setCell ⟨p.g, 4, none⟩ (.slice o5 (s.out ++ [k]).length k5)) ∧ Below p.b1 w2 (w6.setCell ⟨p.g, 4, none⟩ (.slice o5 (s.out ++ [k]).length k5)) := by
  have p0 := hp.h0
  have p1 := hp.h1
  have p2 := hp.h2
  have p3 := hp.h3
  have p4 := hp.h4
  have hl2 : p.g < w2.heap.size := heap_lt r1
  have hs3 := hb3.size
  obtain ⟨V, hV⟩ : ∃ V, V = w3.alloc (.cells #[.string k] 9) := ⟨_, rfl⟩
  rw [← hV] at hg6
  have hbV : Below w2.heap.size w2 V := by rw [hV]; exact hb3.alloc hs3 _
  have hnb : ∀ j, (Value.slice o s.out.length c).ownBlock = some j → p.g + 1 ≤ j := fun j hj => (World.ownsRow.lt r2 j hj).1
  have hne : ∀ b, b ≤ p.g → some b ≠ (Value.slice o s.out.length c).ownBlock := fun b hb e => by
    have := hnb b e.symm
    omega
  have hVs := hbV.size
  have hg6l := hg6.size
  have hblk : w6.heap[p.g]? = some (.cells #[.map (some p.b0), .map (some p.b1), .map (some p.b2), .map (some p.b3), .slice o s.out.length c] 72 (0, 0)) := (hg6.block p.g (by omega) (hne p.g (Nat.le_refl _))).trans ((hbV.block p.g hl2).trans r1)
  have hset := gr_setX w6 p.g 4 (.slice o5 (s.out ++ [k]).length k5)
  have z1 : Below p.b1 w2 w6 := (hbV.mono (show p.b1 ≤ w2.heap.size by omega)).grown hg6 (by omega) (fun j hj => by have := hnb j hj; omega)
  refine ⟨⟨(cells5 hblk).2.2.2.2, by simp [World.frozen?, hblk]⟩, ⟨⟨o5, k5, set5 hblk _, hown.keep hset (own_ne hown (by omega))⟩, ?_, ?_, ?_, ?_⟩, z1.grown hset (by omega) (fun j hj => by injection hj with hj; omega)⟩
  · exact ((rB.kept (gr_of_below hbV) (by simp) (Same.of_below hbV (by omega))).kept hg6 (hne _ (by omega)) (fun b _ h2 => hg6.block b (by omega) (hne b (by omega)))).kept hset (by intro e; injection e with e; omega) (fun b _ h2 => hset.block b (by omega) (by intro e; injection e with e; omega))
  · exact ((rW.below hbV).kept hg6 (hne _ (by omega))).kept hset (by intro e; injection e with e; omega)
  · exact ((rG.below hbV).kept hg6 (hne _ (by omega))).kept hset (by intro e; injection e with e; omega)
  · have hf := ((rF.below hbV).kept hg6 (hne _ (by omega))).kept hset (by intro e; injection e with e; omega)
    have hn : s.out.length + 1 = (s.out ++ [k]).length := by simp
    exact hf.num hn
set_option maxHeartbeats 8000000 in
set_option maxRecDepth 20000 in
theorem implAddX (p : Pl5) (A : List GAlias) (way : List ByteArray) (s : Ex.St) (k : ByteArray) (w : World) (h : Ep p A way s w) (hp : p.ok) (hk1 : k.size ≤ 1048576) (hfew : s.out.length ≤ 200) :
    Calls Tryd.prog 66 #[.pointer (some ⟨p.g, 0, none⟩), .string k] w fun e w' => e = .returned (.int .i64 (Ex.add s k).2) ∧ Hid (Ep p A way (Ex.add s k).1 w') ∧ Hid (Below p.b1 w w') := by
  obtain ⟨o, c, q1, q2⟩ := h.blk
  obtain ⟨c0, c1, c2, c3, c4⟩ := cells5 q1
  have hl := h.lt
  have p0 := hp.h0
  have p1 := hp.h1
  have p2 := hp.h2
  have p3 := hp.h3
  have p4 := hp.h4
  have cH := mkHid (implHasT p.b3 _ s.out k w h.found hk1)
  cases hin : Ex.isIn s.out k
  · rw [hin] at cH
    unfold Ex.add
    rw [if_neg (by rw [hin]; simp)]
    by_cases hfull : s.out.length = 200
    · have b200 : ((s.out.length : Int) == 200) = true := by rw [hfull]; rfl
      rw [if_pos hfull]
      have HE := mkHid h
      clear h q1 q2
      go_enter Tryd.func66, Tryd.ntmps66
      go_wp2_with fail
      refine cH.out.mono ?_
      rintro e w1 ⟨rfl, hb1⟩
      have e4 := (hb1.cell (p := ⟨p.g, 4, none⟩) hl).trans c4
      have f1 := mkHid (HE.out.below hp hb1)
      have f2 := mkHid (hb1.mono (show p.b1 ≤ w.heap.size by omega))
      clear hb1 cH
      go_wp2
      go_ret
      exact ⟨rfl, f1, f2⟩
    · have b200 : ((s.out.length : Int) == 200) = false := by simp; omega
      rw [if_neg hfull]
      have HE := mkHid h
      clear h
      go_enter Tryd.func66, Tryd.ntmps66
      go_wp2_with fail
      refine cH.out.mono ?_
      rintro e w1 ⟨rfl, hb1⟩
      have hE1 := HE.out.below hp hb1
      have e4 := (hb1.cell (p := ⟨p.g, 4, none⟩) hl).trans c4
      have e3 := (hb1.cell (p := ⟨p.g, 3, none⟩) hl).trans c3
      have z1 := hb1.mono (show p.b1 ≤ w.heap.size by omega)
      obtain ⟨X, hX⟩ : ∃ X, X = w1.alloc (.cells #[.string k] 9) := ⟨_, rfl⟩
      have hbX : Below w1.heap.size w1 X := by rw [hX]; exact (Below.refl _ _).alloc (Nat.le_refl _) _
      have hcX : X.cell? ⟨w1.heap.size, 0, none⟩ = some (.string k) := by rw [hX]; simp
      have hEX := hE1.below hp hbX
      have HX := mkHid hX.symm
      have cA := mkHid (implAddT p.b3 _ w1.heap.size 1 s.out k X hEX.found hcX hk1 hin (by omega))
      have zX := mkHid (z1.trans (hbX.mono (show p.b1 ≤ w1.heap.size by have := hb1.size; omega)))
      have HEX := mkHid hEX
      clear hX hbX hcX hEX hE1 hb1 cH z1 c0 c1 c2 c3 c4 q1 q2 HE
      go_wp2_with fail
      rw [HX.out]
      refine cA.out.mono ?_
      rintro e w2 ⟨rfl, hS2, hg2⟩
      obtain ⟨o, c, q1, q2⟩ := HEX.out.blk
      have hlX := HEX.out.lt
      have r1 := mkHid ((hg2.out.block p.g hlX (by intro e; injection e with e; omega)).trans q1)
      have r2 := mkHid (q2.keep hg2.out (own_ne q2 (by omega)))
      have rB := mkHid (HEX.out.book.kept hg2.out (by intro e; injection e with e; omega) (fun k _ h2 => hg2.out.block k (by omega) (by intro e; injection e with e; omega)))
      have rW := mkHid (HEX.out.way.kept hg2.out (by intro e; injection e with e; omega))
      have rG := mkHid (HEX.out.gone.kept hg2.out (by intro e; injection e with e; omega))
      have z2 := mkHid (zX.out.grown hg2.out (by omega) (fun j hj => by injection hj with hj; omega))
      have hl2 : p.g < w2.heap.size := Nat.lt_of_lt_of_le hlX hg2.out.size
      obtain ⟨t0, t1, t2, t3, t4⟩ := cells5 r1.out
      clear q1 q2 hg2 cA HX HEX zX e3 e4 hl hlX
      go_wp2_with fail
      obtain ⟨i0, hi0, hz0, hz1_, hz2_⟩ := info_parts Tryd.info9X
      have cC := mkHid (fun w => libClone k w (by omega))
      clear hin hfull b200
      refine wp_region_any (by kernel_rfl) ?_
      refine wpAny_take (i := 0) (v := .pointer (some ⟨p.g, 0, none⟩)) rfl (by kernel_rfl) (by kernel_rfl) (by kernel_rfl) (fun _ _ _ h => h) (Or.inl ⟨by rfl, ?_⟩) ?_
      · intro w
        go_simp
      go_simp
      refine wpAny_take (i := 1) (v := .pointer (some ⟨p.g, 0, none⟩)) rfl (by kernel_rfl) (by kernel_rfl) (by kernel_rfl) (fun _ _ _ h => h) (Or.inl ⟨by rfl, ?_⟩) ?_
      · intro w
        go_simp
      go_simp
      refine wpAny_take (i := 2) (v := .pointer (some ⟨p.g, 0, none⟩)) rfl (by kernel_rfl) (by kernel_rfl) (by kernel_rfl) (fun _ _ _ h => h) (Or.inl ⟨by rfl, ?_⟩) ?_
      · intro w
        go_simp
      go_simp
      refine wpAny_take (i := 3) (v := .pointer (some ⟨p.g, 4, none⟩)) rfl (by kernel_rfl) (by kernel_rfl) (by kernel_rfl) (fun _ _ _ h => h) (Or.inl ⟨by rfl, ?_⟩) ?_
      · intro w
        go_simp
      go_simp
      refine wpAny_take (i := 5) (v := .string k) rfl (by kernel_rfl) (by kernel_rfl) (by kernel_rfl) (fun _ _ _ h => h) (Or.inl ⟨by rfl, ?_⟩) ?_
      · intro w
        go_simp
      go_simp
      refine wpAny_ready (rs := [4, 6]) (by kernel_rfl) (by simp) ?_
      refine AllReady.cons rfl (fun K hK => ?_) (AllReady.cons rfl (fun K hK => ?_) AllReady.nil)
      · go_simp
        refine hK _ _ ?_
        clear hK K
        go_simp
        refine wpAny_ready (rs := [6]) (by kernel_rfl) (by simp) ?_
        refine AllReady.cons rfl (fun K hK => ?_) AllReady.nil
        go_simp
        go_wp2_with fail
        refine (cC.out _).mono ?_
        rintro e w3 ⟨rfl, hb3⟩
        replace hb3 : Below w2.heap.size w2 w3 := by first | exact hb3 | exact ((Below.refl w2.heap.size w2).drew).trans hb3 | exact ((Below.refl w2.heap.size w2).drew.drew).trans hb3
        show K _ w3
        refine hK _ _ ?_
        clear hK K
        go_simp
        refine wpAny_ready (rs := [7]) (by kernel_rfl) (by simp) ?_
        refine AllReady.cons rfl (fun K hK => ?_) AllReady.nil
        go_simp
        refine hK _ _ ?_
        clear hK K
        go_simp
        refine wpAny_ready (rs := [8]) (by kernel_rfl) (by simp) ?_
        refine AllReady.cons rfl (fun K hK => ?_) AllReady.nil
        refine wp_append_own _ _ _ 24 rfl (p.g + 1) 9 i0 (.string ⟨#[]⟩) 1 16 Tryd.underlying24 hi0 hz0 hz1_ hz2_ rfl (by decide) (.slice o s.out.length c) s.out.length (strCellsX s.out) rfl (World.ownsRow.alloc (OwnX.below r2.out hb3) _) ⟨w3.heap.size, 0, none⟩ 1 1 [.string k] rfl rfl (by intro j u hj; match j, hj with | 0, hj => cases hj; simp [Addr.add]) (by intro u hu; simp at hu; subst hu; rfl) (by unfold maxLen; omega) (by omega) (by simp; have := (hb3).size; omega) ?_
        intro y5 w6 ho5 hg5 _
        have hown5 : OwnX (p.g + 1) y5 (s.out ++ [k]) w6 := by
          unfold OwnX strCellsX
          rw [List.map_append, List.length_append]
          exact ho5
        obtain ⟨o5, k5, rfl⟩ := hown5.shape
        obtain ⟨⟨x4, xf⟩, fE, fB⟩ := ep_fin p A way s k o c w2 w3 w6 o5 k5 hp r1.out r2.out rB.out rW.out rG.out hS2.out hb3 hg5 hown5
        have FE := mkHid fE
        have FB := mkHid (z2.out.trans fB)
        generalize (s.out ++ [k]).length = ln at *
        clear fE fB hg5 ho5 hown5
        refine hK _ _ ?_
        clear hK K
        go_simp
        refine wpAny_take (i := 9) (v := .pointer (some ⟨p.g, 0, none⟩)) rfl (by kernel_rfl) (by kernel_rfl) (by kernel_rfl) (fun _ _ _ h => h) (Or.inl ⟨by rfl, ?_⟩) ?_
        · intro w
          go_simp
        go_simp
        refine wpAny_take (i := 10) (v := .pointer (some ⟨p.g, 4, none⟩)) rfl (by kernel_rfl) (by kernel_rfl) (by kernel_rfl) (fun _ _ _ h => h) (Or.inl ⟨by rfl, ?_⟩) ?_
        · intro w
          go_simp
        go_simp
        refine wpAny_ready (rs := [11]) (by kernel_rfl) (by simp) ?_
        refine AllReady.cons rfl (fun K hK => ?_) AllReady.nil
        go_simp
        refine hK _ _ ?_
        clear hK K
        go_simp
        refine wpAny_done (by kernel_rfl) ?_ _
        go_wp2
        go_ret
        exact ⟨rfl, FE, FB⟩
      · go_simp
        go_wp2_with fail
        refine (cC.out _).mono ?_
        rintro e w3 ⟨rfl, hb3⟩
        replace hb3 : Below w2.heap.size w2 w3 := by first | exact hb3 | exact ((Below.refl w2.heap.size w2).drew).trans hb3 | exact ((Below.refl w2.heap.size w2).drew.drew).trans hb3
        show K _ w3
        refine hK _ _ ?_
        clear hK K
        go_simp
        have u4 := (hb3.cell (p := ⟨p.g, 4, none⟩) hl2).trans t4
        have u5 : (w3.alloc (.cells #[.string k] 9)).cell? ⟨p.g, 4, none⟩ = some (.slice o s.out.length c) := (((Below.refl w3.heap.size w3).alloc (Nat.le_refl _) (.cells #[.string k] 9)).cell (p := ⟨p.g, 4, none⟩) (Nat.lt_of_lt_of_le hl2 hb3.size)).trans u4
        refine wpAny_ready (rs := [4, 7]) (by kernel_rfl) (by simp) ?_
        refine AllReady.cons rfl (fun K hK => ?_) (AllReady.cons rfl (fun K hK => ?_) AllReady.nil)
        · go_simp
          refine hK _ _ ?_
          clear hK K
          go_simp
          refine wpAny_ready (rs := [7]) (by kernel_rfl) (by simp) ?_
          refine AllReady.cons rfl (fun K hK => ?_) AllReady.nil
          go_simp
          refine hK _ _ ?_
          clear hK K
          go_simp
          refine wpAny_ready (rs := [8]) (by kernel_rfl) (by simp) ?_
          refine AllReady.cons rfl (fun K hK => ?_) AllReady.nil
          refine wp_append_own _ _ _ 24 rfl (p.g + 1) 9 i0 (.string ⟨#[]⟩) 1 16 Tryd.underlying24 hi0 hz0 hz1_ hz2_ rfl (by decide) (.slice o s.out.length c) s.out.length (strCellsX s.out) rfl (World.ownsRow.alloc (OwnX.below r2.out hb3) _) ⟨w3.heap.size, 0, none⟩ 1 1 [.string k] rfl rfl (by intro j u hj; match j, hj with | 0, hj => cases hj; simp [Addr.add]) (by intro u hu; simp at hu; subst hu; rfl) (by unfold maxLen; omega) (by omega) (by simp; have := (hb3).size; omega) ?_
          intro y5 w6 ho5 hg5 _
          have hown5 : OwnX (p.g + 1) y5 (s.out ++ [k]) w6 := by
            unfold OwnX strCellsX
            rw [List.map_append, List.length_append]
            exact ho5
          obtain ⟨o5, k5, rfl⟩ := hown5.shape
          obtain ⟨⟨x4, xf⟩, fE, fB⟩ := ep_fin p A way s k o c w2 w3 w6 o5 k5 hp r1.out r2.out rB.out rW.out rG.out hS2.out hb3 hg5 hown5
          have FE := mkHid fE
          have FB := mkHid (z2.out.trans fB)
          generalize (s.out ++ [k]).length = ln at *
          clear fE fB hg5 ho5 hown5
          refine hK _ _ ?_
          clear hK K
          go_simp
          refine wpAny_take (i := 9) (v := .pointer (some ⟨p.g, 0, none⟩)) rfl (by kernel_rfl) (by kernel_rfl) (by kernel_rfl) (fun _ _ _ h => h) (Or.inl ⟨by rfl, ?_⟩) ?_
          · intro w
            go_simp
          go_simp
          refine wpAny_take (i := 10) (v := .pointer (some ⟨p.g, 4, none⟩)) rfl (by kernel_rfl) (by kernel_rfl) (by kernel_rfl) (fun _ _ _ h => h) (Or.inl ⟨by rfl, ?_⟩) ?_
          · intro w
            go_simp
          go_simp
          refine wpAny_ready (rs := [11]) (by kernel_rfl) (by simp) ?_
          refine AllReady.cons rfl (fun K hK => ?_) AllReady.nil
          go_simp
          refine hK _ _ ?_
          clear hK K
          go_simp
          refine wpAny_done (by kernel_rfl) ?_ _
          go_wp2
          go_ret
          exact ⟨rfl, FE, FB⟩
        · go_simp
          refine hK _ _ ?_
          clear hK K
          go_simp
          refine wpAny_ready (rs := [4]) (by kernel_rfl) (by simp) ?_
          refine AllReady.cons rfl (fun K hK => ?_) AllReady.nil
          go_simp
          refine hK _ _ ?_
          clear hK K
          go_simp
          refine wpAny_ready (rs := [8]) (by kernel_rfl) (by simp) ?_
          refine AllReady.cons rfl (fun K hK => ?_) AllReady.nil
          refine wp_append_own _ _ _ 24 rfl (p.g + 1) 9 i0 (.string ⟨#[]⟩) 1 16 Tryd.underlying24 hi0 hz0 hz1_ hz2_ rfl (by decide) (.slice o s.out.length c) s.out.length (strCellsX s.out) rfl (World.ownsRow.alloc (OwnX.below r2.out hb3) _) ⟨w3.heap.size, 0, none⟩ 1 1 [.string k] rfl rfl (by intro j u hj; match j, hj with | 0, hj => cases hj; simp [Addr.add]) (by intro u hu; simp at hu; subst hu; rfl) (by unfold maxLen; omega) (by omega) (by simp; have := (hb3).size; omega) ?_
          intro y5 w6 ho5 hg5 _
          have hown5 : OwnX (p.g + 1) y5 (s.out ++ [k]) w6 := by
            unfold OwnX strCellsX
            rw [List.map_append, List.length_append]
            exact ho5
          obtain ⟨o5, k5, rfl⟩ := hown5.shape
          obtain ⟨⟨x4, xf⟩, fE, fB⟩ := ep_fin p A way s k o c w2 w3 w6 o5 k5 hp r1.out r2.out rB.out rW.out rG.out hS2.out hb3 hg5 hown5
          have FE := mkHid fE
          have FB := mkHid (z2.out.trans fB)
          generalize (s.out ++ [k]).length = ln at *
          clear fE fB hg5 ho5 hown5
          refine hK _ _ ?_
          clear hK K
          go_simp
          refine wpAny_take (i := 9) (v := .pointer (some ⟨p.g, 0, none⟩)) rfl (by kernel_rfl) (by kernel_rfl) (by kernel_rfl) (fun _ _ _ h => h) (Or.inl ⟨by rfl, ?_⟩) ?_
          · intro w
            go_simp
          go_simp
          refine wpAny_take (i := 10) (v := .pointer (some ⟨p.g, 4, none⟩)) rfl (by kernel_rfl) (by kernel_rfl) (by kernel_rfl) (fun _ _ _ h => h) (Or.inl ⟨by rfl, ?_⟩) ?_
          · intro w
            go_simp
          go_simp
          refine wpAny_ready (rs := [11]) (by kernel_rfl) (by simp) ?_
          refine AllReady.cons rfl (fun K hK => ?_) AllReady.nil
          go_simp
          refine hK _ _ ?_
          clear hK K
          go_simp
          refine wpAny_done (by kernel_rfl) ?_ _
          go_wp2
          go_ret
          exact ⟨rfl, FE, FB⟩
  · rw [hin] at cH
    unfold Ex.add
    rw [if_pos hin]
    have HE := mkHid h
    clear h q1 q2
    go_enter Tryd.func66, Tryd.ntmps66
    go_wp2_with fail
    refine cH.out.mono ?_
    rintro e w1 ⟨rfl, hb1⟩
    have f1 := mkHid (HE.out.below hp hb1)
    have f2 := mkHid (hb1.mono (show p.b1 ≤ w.heap.size by omega))
    clear hb1 cH
    go_wp2
    go_ret
    exact ⟨rfl, f1, f2⟩
end Go.Proofs.YtfkjbamjppnohaaDoor
