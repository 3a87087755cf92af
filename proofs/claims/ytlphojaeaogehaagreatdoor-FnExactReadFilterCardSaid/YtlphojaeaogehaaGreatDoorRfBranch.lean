
/- The specification's reader of a script: what stands behind if or elsif. (By tools/gen/rfbranch.py.) -/
import Derived.Test.YtlphojaeaogehaaGreatDoorRfBlock
namespace Go.Proofs.YtlphojaeaogehaaGreatDoor
open Go.RowKit Go.Lib Go.Maps
namespace Rf
set_option maxRecDepth 20000 in
theorem cho_bad1 {T : List Tk} {t c : Nat → List Nd → Out} {F i j : Nat} {N : List Nd} (h : t i N = .bad j) : cho T t c (F + 1) i N = .bad j := by rw [cho, h]
set_option maxRecDepth 20000 in
theorem cho_bad2 {T : List Tk} {t c : Nat → List Nd → Out} {F i i1 j : Nat} {N N1 : List Nd} (h : t i N = .ok i1 N1) (h2 : blk T c i1 N1 = .bad j) : cho T t c (F + 1) i N = .bad j := by rw [cho, h]; simp only [h2]
def choEnd (N1 N2 : List Nd) : Out → Out
  | .ok i N => .ok i (N ++ [{ zn 2 with kids := [last N1, last N2, last N] }])
  | .bad j => .bad j
set_option maxRecDepth 20000 in
theorem cho_elsif {T : List Tk} {t c : Nat → List Nd → Out} {F i i1 i2 : Nat} {N N1 N2 : List Nd} (h : t i N = .ok i1 N1) (h2 : blk T c i1 N1 = .ok i2 N2) (h3 : is T i2 119 wElsif = true) : cho T t c (F + 1) i N = choEnd N1 N2 (cho T t c F (i2 + 1) N2) := by
  rw [cho, h]
  simp only [h2, h3, if_true]
  cases cho T t c F (i2 + 1) N2 <;> rfl
set_option maxRecDepth 20000 in
theorem cho_else {T : List Tk} {t c : Nat → List Nd → Out} {F i i1 i2 : Nat} {N N1 N2 : List Nd} (h : t i N = .ok i1 N1) (h2 : blk T c i1 N1 = .ok i2 N2) (h3 : is T i2 119 wElsif = false) (h4 : is T i2 119 wElse = true) : cho T t c (F + 1) i N = choEnd N1 N2 (blk T c (i2 + 1) N2) := by
  rw [cho, h]
  simp only [h2, h3, h4, if_true, Bool.false_eq_true, if_false]
  cases blk T c (i2 + 1) N2 <;> rfl
set_option maxRecDepth 20000 in
theorem cho_none {T : List Tk} {t c : Nat → List Nd → Out} {F i i1 i2 : Nat} {N N1 N2 : List Nd} (h : t i N = .ok i1 N1) (h2 : blk T c i1 N1 = .ok i2 N2) (h3 : is T i2 119 wElsif = false) (h4 : is T i2 119 wElse = false) : cho T t c (F + 1) i N = .ok i2 (N2 ++ [{ zn 2 with kids := [last N1, last N2] }]) := by
  rw [cho, h]
  simp only [h2, h3, h4, Bool.false_eq_true, if_false]
end Rf
set_option maxRecDepth 20000 in
set_option maxHeartbeats 8000000 in
theorem specBranch (g : Nat) (tv : Value) (l : List UInt8) (T : List Rf.Tk) (TE : List TkE) (f : Nat) (t c : Nat → List Nd → Rf.Out) (hK : Tks l T TE) (hT : T.length ≤ 30000) (hTst : RdC 47 g tv T TE 0 f t) (hBlk : RdC 28 g tv T TE 1 f (Rf.blk T c)) :
    ∀ F f', f' ≤ f → f' ≤ F → RdC 26 g tv T TE 2 f' (Rf.cho T t c F) := by
  intro F
  induction F with
  | zero =>
    intro f' _ hF i bad many v E w h hi hf
    exfalso
    omega
  | succ F ih =>
    intro f' hff hfF i bad many v E w h hi hf hE
    obtain ⟨R, hR⟩ : ∃ R, R = Rf.given bad i (Rf.cho T t c (F + 1) i (E.map (·.1))) := ⟨_, rfl⟩
    have hgl := heap_ltM h.blk
    have hll := hK.length
    obtain ⟨W0, hW0⟩ : ∃ W0, w.alloc (.cells #[.int .i64 2, .int .i64 0, .int .i64 0, .string ⟨#[]⟩, .slice none 0 0, .slice none 0 0, .slice none 0 0] 37) = W0 := ⟨_, rfl⟩
    obtain ⟨ks0, A0, vd0, hks0, hA0, S0⟩ : ∃ (ks0 : List Int) (A0 : List NdE) (vd0 : Value), Hid (ks0 = []) ∧ Hid (A0 = []) ∧ Hid (Fm g tv TE v E w w.heap.size { Rf.zn 2 with kids := ks0 } (.slice none 0 0) (.slice none 0 0) vd0 i bad many v A0 W0) := ⟨[], [], .slice none 0 0, rfl, rfl, by rw [← hW0]; exact Fm.start hgl h (Ef.refl2 _ _ _) 2⟩
    have hl0 : A0.length < 1 := by rw [hA0.out]; decide
    have hk0 : ks0.length ≤ 5 := by rw [hks0.out]; decide
    have HR := mkHid hR
    have HK := mkHid hK
    have HE := mkHid hE
    have Ih := mkHid ih
    have HTst := mkHid hTst
    have HBlk := mkHid hBlk
    have HW0 := mkHid hW0
    clear hR h ih hW0
    go_enter Tryz.func26, Tryz.ntmps26
    go_wp2
    rw [HW0.out]
    clear HW0
    obtain ⟨RR, hRR⟩ : ∃ RR : Act → Act → World → Prop, RR = (fun a a' w' => ∃ (z1 : Int) (X1 : List NdE) (j1 : Nat) (bd1 mn1 : Bool) (v1 vd1 : Value) (hh1 : Nat) (u1 : World), a' = (((((((a.put (some 5) (.pointer (some ⟨w.heap.size, 6, none⟩))).put (some 6) vd0).put (some 7) (.pointer (some ⟨g, 0, none⟩))).put (some 8) (.int .i64 z1)).put (some 9) (.slice (some ⟨hh1, 0, none⟩) 1 1)).put (some 10) vd1).put (some 11) (.pointer (some ⟨w.heap.size, 6, none⟩))) ∧ Hid (Fm g tv TE v E w w.heap.size { Rf.zn 2 with kids := ks0 ++ [z1] } (.slice none 0 0) (.slice none 0 0) vd1 j1 bd1 mn1 v1 (A0 ++ X1) w') ∧ Hid (RdP g tv T TE 0 t i bad many v (E ++ A0) W0.drew z1 X1 j1 bd1 mn1 v1 u1)) := ⟨_, rfl⟩
    have HRR := mkHid hRR
    clear hRR
    refine wp_cut RR ?_ ?_
    · have SD := mkHid (S0.out.small (S0.out.rs.below (below_drew (Below.refl _ _))) (Ef.of_below (below_drew (Below.refl _ _))))
      have kC := mkHid (HTst.out i bad many v (E ++ A0) W0.drew SD.out.rs hi (by omega) (by have := HE.out; rw [List.length_append]; omega))
      obtain ⟨oD, cD, eD⟩ := own_shape S0.out.od
      subst eD
      have y0 : W0.cell? ⟨w.heap.size, 6, none⟩ = some (.slice oD ks0.length cD) := by simp [World.cell?, S0.out.blk]
      refine wp_region_any (by kernel_rfl) ?_
      refine wpAny_take (i := 0) (v := (.pointer (some ⟨w.heap.size, 6, none⟩))) rfl (by kernel_rfl) (by kernel_rfl) (by kernel_rfl) (fun _ _ _ h => nomatch h.1) (Or.inl ⟨by rfl, ?_⟩) ?_
      · intro w
        go_simp
        all_goals first | done | (intro h; exfalso; omega) | omega
      go_simp
      refine wpAny_take (i := 2) (v := (.pointer (some ⟨g, 0, none⟩))) rfl (by kernel_rfl) (by kernel_rfl) (by kernel_rfl) (fun _ _ _ h => nomatch h.1) (Or.inl ⟨by rfl, ?_⟩) ?_
      · intro w
        go_simp
        all_goals first | done | (intro h; exfalso; omega) | omega
      go_simp
      refine wpAny_ready (rs := [1, 3]) (by kernel_rfl) (by simp) ?_
      refine AllReady.cons rfl (fun K hK => ?_) (AllReady.cons rfl (fun K hK => ?_) AllReady.nil)
      · skip
        go_simp
        refine hK _ _ ?_
        clear hK K
        go_simp
        refine wpAny_ready (rs := [3]) (by kernel_rfl) (by simp) ?_
        refine AllReady.cons rfl (fun K hK => ?_) AllReady.nil
        go_simp
        refine kC.out.mono ?_
        rintro e u1 ⟨z1, X1, j1, bd1, mn1, v1, rfl, hp⟩
        have S3 := mkHid (SD.out.call hp)
        have P1 := mkHid hp
        clear hp
        have y3 : u1.cell? ⟨w.heap.size, 6, none⟩ = some (.slice oD ks0.length cD) := by simp [World.cell?, S3.out.blk]
        have y4 : (u1.alloc (.cells #[.int .i64 z1] 2)).cell? ⟨w.heap.size, 6, none⟩ = some (.slice oD ks0.length cD) := (World.cell?_of_block (((Below.refl u1.heap.size u1).alloc (Nat.le_refl _) _).block w.heap.size (heap_ltM S3.out.blk))).trans y3
        go_simp
        refine hK _ _ ?_
        clear hK K
        go_simp
        refine wpAny_ready (rs := [4]) (by kernel_rfl) (by simp) ?_
        refine AllReady.cons rfl (fun K hK => ?_) AllReady.nil
        go_simp
        refine hK _ _ ?_
        clear hK K
        go_simp
        refine wpAny_ready (rs := [5]) (by kernel_rfl) (by simp) ?_
        refine AllReady.cons rfl (fun K hK => ?_) AllReady.nil
        refine opAppKd _ _ rfl w.heap.size (.slice oD ks0.length cD) ks0 rfl (S3.out.od.below ((Below.refl _ _).alloc (Nat.le_refl _) _)) z1 u1.heap.size 1 rfl (by simp) (by omega) (by have := S3.out.ef.size; simp; omega) ?_
        intro vd1 w4 ho4 hg4 hn4
        obtain ⟨x6, z6, s5⟩ := S3.out.kid ho4 hg4 hn4
        obtain ⟨o5, c5, e5⟩ := own_shape ho4
        rw [List.length_append, List.length_singleton] at e5
        subst e5
        have S1 := mkHid s5
        clear s5 ho4 hg4 hn4
        refine hK _ _ ?_
        clear hK K
        go_simp
        refine wpAny_take (i := 6) (v := (.pointer (some ⟨w.heap.size, 6, none⟩))) rfl (by kernel_rfl) (by kernel_rfl) (by kernel_rfl) (fun _ _ _ h => nomatch h.1) (Or.inl ⟨by rfl, ?_⟩) ?_
        · intro w
          go_simp
          all_goals first | done | (intro h; exfalso; omega) | omega
        go_simp
        refine wpAny_ready (rs := [7]) (by kernel_rfl) (by simp) ?_
        refine AllReady.cons rfl (fun K hK => ?_) AllReady.nil
        go_simp
        refine hK _ _ ?_
        clear hK K
        go_simp
        refine wpAny_done (by kernel_rfl) ?_ _
        first | refine ⟨rfl, ?_⟩ | skip
        rw [HRR.out]
        exact ⟨z1, X1, j1, bd1, mn1, v1, .slice o5 (ks0.length + 1) c5, u1.heap.size, u1, by kernel_rfl, S1, P1⟩
      · skip
        go_simp
        refine kC.out.mono ?_
        rintro e u1 ⟨z1, X1, j1, bd1, mn1, v1, rfl, hp⟩
        have S3 := mkHid (SD.out.call hp)
        have P1 := mkHid hp
        clear hp
        have y3 : u1.cell? ⟨w.heap.size, 6, none⟩ = some (.slice oD ks0.length cD) := by simp [World.cell?, S3.out.blk]
        have y4 : (u1.alloc (.cells #[.int .i64 z1] 2)).cell? ⟨w.heap.size, 6, none⟩ = some (.slice oD ks0.length cD) := (World.cell?_of_block (((Below.refl u1.heap.size u1).alloc (Nat.le_refl _) _).block w.heap.size (heap_ltM S3.out.blk))).trans y3
        go_simp
        refine hK _ _ ?_
        clear hK K
        go_simp
        refine wpAny_ready (rs := [1, 4]) (by kernel_rfl) (by simp) ?_
        refine AllReady.cons rfl (fun K hK => ?_) (AllReady.cons rfl (fun K hK => ?_) AllReady.nil)
        · skip
          go_simp
          refine hK _ _ ?_
          clear hK K
          go_simp
          refine wpAny_ready (rs := [4]) (by kernel_rfl) (by simp) ?_
          refine AllReady.cons rfl (fun K hK => ?_) AllReady.nil
          go_simp
          refine hK _ _ ?_
          clear hK K
          go_simp
          refine wpAny_ready (rs := [5]) (by kernel_rfl) (by simp) ?_
          refine AllReady.cons rfl (fun K hK => ?_) AllReady.nil
          refine opAppKd _ _ rfl w.heap.size (.slice oD ks0.length cD) ks0 rfl (S3.out.od.below ((Below.refl _ _).alloc (Nat.le_refl _) _)) z1 u1.heap.size 1 rfl (by simp) (by omega) (by have := S3.out.ef.size; simp; omega) ?_
          intro vd1 w4 ho4 hg4 hn4
          obtain ⟨x6, z6, s5⟩ := S3.out.kid ho4 hg4 hn4
          obtain ⟨o5, c5, e5⟩ := own_shape ho4
          rw [List.length_append, List.length_singleton] at e5
          subst e5
          have S1 := mkHid s5
          clear s5 ho4 hg4 hn4
          refine hK _ _ ?_
          clear hK K
          go_simp
          refine wpAny_take (i := 6) (v := (.pointer (some ⟨w.heap.size, 6, none⟩))) rfl (by kernel_rfl) (by kernel_rfl) (by kernel_rfl) (fun _ _ _ h => nomatch h.1) (Or.inl ⟨by rfl, ?_⟩) ?_
          · intro w
            go_simp
            all_goals first | done | (intro h; exfalso; omega) | omega
          go_simp
          refine wpAny_ready (rs := [7]) (by kernel_rfl) (by simp) ?_
          refine AllReady.cons rfl (fun K hK => ?_) AllReady.nil
          go_simp
          refine hK _ _ ?_
          clear hK K
          go_simp
          refine wpAny_done (by kernel_rfl) ?_ _
          first | refine ⟨rfl, ?_⟩ | skip
          rw [HRR.out]
          exact ⟨z1, X1, j1, bd1, mn1, v1, .slice o5 (ks0.length + 1) c5, u1.heap.size, u1, by kernel_rfl, S1, P1⟩
        · skip
          go_simp
          refine hK _ _ ?_
          clear hK K
          go_simp
          refine wpAny_ready (rs := [1]) (by kernel_rfl) (by simp) ?_
          refine AllReady.cons rfl (fun K hK => ?_) AllReady.nil
          go_simp
          refine hK _ _ ?_
          clear hK K
          go_simp
          refine wpAny_ready (rs := [5]) (by kernel_rfl) (by simp) ?_
          refine AllReady.cons rfl (fun K hK => ?_) AllReady.nil
          refine opAppKd _ _ rfl w.heap.size (.slice oD ks0.length cD) ks0 rfl (S3.out.od.below ((Below.refl _ _).alloc (Nat.le_refl _) _)) z1 u1.heap.size 1 rfl (by simp) (by omega) (by have := S3.out.ef.size; simp; omega) ?_
          intro vd1 w4 ho4 hg4 hn4
          obtain ⟨x6, z6, s5⟩ := S3.out.kid ho4 hg4 hn4
          obtain ⟨o5, c5, e5⟩ := own_shape ho4
          rw [List.length_append, List.length_singleton] at e5
          subst e5
          have S1 := mkHid s5
          clear s5 ho4 hg4 hn4
          refine hK _ _ ?_
          clear hK K
          go_simp
          refine wpAny_take (i := 6) (v := (.pointer (some ⟨w.heap.size, 6, none⟩))) rfl (by kernel_rfl) (by kernel_rfl) (by kernel_rfl) (fun _ _ _ h => nomatch h.1) (Or.inl ⟨by rfl, ?_⟩) ?_
          · intro w
            go_simp
            all_goals first | done | (intro h; exfalso; omega) | omega
          go_simp
          refine wpAny_ready (rs := [7]) (by kernel_rfl) (by simp) ?_
          refine AllReady.cons rfl (fun K hK => ?_) AllReady.nil
          go_simp
          refine hK _ _ ?_
          clear hK K
          go_simp
          refine wpAny_done (by kernel_rfl) ?_ _
          first | refine ⟨rfl, ?_⟩ | skip
          rw [HRR.out]
          exact ⟨z1, X1, j1, bd1, mn1, v1, .slice o5 (ks0.length + 1) c5, u1.heap.size, u1, by kernel_rfl, S1, P1⟩
    rw [HRR.out]
    clear HRR RR
    rintro a' W1 ⟨z1, X1, j1, bd1, mn1, v1, vd1, hh1, u1, rfl, S1, P1⟩
    obtain ⟨ks1, hks1⟩ : ∃ x, ks0 ++ [z1] = x := ⟨_, rfl⟩
    obtain ⟨A1, hA1⟩ : ∃ x, A0 ++ X1 = x := ⟨_, rfl⟩
    rw [hks1, hA1] at S1
    have q1 := mkHid P1.out.res
    have hlt1 := P1.out.lt
    have hle1 := P1.out.le
    have hcn1 := P1.out.cnt
    have hc01 := mkHid P1.out.cnt0
    have hl1 : A1.length = A0.length + X1.length := by rw [← hA1, List.length_append]
    replace hks1 := mkHid hks1
    replace hA1 := mkHid hA1
    clear P1 S0
    have hk1 : ks1.length ≤ 6 := by rw [← hks1.out, List.length_append, List.length_singleton]; omega
    go_wp2
    obtain ⟨RR, hRR⟩ : ∃ RR : Act → Act → World → Prop, RR = (fun a a' w' => ∃ (z2 : Int) (X2 : List NdE) (j2 : Nat) (bd2 mn2 : Bool) (v2 vd2 : Value) (hh2 : Nat) (u2 : World), a' = (((((((a.put (some 12) (.pointer (some ⟨w.heap.size, 6, none⟩))).put (some 13) vd1).put (some 14) (.pointer (some ⟨g, 0, none⟩))).put (some 15) (.int .i64 z2)).put (some 16) (.slice (some ⟨hh2, 0, none⟩) 1 1)).put (some 17) vd2).put (some 18) (.pointer (some ⟨w.heap.size, 6, none⟩))) ∧ Hid (Fm g tv TE v E w w.heap.size { Rf.zn 2 with kids := ks1 ++ [z2] } (.slice none 0 0) (.slice none 0 0) vd2 j2 bd2 mn2 v2 (A1 ++ X2) w') ∧ Hid (RdP g tv T TE 1 (Rf.blk T c) j1 bd1 mn1 v1 (E ++ A1) W1.drew z2 X2 j2 bd2 mn2 v2 u2)) := ⟨_, rfl⟩
    have HRR := mkHid hRR
    clear hRR
    refine wp_cut RR ?_ ?_
    · have SD := mkHid (S1.out.small (S1.out.rs.below (below_drew (Below.refl _ _))) (Ef.of_below (below_drew (Below.refl _ _))))
      have kC := mkHid (HBlk.out j1 bd1 mn1 v1 (E ++ A1) W1.drew SD.out.rs hlt1 (by omega) (by have := HE.out; rw [List.length_append]; omega))
      obtain ⟨oD, cD, eD⟩ := own_shape S1.out.od
      subst eD
      have y0 : W1.cell? ⟨w.heap.size, 6, none⟩ = some (.slice oD ks1.length cD) := by simp [World.cell?, S1.out.blk]
      refine wp_region_any (by kernel_rfl) ?_
      refine wpAny_take (i := 0) (v := (.pointer (some ⟨w.heap.size, 6, none⟩))) rfl (by kernel_rfl) (by kernel_rfl) (by kernel_rfl) (fun _ _ _ h => nomatch h.1) (Or.inl ⟨by rfl, ?_⟩) ?_
      · intro w
        go_simp
        all_goals first | done | (intro h; exfalso; omega) | omega
      go_simp
      refine wpAny_take (i := 2) (v := (.pointer (some ⟨g, 0, none⟩))) rfl (by kernel_rfl) (by kernel_rfl) (by kernel_rfl) (fun _ _ _ h => nomatch h.1) (Or.inl ⟨by rfl, ?_⟩) ?_
      · intro w
        go_simp
        all_goals first | done | (intro h; exfalso; omega) | omega
      go_simp
      refine wpAny_ready (rs := [1, 3]) (by kernel_rfl) (by simp) ?_
      refine AllReady.cons rfl (fun K hK => ?_) (AllReady.cons rfl (fun K hK => ?_) AllReady.nil)
      · skip
        go_simp
        refine hK _ _ ?_
        clear hK K
        go_simp
        refine wpAny_ready (rs := [3]) (by kernel_rfl) (by simp) ?_
        refine AllReady.cons rfl (fun K hK => ?_) AllReady.nil
        go_simp
        refine kC.out.mono ?_
        rintro e u2 ⟨z2, X2, j2, bd2, mn2, v2, rfl, hp⟩
        have S3 := mkHid (SD.out.call hp)
        have P2 := mkHid hp
        clear hp
        have y3 : u2.cell? ⟨w.heap.size, 6, none⟩ = some (.slice oD ks1.length cD) := by simp [World.cell?, S3.out.blk]
        have y4 : (u2.alloc (.cells #[.int .i64 z2] 2)).cell? ⟨w.heap.size, 6, none⟩ = some (.slice oD ks1.length cD) := (World.cell?_of_block (((Below.refl u2.heap.size u2).alloc (Nat.le_refl _) _).block w.heap.size (heap_ltM S3.out.blk))).trans y3
        go_simp
        refine hK _ _ ?_
        clear hK K
        go_simp
        refine wpAny_ready (rs := [4]) (by kernel_rfl) (by simp) ?_
        refine AllReady.cons rfl (fun K hK => ?_) AllReady.nil
        go_simp
        refine hK _ _ ?_
        clear hK K
        go_simp
        refine wpAny_ready (rs := [5]) (by kernel_rfl) (by simp) ?_
        refine AllReady.cons rfl (fun K hK => ?_) AllReady.nil
        refine opAppKd _ _ rfl w.heap.size (.slice oD ks1.length cD) ks1 rfl (S3.out.od.below ((Below.refl _ _).alloc (Nat.le_refl _) _)) z2 u2.heap.size 1 rfl (by simp) (by omega) (by have := S3.out.ef.size; simp; omega) ?_
        intro vd2 w4 ho4 hg4 hn4
        obtain ⟨x6, z6, s5⟩ := S3.out.kid ho4 hg4 hn4
        obtain ⟨o5, c5, e5⟩ := own_shape ho4
        rw [List.length_append, List.length_singleton] at e5
        subst e5
        have S2 := mkHid s5
        clear s5 ho4 hg4 hn4
        refine hK _ _ ?_
        clear hK K
        go_simp
        refine wpAny_take (i := 6) (v := (.pointer (some ⟨w.heap.size, 6, none⟩))) rfl (by kernel_rfl) (by kernel_rfl) (by kernel_rfl) (fun _ _ _ h => nomatch h.1) (Or.inl ⟨by rfl, ?_⟩) ?_
        · intro w
          go_simp
          all_goals first | done | (intro h; exfalso; omega) | omega
        go_simp
        refine wpAny_ready (rs := [7]) (by kernel_rfl) (by simp) ?_
        refine AllReady.cons rfl (fun K hK => ?_) AllReady.nil
        go_simp
        refine hK _ _ ?_
        clear hK K
        go_simp
        refine wpAny_done (by kernel_rfl) ?_ _
        first | refine ⟨rfl, ?_⟩ | skip
        rw [HRR.out]
        exact ⟨z2, X2, j2, bd2, mn2, v2, .slice o5 (ks1.length + 1) c5, u2.heap.size, u2, by kernel_rfl, S2, P2⟩
      · skip
        go_simp
        refine kC.out.mono ?_
        rintro e u2 ⟨z2, X2, j2, bd2, mn2, v2, rfl, hp⟩
        have S3 := mkHid (SD.out.call hp)
        have P2 := mkHid hp
        clear hp
        have y3 : u2.cell? ⟨w.heap.size, 6, none⟩ = some (.slice oD ks1.length cD) := by simp [World.cell?, S3.out.blk]
        have y4 : (u2.alloc (.cells #[.int .i64 z2] 2)).cell? ⟨w.heap.size, 6, none⟩ = some (.slice oD ks1.length cD) := (World.cell?_of_block (((Below.refl u2.heap.size u2).alloc (Nat.le_refl _) _).block w.heap.size (heap_ltM S3.out.blk))).trans y3
        go_simp
        refine hK _ _ ?_
        clear hK K
        go_simp
        refine wpAny_ready (rs := [1, 4]) (by kernel_rfl) (by simp) ?_
        refine AllReady.cons rfl (fun K hK => ?_) (AllReady.cons rfl (fun K hK => ?_) AllReady.nil)
        · skip
          go_simp
          refine hK _ _ ?_
          clear hK K
          go_simp
          refine wpAny_ready (rs := [4]) (by kernel_rfl) (by simp) ?_
          refine AllReady.cons rfl (fun K hK => ?_) AllReady.nil
          go_simp
          refine hK _ _ ?_
          clear hK K
          go_simp
          refine wpAny_ready (rs := [5]) (by kernel_rfl) (by simp) ?_
          refine AllReady.cons rfl (fun K hK => ?_) AllReady.nil
          refine opAppKd _ _ rfl w.heap.size (.slice oD ks1.length cD) ks1 rfl (S3.out.od.below ((Below.refl _ _).alloc (Nat.le_refl _) _)) z2 u2.heap.size 1 rfl (by simp) (by omega) (by have := S3.out.ef.size; simp; omega) ?_
          intro vd2 w4 ho4 hg4 hn4
          obtain ⟨x6, z6, s5⟩ := S3.out.kid ho4 hg4 hn4
          obtain ⟨o5, c5, e5⟩ := own_shape ho4
          rw [List.length_append, List.length_singleton] at e5
          subst e5
          have S2 := mkHid s5
          clear s5 ho4 hg4 hn4
          refine hK _ _ ?_
          clear hK K
          go_simp
          refine wpAny_take (i := 6) (v := (.pointer (some ⟨w.heap.size, 6, none⟩))) rfl (by kernel_rfl) (by kernel_rfl) (by kernel_rfl) (fun _ _ _ h => nomatch h.1) (Or.inl ⟨by rfl, ?_⟩) ?_
          · intro w
            go_simp
            all_goals first | done | (intro h; exfalso; omega) | omega
          go_simp
          refine wpAny_ready (rs := [7]) (by kernel_rfl) (by simp) ?_
          refine AllReady.cons rfl (fun K hK => ?_) AllReady.nil
          go_simp
          refine hK _ _ ?_
          clear hK K
          go_simp
          refine wpAny_done (by kernel_rfl) ?_ _
          first | refine ⟨rfl, ?_⟩ | skip
          rw [HRR.out]
          exact ⟨z2, X2, j2, bd2, mn2, v2, .slice o5 (ks1.length + 1) c5, u2.heap.size, u2, by kernel_rfl, S2, P2⟩
        · skip
          go_simp
          refine hK _ _ ?_
          clear hK K
          go_simp
          refine wpAny_ready (rs := [1]) (by kernel_rfl) (by simp) ?_
          refine AllReady.cons rfl (fun K hK => ?_) AllReady.nil
          go_simp
          refine hK _ _ ?_
          clear hK K
          go_simp
          refine wpAny_ready (rs := [5]) (by kernel_rfl) (by simp) ?_
          refine AllReady.cons rfl (fun K hK => ?_) AllReady.nil
          refine opAppKd _ _ rfl w.heap.size (.slice oD ks1.length cD) ks1 rfl (S3.out.od.below ((Below.refl _ _).alloc (Nat.le_refl _) _)) z2 u2.heap.size 1 rfl (by simp) (by omega) (by have := S3.out.ef.size; simp; omega) ?_
          intro vd2 w4 ho4 hg4 hn4
          obtain ⟨x6, z6, s5⟩ := S3.out.kid ho4 hg4 hn4
          obtain ⟨o5, c5, e5⟩ := own_shape ho4
          rw [List.length_append, List.length_singleton] at e5
          subst e5
          have S2 := mkHid s5
          clear s5 ho4 hg4 hn4
          refine hK _ _ ?_
          clear hK K
          go_simp
          refine wpAny_take (i := 6) (v := (.pointer (some ⟨w.heap.size, 6, none⟩))) rfl (by kernel_rfl) (by kernel_rfl) (by kernel_rfl) (fun _ _ _ h => nomatch h.1) (Or.inl ⟨by rfl, ?_⟩) ?_
          · intro w
            go_simp
            all_goals first | done | (intro h; exfalso; omega) | omega
          go_simp
          refine wpAny_ready (rs := [7]) (by kernel_rfl) (by simp) ?_
          refine AllReady.cons rfl (fun K hK => ?_) AllReady.nil
          go_simp
          refine hK _ _ ?_
          clear hK K
          go_simp
          refine wpAny_done (by kernel_rfl) ?_ _
          first | refine ⟨rfl, ?_⟩ | skip
          rw [HRR.out]
          exact ⟨z2, X2, j2, bd2, mn2, v2, .slice o5 (ks1.length + 1) c5, u2.heap.size, u2, by kernel_rfl, S2, P2⟩
    rw [HRR.out]
    clear HRR RR
    rintro a' W2 ⟨z2, X2, j2, bd2, mn2, v2, vd2, hh2, u2, rfl, S2, P2⟩
    obtain ⟨ks2, hks2⟩ : ∃ x, ks1 ++ [z2] = x := ⟨_, rfl⟩
    obtain ⟨A2, hA2⟩ : ∃ x, A1 ++ X2 = x := ⟨_, rfl⟩
    rw [hks2, hA2] at S2
    have q2 := mkHid P2.out.res
    have hlt2 := P2.out.lt
    have hle2 := P2.out.le
    have hcn2 := P2.out.cnt
    have hc02 := mkHid P2.out.cnt0
    have hl2 : A2.length = A1.length + X2.length := by rw [← hA2, List.length_append]
    replace hks2 := mkHid hks2
    replace hA2 := mkHid hA2
    clear P2 S1
    have hk2 : ks2.length ≤ 7 := by rw [← hks2.out, List.length_append, List.length_singleton]; omega
    have G1 : Hid ((bd1 = true → R = .bad j1) ∧ (bd1 = false → bad = false ∧ t i (E.map (·.1)) = .ok j1 ((E ++ A1).map (·.1)) ∧ z1 = Rf.last ((E ++ A1).map (·.1)) ∧ mn1 = (many || big A1))) := by
      have q := q1.out
      have hA := hA1.out
      rw [hA0.out] at q hA
      rw [List.append_nil] at q
      rw [List.nil_append] at hA
      rw [hA] at q
      refine ⟨fun e => ?_, q.2⟩
      have q := q.1 e
      rw [HR.out]
      cases bad
      · exact Rf.cho_bad1 q
      · exact q
    have G2 : Hid ((bd2 = true → R = .bad j2) ∧ (bd2 = false → bd1 = false ∧ Rf.blk T c j1 ((E ++ A1).map (·.1)) = .ok j2 ((E ++ A2).map (·.1)) ∧ z2 = Rf.last ((E ++ A2).map (·.1)) ∧ mn2 = (many || big A2))) := by
      have q := q2.out
      rw [List.append_assoc, hA2.out] at q
      refine ⟨fun e => ?_, fun e => ?_⟩
      · have q := q.1 e
        cases hb : bd1 with
        | true =>
          rw [hb] at q
          exact (G1.out.1 hb).trans q
        | false =>
          rw [hb] at q
          obtain ⟨a1, a2, a3, a4⟩ := G1.out.2 hb
          rw [HR.out, a1]
          exact Rf.cho_bad2 a2 q
      · obtain ⟨b1, b2, b3, b4⟩ := q.2 e
        obtain ⟨a1, a2, a3, a4⟩ := G1.out.2 b1
        exact ⟨b1, b2, b3, by rw [b4, a4, ← hA2.out, big_app, Bool.or_assoc]⟩
    clear q1 q2
    go_wp2_with (go_at_call 25; fail)
    by_cases hX : (!bd2 && Rf.is T j2 119 Rf.wElsif) = true

    · obtain ⟨hb0, hY⟩ : bd2 = false ∧ Rf.is T j2 119 Rf.wElsif = true := by cases bd2 <;> simp_all
      subst hb0
      have hj2 := HK.out.is_nxt j2 hlt2 119 Rf.wElsif hY
      refine (specMayY g tv TE j2 mn2 v2 (E ++ A2) W2 119 ⟨#[101, 108, 115, 105, 102]⟩ S2.out.rs (by omega) (by omega) (by rw [HK.out.is j2 hlt2]; exact hY)).mono ?_
      rintro e W3 ⟨rfl, h3, e3⟩
      have S3 := mkHid (S2.out.small h3 e3)
      clear h3 e3 S2
      have hc2 := hc02.out rfl
      go_wp2
      obtain ⟨RR, hRR⟩ : ∃ RR : Act → Act → World → Prop, RR = (fun a a' w' => ∃ (z5 : Int) (X5 : List NdE) (j5 : Nat) (bd5 mn5 : Bool) (v5 vd5 : Value) (hh5 : Nat) (u5 : World), a' = (((((((a.put (some 21) (.pointer (some ⟨w.heap.size, 6, none⟩))).put (some 22) vd2).put (some 23) (.pointer (some ⟨g, 0, none⟩))).put (some 24) (.int .i64 z5)).put (some 25) (.slice (some ⟨hh5, 0, none⟩) 1 1)).put (some 26) vd5).put (some 27) (.pointer (some ⟨w.heap.size, 6, none⟩))) ∧ Hid (Fm g tv TE v E w w.heap.size { Rf.zn 2 with kids := ks2 ++ [z5] } (.slice none 0 0) (.slice none 0 0) vd5 j5 bd5 mn5 v5 (A2 ++ X5) w') ∧ Hid (RdP g tv T TE 2 (Rf.cho T t c F) (j2 + 1) false mn2 v2 (E ++ A2) W3.drew z5 X5 j5 bd5 mn5 v5 u5)) := ⟨_, rfl⟩
      have HRR := mkHid hRR
      clear hRR
      refine wp_cut RR ?_ ?_
      · have SD := mkHid (S3.out.small (S3.out.rs.below (below_drew (Below.refl _ _))) (Ef.of_below (below_drew (Below.refl _ _))))
        have kC := mkHid (Ih.out (f' - 1) (by omega) (by omega) (j2 + 1) false mn2 v2 (E ++ A2) W3.drew SD.out.rs hj2 (by omega) (by have := HE.out; rw [List.length_append]; omega))
        obtain ⟨oD, cD, eD⟩ := own_shape S3.out.od
        subst eD
        have y0 : W3.cell? ⟨w.heap.size, 6, none⟩ = some (.slice oD ks2.length cD) := by simp [World.cell?, S3.out.blk]
        refine wp_region_any (by kernel_rfl) ?_
        refine wpAny_take (i := 0) (v := (.pointer (some ⟨w.heap.size, 6, none⟩))) rfl (by kernel_rfl) (by kernel_rfl) (by kernel_rfl) (fun _ _ _ h => nomatch h.1) (Or.inl ⟨by rfl, ?_⟩) ?_
        · intro w
          go_simp
          all_goals first | done | (intro h; exfalso; omega) | omega
        go_simp
        refine wpAny_take (i := 2) (v := (.pointer (some ⟨g, 0, none⟩))) rfl (by kernel_rfl) (by kernel_rfl) (by kernel_rfl) (fun _ _ _ h => nomatch h.1) (Or.inl ⟨by rfl, ?_⟩) ?_
        · intro w
          go_simp
          all_goals first | done | (intro h; exfalso; omega) | omega
        go_simp
        refine wpAny_ready (rs := [1, 3]) (by kernel_rfl) (by simp) ?_
        refine AllReady.cons rfl (fun K hK => ?_) (AllReady.cons rfl (fun K hK => ?_) AllReady.nil)
        · skip
          go_simp
          refine hK _ _ ?_
          clear hK K
          go_simp
          refine wpAny_ready (rs := [3]) (by kernel_rfl) (by simp) ?_
          refine AllReady.cons rfl (fun K hK => ?_) AllReady.nil
          go_simp
          refine kC.out.mono ?_
          rintro e u5 ⟨z5, X5, j5, bd5, mn5, v5, rfl, hp⟩
          have S3 := mkHid (SD.out.call hp)
          have P5 := mkHid hp
          clear hp
          have y3 : u5.cell? ⟨w.heap.size, 6, none⟩ = some (.slice oD ks2.length cD) := by simp [World.cell?, S3.out.blk]
          have y4 : (u5.alloc (.cells #[.int .i64 z5] 2)).cell? ⟨w.heap.size, 6, none⟩ = some (.slice oD ks2.length cD) := (World.cell?_of_block (((Below.refl u5.heap.size u5).alloc (Nat.le_refl _) _).block w.heap.size (heap_ltM S3.out.blk))).trans y3
          go_simp
          refine hK _ _ ?_
          clear hK K
          go_simp
          refine wpAny_ready (rs := [4]) (by kernel_rfl) (by simp) ?_
          refine AllReady.cons rfl (fun K hK => ?_) AllReady.nil
          go_simp
          refine hK _ _ ?_
          clear hK K
          go_simp
          refine wpAny_ready (rs := [5]) (by kernel_rfl) (by simp) ?_
          refine AllReady.cons rfl (fun K hK => ?_) AllReady.nil
          refine opAppKd _ _ rfl w.heap.size (.slice oD ks2.length cD) ks2 rfl (S3.out.od.below ((Below.refl _ _).alloc (Nat.le_refl _) _)) z5 u5.heap.size 1 rfl (by simp) (by omega) (by have := S3.out.ef.size; simp; omega) ?_
          intro vd5 w4 ho4 hg4 hn4
          obtain ⟨x6, z6, s5⟩ := S3.out.kid ho4 hg4 hn4
          obtain ⟨o5, c5, e5⟩ := own_shape ho4
          rw [List.length_append, List.length_singleton] at e5
          subst e5
          have S5 := mkHid s5
          clear s5 ho4 hg4 hn4
          refine hK _ _ ?_
          clear hK K
          go_simp
          refine wpAny_take (i := 6) (v := (.pointer (some ⟨w.heap.size, 6, none⟩))) rfl (by kernel_rfl) (by kernel_rfl) (by kernel_rfl) (fun _ _ _ h => nomatch h.1) (Or.inl ⟨by rfl, ?_⟩) ?_
          · intro w
            go_simp
            all_goals first | done | (intro h; exfalso; omega) | omega
          go_simp
          refine wpAny_ready (rs := [7]) (by kernel_rfl) (by simp) ?_
          refine AllReady.cons rfl (fun K hK => ?_) AllReady.nil
          go_simp
          refine hK _ _ ?_
          clear hK K
          go_simp
          refine wpAny_done (by kernel_rfl) ?_ _
          first | refine ⟨rfl, ?_⟩ | skip
          rw [HRR.out]
          exact ⟨z5, X5, j5, bd5, mn5, v5, .slice o5 (ks2.length + 1) c5, u5.heap.size, u5, by kernel_rfl, S5, P5⟩
        · skip
          go_simp
          refine kC.out.mono ?_
          rintro e u5 ⟨z5, X5, j5, bd5, mn5, v5, rfl, hp⟩
          have S3 := mkHid (SD.out.call hp)
          have P5 := mkHid hp
          clear hp
          have y3 : u5.cell? ⟨w.heap.size, 6, none⟩ = some (.slice oD ks2.length cD) := by simp [World.cell?, S3.out.blk]
          have y4 : (u5.alloc (.cells #[.int .i64 z5] 2)).cell? ⟨w.heap.size, 6, none⟩ = some (.slice oD ks2.length cD) := (World.cell?_of_block (((Below.refl u5.heap.size u5).alloc (Nat.le_refl _) _).block w.heap.size (heap_ltM S3.out.blk))).trans y3
          go_simp
          refine hK _ _ ?_
          clear hK K
          go_simp
          refine wpAny_ready (rs := [1, 4]) (by kernel_rfl) (by simp) ?_
          refine AllReady.cons rfl (fun K hK => ?_) (AllReady.cons rfl (fun K hK => ?_) AllReady.nil)
          · skip
            go_simp
            refine hK _ _ ?_
            clear hK K
            go_simp
            refine wpAny_ready (rs := [4]) (by kernel_rfl) (by simp) ?_
            refine AllReady.cons rfl (fun K hK => ?_) AllReady.nil
            go_simp
            refine hK _ _ ?_
            clear hK K
            go_simp
            refine wpAny_ready (rs := [5]) (by kernel_rfl) (by simp) ?_
            refine AllReady.cons rfl (fun K hK => ?_) AllReady.nil
            refine opAppKd _ _ rfl w.heap.size (.slice oD ks2.length cD) ks2 rfl (S3.out.od.below ((Below.refl _ _).alloc (Nat.le_refl _) _)) z5 u5.heap.size 1 rfl (by simp) (by omega) (by have := S3.out.ef.size; simp; omega) ?_
            intro vd5 w4 ho4 hg4 hn4
            obtain ⟨x6, z6, s5⟩ := S3.out.kid ho4 hg4 hn4
            obtain ⟨o5, c5, e5⟩ := own_shape ho4
            rw [List.length_append, List.length_singleton] at e5
            subst e5
            have S5 := mkHid s5
            clear s5 ho4 hg4 hn4
            refine hK _ _ ?_
            clear hK K
            go_simp
            refine wpAny_take (i := 6) (v := (.pointer (some ⟨w.heap.size, 6, none⟩))) rfl (by kernel_rfl) (by kernel_rfl) (by kernel_rfl) (fun _ _ _ h => nomatch h.1) (Or.inl ⟨by rfl, ?_⟩) ?_
            · intro w
              go_simp
              all_goals first | done | (intro h; exfalso; omega) | omega
            go_simp
            refine wpAny_ready (rs := [7]) (by kernel_rfl) (by simp) ?_
            refine AllReady.cons rfl (fun K hK => ?_) AllReady.nil
            go_simp
            refine hK _ _ ?_
            clear hK K
            go_simp
            refine wpAny_done (by kernel_rfl) ?_ _
            first | refine ⟨rfl, ?_⟩ | skip
            rw [HRR.out]
            exact ⟨z5, X5, j5, bd5, mn5, v5, .slice o5 (ks2.length + 1) c5, u5.heap.size, u5, by kernel_rfl, S5, P5⟩
          · skip
            go_simp
            refine hK _ _ ?_
            clear hK K
            go_simp
            refine wpAny_ready (rs := [1]) (by kernel_rfl) (by simp) ?_
            refine AllReady.cons rfl (fun K hK => ?_) AllReady.nil
            go_simp
            refine hK _ _ ?_
            clear hK K
            go_simp
            refine wpAny_ready (rs := [5]) (by kernel_rfl) (by simp) ?_
            refine AllReady.cons rfl (fun K hK => ?_) AllReady.nil
            refine opAppKd _ _ rfl w.heap.size (.slice oD ks2.length cD) ks2 rfl (S3.out.od.below ((Below.refl _ _).alloc (Nat.le_refl _) _)) z5 u5.heap.size 1 rfl (by simp) (by omega) (by have := S3.out.ef.size; simp; omega) ?_
            intro vd5 w4 ho4 hg4 hn4
            obtain ⟨x6, z6, s5⟩ := S3.out.kid ho4 hg4 hn4
            obtain ⟨o5, c5, e5⟩ := own_shape ho4
            rw [List.length_append, List.length_singleton] at e5
            subst e5
            have S5 := mkHid s5
            clear s5 ho4 hg4 hn4
            refine hK _ _ ?_
            clear hK K
            go_simp
            refine wpAny_take (i := 6) (v := (.pointer (some ⟨w.heap.size, 6, none⟩))) rfl (by kernel_rfl) (by kernel_rfl) (by kernel_rfl) (fun _ _ _ h => nomatch h.1) (Or.inl ⟨by rfl, ?_⟩) ?_
            · intro w
              go_simp
              all_goals first | done | (intro h; exfalso; omega) | omega
            go_simp
            refine wpAny_ready (rs := [7]) (by kernel_rfl) (by simp) ?_
            refine AllReady.cons rfl (fun K hK => ?_) AllReady.nil
            go_simp
            refine hK _ _ ?_
            clear hK K
            go_simp
            refine wpAny_done (by kernel_rfl) ?_ _
            first | refine ⟨rfl, ?_⟩ | skip
            rw [HRR.out]
            exact ⟨z5, X5, j5, bd5, mn5, v5, .slice o5 (ks2.length + 1) c5, u5.heap.size, u5, by kernel_rfl, S5, P5⟩
      rw [HRR.out]
      clear HRR RR
      rintro a' W5 ⟨z5, X5, j5, bd5, mn5, v5, vd5, hh5, u5, rfl, S5, P5⟩
      obtain ⟨ks5, hks5⟩ : ∃ x, ks2 ++ [z5] = x := ⟨_, rfl⟩
      obtain ⟨A5, hA5⟩ : ∃ x, A2 ++ X5 = x := ⟨_, rfl⟩
      rw [hks5, hA5] at S5
      have q5 := mkHid P5.out.res
      have hlt5 := P5.out.lt
      have hle5 := P5.out.le
      have hcn5 := P5.out.cnt
      have hc05 := mkHid P5.out.cnt0
      have hl5 : A5.length = A2.length + X5.length := by rw [← hA5, List.length_append]
      replace hks5 := mkHid hks5
      replace hA5 := mkHid hA5
      clear P5 S3
      have HO : Hid ((bd5 = true → R = .bad j5) ∧ (bd5 = false → R = .ok j5 ((E ++ A5).map (·.1) ++ [{ Rf.zn 2 with kids := ks5 }]) ∧ mn5 = (many || big A5))) := by
        have q := q5.out
        rw [List.append_assoc, hA5.out] at q
        obtain ⟨b1, b2, b3, b4⟩ := G2.out.2 (by trivial)
        obtain ⟨a1, a2, a3, a4⟩ := G1.out.2 b1
        refine ⟨fun e => ?_, fun e => ?_⟩
        · have q : _ = Rf.Out.bad j5 := q.1 e
          rw [HR.out, a1]
          refine (Rf.cho_elsif a2 b2 hY).trans ?_
          exact congrArg (Rf.choEnd _ _) q
        · obtain ⟨-, c2, c3, c4⟩ := q.2 e
          refine ⟨?_, by rw [c4, b4, ← hA5.out, big_app, Bool.or_assoc]⟩
          rw [HR.out, a1, ← hks5.out, ← hks2.out, ← hks1.out, hks0.out, a3, b3, c3]
          refine (Rf.cho_elsif a2 b2 hY).trans ?_
          rw [c2]
          rfl
      clear q5
      obtain ⟨oD, cD, eD⟩ := own_shape S5.out.od
      subst eD
      have hbk := S5.out.blk
      have d0 : W5.cell? ⟨w.heap.size, 0, none⟩ = some (.int .i64 2) := by simp [World.cell?, hbk]; rfl
      have d1 : W5.cell? ⟨w.heap.size, 1, none⟩ = some (.int .i64 0) := by simp [World.cell?, hbk]; rfl
      have d2 : W5.cell? ⟨w.heap.size, 2, none⟩ = some (.int .i64 0) := by simp [World.cell?, hbk]; rfl
      have d3 : W5.cell? ⟨w.heap.size, 3, none⟩ = some (.string ⟨#[]⟩) := by simp [World.cell?, hbk]; rfl
      have d4 : W5.cell? ⟨w.heap.size, 4, none⟩ = some (.slice none 0 0) := by simp [World.cell?, hbk]
      have d5 : W5.cell? ⟨w.heap.size, 5, none⟩ = some (.slice none 0 0) := by simp [World.cell?, hbk]
      have d6 : W5.cell? ⟨w.heap.size, 6, none⟩ = some (.slice oD ks5.length cD) := by simp [World.cell?, hbk]
      clear hbk
      have kP := mkHid (S5.out.put (by rw [List.length_append]; omega))
      clear S5
      go_wp2_with (go_at_call 11; fail)
      refine kP.out.mono ?_
      rintro e w9 ⟨rfl, v9, h9, e9, n9, f9, g9⟩
      clear d0 d1 d2 d3 d4 d5 d6 kP
      go_wp2
      go_ret
      exact ⟨_, _, j5, bd5, mn5, v9, rfl, RdP.mk2 R HR.out h9 e9 n9 f9 g9 hlt5 (by omega) (by simp; omega) (fun e => ⟨by have := hc05.out e; simp; omega, by have := hc05.out e; omega⟩) HO.out.1 (fun e => ⟨by rw [(HO.out.2 e).1]; simp, by simp [Rf.last]; omega, by rw [(HO.out.2 e).2, big_app]; simp [big, Rf.zn]⟩)⟩
    · have hX1 : (!bd2 && Rf.is T j2 119 Rf.wElsif) = false := by simpa using hX
      refine (specMayN g tv TE j2 bd2 mn2 v2 (E ++ A2) W2 119 ⟨#[101, 108, 115, 105, 102]⟩ S2.out.rs (by omega) (by rw [HK.out.is j2 hlt2]; exact hX1)).mono ?_
      rintro e W3 ⟨rfl, hb3⟩
      have S3 := mkHid (S2.out.small (S2.out.rs.below hb3) (Ef.of_below hb3))
      clear hb3 S2
      go_wp2_with (go_at_call 25; fail)
      by_cases hZ : (!bd2 && Rf.is T j2 119 Rf.wElse) = true

      · obtain ⟨hb0, hY⟩ : bd2 = false ∧ Rf.is T j2 119 Rf.wElse = true := by cases bd2 <;> simp_all
        subst hb0
        have hX2 : Rf.is T j2 119 Rf.wElsif = false := by simpa using hX1
        have hj2 := HK.out.is_nxt j2 hlt2 119 Rf.wElse hY
        refine (specMayY g tv TE j2 mn2 v2 (E ++ A2) W3 119 ⟨#[101, 108, 115, 101]⟩ S3.out.rs (by omega) (by omega) (by rw [HK.out.is j2 hlt2]; exact hY)).mono ?_
        rintro e W4 ⟨rfl, h3, e3⟩
        have S4 := mkHid (S3.out.small h3 e3)
        clear h3 e3 S3
        have hc2 := hc02.out rfl
        go_wp2
        obtain ⟨RR, hRR⟩ : ∃ RR : Act → Act → World → Prop, RR = (fun a a' w' => ∃ (z5 : Int) (X5 : List NdE) (j5 : Nat) (bd5 mn5 : Bool) (v5 vd5 : Value) (hh5 : Nat) (u5 : World), a' = (((((((a.put (some 30) (.pointer (some ⟨w.heap.size, 6, none⟩))).put (some 31) vd2).put (some 32) (.pointer (some ⟨g, 0, none⟩))).put (some 33) (.int .i64 z5)).put (some 34) (.slice (some ⟨hh5, 0, none⟩) 1 1)).put (some 35) vd5).put (some 36) (.pointer (some ⟨w.heap.size, 6, none⟩))) ∧ Hid (Fm g tv TE v E w w.heap.size { Rf.zn 2 with kids := ks2 ++ [z5] } (.slice none 0 0) (.slice none 0 0) vd5 j5 bd5 mn5 v5 (A2 ++ X5) w') ∧ Hid (RdP g tv T TE 1 (Rf.blk T c) (j2 + 1) false mn2 v2 (E ++ A2) W4.drew z5 X5 j5 bd5 mn5 v5 u5)) := ⟨_, rfl⟩
        have HRR := mkHid hRR
        clear hRR
        refine wp_cut RR ?_ ?_
        · have SD := mkHid (S4.out.small (S4.out.rs.below (below_drew (Below.refl _ _))) (Ef.of_below (below_drew (Below.refl _ _))))
          have kC := mkHid (HBlk.out (j2 + 1) false mn2 v2 (E ++ A2) W4.drew SD.out.rs hj2 (by omega) (by have := HE.out; rw [List.length_append]; omega))
          obtain ⟨oD, cD, eD⟩ := own_shape S4.out.od
          subst eD
          have y0 : W4.cell? ⟨w.heap.size, 6, none⟩ = some (.slice oD ks2.length cD) := by simp [World.cell?, S4.out.blk]
          refine wp_region_any (by kernel_rfl) ?_
          refine wpAny_take (i := 0) (v := (.pointer (some ⟨w.heap.size, 6, none⟩))) rfl (by kernel_rfl) (by kernel_rfl) (by kernel_rfl) (fun _ _ _ h => nomatch h.1) (Or.inl ⟨by rfl, ?_⟩) ?_
          · intro w
            go_simp
            all_goals first | done | (intro h; exfalso; omega) | omega
          go_simp
          refine wpAny_take (i := 2) (v := (.pointer (some ⟨g, 0, none⟩))) rfl (by kernel_rfl) (by kernel_rfl) (by kernel_rfl) (fun _ _ _ h => nomatch h.1) (Or.inl ⟨by rfl, ?_⟩) ?_
          · intro w
            go_simp
            all_goals first | done | (intro h; exfalso; omega) | omega
          go_simp
          refine wpAny_ready (rs := [1, 3]) (by kernel_rfl) (by simp) ?_
          refine AllReady.cons rfl (fun K hK => ?_) (AllReady.cons rfl (fun K hK => ?_) AllReady.nil)
          · skip
            go_simp
            refine hK _ _ ?_
            clear hK K
            go_simp
            refine wpAny_ready (rs := [3]) (by kernel_rfl) (by simp) ?_
            refine AllReady.cons rfl (fun K hK => ?_) AllReady.nil
            go_simp
            refine kC.out.mono ?_
            rintro e u5 ⟨z5, X5, j5, bd5, mn5, v5, rfl, hp⟩
            have S3 := mkHid (SD.out.call hp)
            have P5 := mkHid hp
            clear hp
            have y3 : u5.cell? ⟨w.heap.size, 6, none⟩ = some (.slice oD ks2.length cD) := by simp [World.cell?, S3.out.blk]
            have y4 : (u5.alloc (.cells #[.int .i64 z5] 2)).cell? ⟨w.heap.size, 6, none⟩ = some (.slice oD ks2.length cD) := (World.cell?_of_block (((Below.refl u5.heap.size u5).alloc (Nat.le_refl _) _).block w.heap.size (heap_ltM S3.out.blk))).trans y3
            go_simp
            refine hK _ _ ?_
            clear hK K
            go_simp
            refine wpAny_ready (rs := [4]) (by kernel_rfl) (by simp) ?_
            refine AllReady.cons rfl (fun K hK => ?_) AllReady.nil
            go_simp
            refine hK _ _ ?_
            clear hK K
            go_simp
            refine wpAny_ready (rs := [5]) (by kernel_rfl) (by simp) ?_
            refine AllReady.cons rfl (fun K hK => ?_) AllReady.nil
            refine opAppKd _ _ rfl w.heap.size (.slice oD ks2.length cD) ks2 rfl (S3.out.od.below ((Below.refl _ _).alloc (Nat.le_refl _) _)) z5 u5.heap.size 1 rfl (by simp) (by omega) (by have := S3.out.ef.size; simp; omega) ?_
            intro vd5 w4 ho4 hg4 hn4
            obtain ⟨x6, z6, s5⟩ := S3.out.kid ho4 hg4 hn4
            obtain ⟨o5, c5, e5⟩ := own_shape ho4
            rw [List.length_append, List.length_singleton] at e5
            subst e5
            have S5 := mkHid s5
            clear s5 ho4 hg4 hn4
            refine hK _ _ ?_
            clear hK K
            go_simp
            refine wpAny_take (i := 6) (v := (.pointer (some ⟨w.heap.size, 6, none⟩))) rfl (by kernel_rfl) (by kernel_rfl) (by kernel_rfl) (fun _ _ _ h => nomatch h.1) (Or.inl ⟨by rfl, ?_⟩) ?_
            · intro w
              go_simp
              all_goals first | done | (intro h; exfalso; omega) | omega
            go_simp
            refine wpAny_ready (rs := [7]) (by kernel_rfl) (by simp) ?_
            refine AllReady.cons rfl (fun K hK => ?_) AllReady.nil
            go_simp
            refine hK _ _ ?_
            clear hK K
            go_simp
            refine wpAny_done (by kernel_rfl) ?_ _
            first | refine ⟨rfl, ?_⟩ | skip
            rw [HRR.out]
            exact ⟨z5, X5, j5, bd5, mn5, v5, .slice o5 (ks2.length + 1) c5, u5.heap.size, u5, by kernel_rfl, S5, P5⟩
          · skip
            go_simp
            refine kC.out.mono ?_
            rintro e u5 ⟨z5, X5, j5, bd5, mn5, v5, rfl, hp⟩
            have S3 := mkHid (SD.out.call hp)
            have P5 := mkHid hp
            clear hp
            have y3 : u5.cell? ⟨w.heap.size, 6, none⟩ = some (.slice oD ks2.length cD) := by simp [World.cell?, S3.out.blk]
            have y4 : (u5.alloc (.cells #[.int .i64 z5] 2)).cell? ⟨w.heap.size, 6, none⟩ = some (.slice oD ks2.length cD) := (World.cell?_of_block (((Below.refl u5.heap.size u5).alloc (Nat.le_refl _) _).block w.heap.size (heap_ltM S3.out.blk))).trans y3
            go_simp
            refine hK _ _ ?_
            clear hK K
            go_simp
            refine wpAny_ready (rs := [1, 4]) (by kernel_rfl) (by simp) ?_
            refine AllReady.cons rfl (fun K hK => ?_) (AllReady.cons rfl (fun K hK => ?_) AllReady.nil)
            · skip
              go_simp
              refine hK _ _ ?_
              clear hK K
              go_simp
              refine wpAny_ready (rs := [4]) (by kernel_rfl) (by simp) ?_
              refine AllReady.cons rfl (fun K hK => ?_) AllReady.nil
              go_simp
              refine hK _ _ ?_
              clear hK K
              go_simp
              refine wpAny_ready (rs := [5]) (by kernel_rfl) (by simp) ?_
              refine AllReady.cons rfl (fun K hK => ?_) AllReady.nil
              refine opAppKd _ _ rfl w.heap.size (.slice oD ks2.length cD) ks2 rfl (S3.out.od.below ((Below.refl _ _).alloc (Nat.le_refl _) _)) z5 u5.heap.size 1 rfl (by simp) (by omega) (by have := S3.out.ef.size; simp; omega) ?_
              intro vd5 w4 ho4 hg4 hn4
              obtain ⟨x6, z6, s5⟩ := S3.out.kid ho4 hg4 hn4
              obtain ⟨o5, c5, e5⟩ := own_shape ho4
              rw [List.length_append, List.length_singleton] at e5
              subst e5
              have S5 := mkHid s5
              clear s5 ho4 hg4 hn4
              refine hK _ _ ?_
              clear hK K
              go_simp
              refine wpAny_take (i := 6) (v := (.pointer (some ⟨w.heap.size, 6, none⟩))) rfl (by kernel_rfl) (by kernel_rfl) (by kernel_rfl) (fun _ _ _ h => nomatch h.1) (Or.inl ⟨by rfl, ?_⟩) ?_
              · intro w
                go_simp
                all_goals first | done | (intro h; exfalso; omega) | omega
              go_simp
              refine wpAny_ready (rs := [7]) (by kernel_rfl) (by simp) ?_
              refine AllReady.cons rfl (fun K hK => ?_) AllReady.nil
              go_simp
              refine hK _ _ ?_
              clear hK K
              go_simp
              refine wpAny_done (by kernel_rfl) ?_ _
              first | refine ⟨rfl, ?_⟩ | skip
              rw [HRR.out]
              exact ⟨z5, X5, j5, bd5, mn5, v5, .slice o5 (ks2.length + 1) c5, u5.heap.size, u5, by kernel_rfl, S5, P5⟩
            · skip
              go_simp
              refine hK _ _ ?_
              clear hK K
              go_simp
              refine wpAny_ready (rs := [1]) (by kernel_rfl) (by simp) ?_
              refine AllReady.cons rfl (fun K hK => ?_) AllReady.nil
              go_simp
              refine hK _ _ ?_
              clear hK K
              go_simp
              refine wpAny_ready (rs := [5]) (by kernel_rfl) (by simp) ?_
              refine AllReady.cons rfl (fun K hK => ?_) AllReady.nil
              refine opAppKd _ _ rfl w.heap.size (.slice oD ks2.length cD) ks2 rfl (S3.out.od.below ((Below.refl _ _).alloc (Nat.le_refl _) _)) z5 u5.heap.size 1 rfl (by simp) (by omega) (by have := S3.out.ef.size; simp; omega) ?_
              intro vd5 w4 ho4 hg4 hn4
              obtain ⟨x6, z6, s5⟩ := S3.out.kid ho4 hg4 hn4
              obtain ⟨o5, c5, e5⟩ := own_shape ho4
              rw [List.length_append, List.length_singleton] at e5
              subst e5
              have S5 := mkHid s5
              clear s5 ho4 hg4 hn4
              refine hK _ _ ?_
              clear hK K
              go_simp
              refine wpAny_take (i := 6) (v := (.pointer (some ⟨w.heap.size, 6, none⟩))) rfl (by kernel_rfl) (by kernel_rfl) (by kernel_rfl) (fun _ _ _ h => nomatch h.1) (Or.inl ⟨by rfl, ?_⟩) ?_
              · intro w
                go_simp
                all_goals first | done | (intro h; exfalso; omega) | omega
              go_simp
              refine wpAny_ready (rs := [7]) (by kernel_rfl) (by simp) ?_
              refine AllReady.cons rfl (fun K hK => ?_) AllReady.nil
              go_simp
              refine hK _ _ ?_
              clear hK K
              go_simp
              refine wpAny_done (by kernel_rfl) ?_ _
              first | refine ⟨rfl, ?_⟩ | skip
              rw [HRR.out]
              exact ⟨z5, X5, j5, bd5, mn5, v5, .slice o5 (ks2.length + 1) c5, u5.heap.size, u5, by kernel_rfl, S5, P5⟩
        rw [HRR.out]
        clear HRR RR
        rintro a' W5 ⟨z5, X5, j5, bd5, mn5, v5, vd5, hh5, u5, rfl, S5, P5⟩
        obtain ⟨ks5, hks5⟩ : ∃ x, ks2 ++ [z5] = x := ⟨_, rfl⟩
        obtain ⟨A5, hA5⟩ : ∃ x, A2 ++ X5 = x := ⟨_, rfl⟩
        rw [hks5, hA5] at S5
        have q5 := mkHid P5.out.res
        have hlt5 := P5.out.lt
        have hle5 := P5.out.le
        have hcn5 := P5.out.cnt
        have hc05 := mkHid P5.out.cnt0
        have hl5 : A5.length = A2.length + X5.length := by rw [← hA5, List.length_append]
        replace hks5 := mkHid hks5
        replace hA5 := mkHid hA5
        clear P5 S4
        have HO : Hid ((bd5 = true → R = .bad j5) ∧ (bd5 = false → R = .ok j5 ((E ++ A5).map (·.1) ++ [{ Rf.zn 2 with kids := ks5 }]) ∧ mn5 = (many || big A5))) := by
          have q := q5.out
          rw [List.append_assoc, hA5.out] at q
          obtain ⟨b1, b2, b3, b4⟩ := G2.out.2 (by trivial)
          obtain ⟨a1, a2, a3, a4⟩ := G1.out.2 b1
          refine ⟨fun e => ?_, fun e => ?_⟩
          · have q : _ = Rf.Out.bad j5 := q.1 e
            rw [HR.out, a1]
            refine (Rf.cho_else a2 b2 hX2 hY).trans ?_
            exact congrArg (Rf.choEnd _ _) q
          · obtain ⟨-, c2, c3, c4⟩ := q.2 e
            refine ⟨?_, by rw [c4, b4, ← hA5.out, big_app, Bool.or_assoc]⟩
            rw [HR.out, a1, ← hks5.out, ← hks2.out, ← hks1.out, hks0.out, a3, b3, c3]
            refine (Rf.cho_else a2 b2 hX2 hY).trans ?_
            rw [c2]
            rfl
        clear q5
        obtain ⟨oD, cD, eD⟩ := own_shape S5.out.od
        subst eD
        have hbk := S5.out.blk
        have d0 : W5.cell? ⟨w.heap.size, 0, none⟩ = some (.int .i64 2) := by simp [World.cell?, hbk]; rfl
        have d1 : W5.cell? ⟨w.heap.size, 1, none⟩ = some (.int .i64 0) := by simp [World.cell?, hbk]; rfl
        have d2 : W5.cell? ⟨w.heap.size, 2, none⟩ = some (.int .i64 0) := by simp [World.cell?, hbk]; rfl
        have d3 : W5.cell? ⟨w.heap.size, 3, none⟩ = some (.string ⟨#[]⟩) := by simp [World.cell?, hbk]; rfl
        have d4 : W5.cell? ⟨w.heap.size, 4, none⟩ = some (.slice none 0 0) := by simp [World.cell?, hbk]
        have d5 : W5.cell? ⟨w.heap.size, 5, none⟩ = some (.slice none 0 0) := by simp [World.cell?, hbk]
        have d6 : W5.cell? ⟨w.heap.size, 6, none⟩ = some (.slice oD ks5.length cD) := by simp [World.cell?, hbk]
        clear hbk
        have kP := mkHid (S5.out.put (by rw [List.length_append]; omega))
        clear S5
        go_wp2_with (go_at_call 11; fail)
        refine kP.out.mono ?_
        rintro e w9 ⟨rfl, v9, h9, e9, n9, f9, g9⟩
        clear d0 d1 d2 d3 d4 d5 d6 kP
        go_wp2
        go_ret
        exact ⟨_, _, j5, bd5, mn5, v9, rfl, RdP.mk2 R HR.out h9 e9 n9 f9 g9 hlt5 (by omega) (by simp; omega) (fun e => ⟨by have := hc05.out e; simp; omega, by have := hc05.out e; omega⟩) HO.out.1 (fun e => ⟨by rw [(HO.out.2 e).1]; simp, by simp [Rf.last]; omega, by rw [(HO.out.2 e).2, big_app]; simp [big, Rf.zn]⟩)⟩
      · have hZ1 : (!bd2 && Rf.is T j2 119 Rf.wElse) = false := by simpa using hZ
        refine (specMayN g tv TE j2 bd2 mn2 v2 (E ++ A2) W3 119 ⟨#[101, 108, 115, 101]⟩ S3.out.rs (by omega) (by rw [HK.out.is j2 hlt2]; exact hZ1)).mono ?_
        rintro e W4 ⟨rfl, hb4⟩
        have S4 := mkHid (S3.out.small (S3.out.rs.below hb4) (Ef.of_below hb4))
        clear hb4 S3
        have HO : Hid (bd2 = false → R = .ok j2 ((E ++ A2).map (·.1) ++ [{ Rf.zn 2 with kids := ks2 }])) := by
          intro e
          obtain ⟨b1, b2, b3, b4⟩ := G2.out.2 e
          obtain ⟨a1, a2, a3, a4⟩ := G1.out.2 b1
          rw [e] at hX1 hZ1
          rw [HR.out, a1, ← hks2.out, ← hks1.out, hks0.out, a3, b3]
          exact Rf.cho_none a2 b2 hX1 hZ1
        have HC0 : Hid (bd2 = false → A2.length + 3 * i + 2 ≤ 3 * j2) := by
          intro e
          have x2 := hc02.out e
          have x1 := hc01.out (G2.out.2 e).1
          omega
        obtain ⟨oD, cD, eD⟩ := own_shape S4.out.od
        subst eD
        have hbk := S4.out.blk
        have d0 : W4.cell? ⟨w.heap.size, 0, none⟩ = some (.int .i64 2) := by simp [World.cell?, hbk]; rfl
        have d1 : W4.cell? ⟨w.heap.size, 1, none⟩ = some (.int .i64 0) := by simp [World.cell?, hbk]; rfl
        have d2 : W4.cell? ⟨w.heap.size, 2, none⟩ = some (.int .i64 0) := by simp [World.cell?, hbk]; rfl
        have d3 : W4.cell? ⟨w.heap.size, 3, none⟩ = some (.string ⟨#[]⟩) := by simp [World.cell?, hbk]; rfl
        have d4 : W4.cell? ⟨w.heap.size, 4, none⟩ = some (.slice none 0 0) := by simp [World.cell?, hbk]
        have d5 : W4.cell? ⟨w.heap.size, 5, none⟩ = some (.slice none 0 0) := by simp [World.cell?, hbk]
        have d6 : W4.cell? ⟨w.heap.size, 6, none⟩ = some (.slice oD ks2.length cD) := by simp [World.cell?, hbk]
        clear hbk
        have kP := mkHid (S4.out.put (by rw [List.length_append]; omega))
        clear S4
        go_wp2_with (go_at_call 11; fail)
        refine kP.out.mono ?_
        rintro e w9 ⟨rfl, v9, h9, e9, n9, f9, g9⟩
        clear d0 d1 d2 d3 d4 d5 d6 kP
        go_wp2
        go_ret
        exact ⟨_, _, j2, bd2, mn2, v9, rfl, RdP.mk2 R HR.out h9 e9 n9 f9 g9 hlt2 (by omega) (by simp; omega) (fun e => ⟨by have := HC0.out e; simp; omega, by have := HC0.out e; omega⟩) G2.out.1 (fun e => ⟨by rw [HO.out e]; simp, by simp [Rf.last]; omega, by rw [(G2.out.2 e).2.2.2, big_app]; simp [big, Rf.zn]⟩)⟩
end Go.Proofs.YtlphojaeaogehaaGreatDoor
