
/- The law on TransferFault; wants a text ImplTransferFault with specTransferFault and implTransferFault. (By tools/gen/scalarlaw.py.) -/
import Derived.Test.YtmpeflmfglbnnaaDoorImplTransferFault
namespace Go.Proofs.YtmpeflmfglbnnaaDoor
open Go.RowKit Go.Lib Go.Maps
set_option maxHeartbeats 4000000 in
set_option maxRecDepth 20000 in
theorem walkTransferFault (n : GTransferConfig) (v3 : Value) (mx : Int) (w : World) (hm : w.cell? ⟨0, 0, none⟩ = some (.int .i64 mx)) (hI : GTransferConfigIn 0 w.heap.size w n v3) (hf : n.fits maxLen) :
    Calls Tryd.prog 3 #[GTransferConfigV n v3] w fun e w' => e = .returned (.bool true) ∧ Below w.heap.size w w' := by
  have hm0 := bcell_lt hm
  have Hm := mkHid hm
  clear hm
  obtain ⟨⟨a3, c3, rfl, i3⟩⟩ := hI
  have HI : Hid (GTransferConfigIn 0 w.heap.size w n (.slice a3 n.users.length c3)) := ⟨⟨_, _, rfl, i3⟩⟩
  clear i3
  obtain ⟨W, hW⟩ : ∃ W, W = w.alloc (.cells #[.string n.locF, .bool n.relay, .int .i64 n.maxBytes, .slice a3 n.users.length c3, .int .i64 n.seed] 24) := ⟨_, rfl⟩
  have hbA : Below w.heap.size w W := by rw [hW]; exact (Below.refl _ _).alloc (Nat.le_refl _) _
  have hWs : w.heap.size < W.heap.size := by rw [hW]; simp
  have t0 : W.cell? ⟨w.heap.size, 0, none⟩ = some (.string n.locF) := by rw [hW]; simp
  have t1 : W.cell? ⟨w.heap.size, 1, none⟩ = some (.bool n.relay) := by rw [hW]; simp
  have t2 : W.cell? ⟨w.heap.size, 2, none⟩ = some (.int .i64 n.maxBytes) := by rw [hW]; simp
  have t3 : W.cell? ⟨w.heap.size, 3, none⟩ = some (.slice a3 n.users.length c3) := by rw [hW]; simp
  have t4 : W.cell? ⟨w.heap.size, 4, none⟩ = some (.int .i64 n.seed) := by rw [hW]; simp
  replace HI := mkHid ((HI.out.same (Same.of_below hbA (Nat.le_refl _))).mono (Nat.le_refl _) hbA.size)
  have hS := mkHid (lawSzTransferConfig n (.slice a3 n.users.length c3) 1048576 0 W HI.out hf (Nat.le_refl _))
  replace hW := mkHid hW
  clear hf
  unfold GTransferConfigV at hS ⊢
  go_enter Tryd.func3, Tryd.ntmps3
  go_wp2_with fail
  rw [← hW.out]
  refine hS.out.mono ?_
  rintro e w1 ⟨r, rfl, hr, hb1⟩
  have s0_ := (hb1.cell (p := ⟨w.heap.size, 0, none⟩) hWs).trans t0
  have s1_ := (hb1.cell (p := ⟨w.heap.size, 1, none⟩) hWs).trans t1
  have s2_ := (hb1.cell (p := ⟨w.heap.size, 2, none⟩) hWs).trans t2
  have s3_ := (hb1.cell (p := ⟨w.heap.size, 3, none⟩) hWs).trans t3
  have s4_ := (hb1.cell (p := ⟨w.heap.size, 4, none⟩) hWs).trans t4
  clear hS
  rcases hr.out with rfl | ⟨m, rfl, _hm, hf⟩
  · clear hr
    go_wp2
    go_ret
    exact ⟨rfl, hbA.trans (hb1.mono (Nat.le_of_lt hWs))⟩
  · clear hr
    replace hf := mkHid hf
    have hB1 := hb1
    have cT := mkHid (lawToTransferConfig n (.slice a3 n.users.length c3) 0 w1 ((HI.out.same (Same.of_below hB1 (Nat.le_refl _))).mono (Nat.le_refl _) hB1.size) hf.out)
    unfold GTransferConfigV at cT
    go_wp2_with fail
    refine cT.out.mono ?_
    rintro e w2 ⟨y3, rfl, n2, hb2⟩
    have n2o := n2.out
    obtain ⟨⟨d3, e3, rfl, -⟩⟩ := n2o
    have hB2 := hB1.trans (hb2.mono hB1.size)
    clear cT s0_ s1_ s2_ s3_ s4_
    have s0_ := (hB2.cell (p := ⟨w.heap.size, 0, none⟩) hWs).trans t0
    have s1_ := (hB2.cell (p := ⟨w.heap.size, 1, none⟩) hWs).trans t1
    have s2_ := (hB2.cell (p := ⟨w.heap.size, 2, none⟩) hWs).trans t2
    have s3_ := (hB2.cell (p := ⟨w.heap.size, 3, none⟩) hWs).trans t3
    have s4_ := (hB2.cell (p := ⟨w.heap.size, 4, none⟩) hWs).trans t4
    have cS := mkHid (specTransferFault n (.slice d3 n.users.length e3) _ w2 n2.out hf.out)
    unfold GTransferConfigV at cS
    go_wp2_with fail
    refine cS.out.mono ?_
    rintro e w3 ⟨rfl, hb3⟩
    have hB3 := hB2.trans (hb3.mono hB2.size)
    clear cS n2 s0_ s1_ s2_ s3_ s4_
    have s0_ := (hB3.cell (p := ⟨w.heap.size, 0, none⟩) hWs).trans t0
    have s1_ := (hB3.cell (p := ⟨w.heap.size, 1, none⟩) hWs).trans t1
    have s2_ := (hB3.cell (p := ⟨w.heap.size, 2, none⟩) hWs).trans t2
    have s3_ := (hB3.cell (p := ⟨w.heap.size, 3, none⟩) hWs).trans t3
    have s4_ := (hB3.cell (p := ⟨w.heap.size, 4, none⟩) hWs).trans t4
    have cT := mkHid (lawToTransferConfig n (.slice a3 n.users.length c3) 0 w3 ((HI.out.same (Same.of_below hB3 (Nat.le_refl _))).mono (Nat.le_refl _) hB3.size) hf.out)
    unfold GTransferConfigV at cT
    go_wp2_with fail
    refine cT.out.mono ?_
    rintro e w4 ⟨y3, rfl, n4, hb4⟩
    have n4o := n4.out
    obtain ⟨⟨f3, g3, rfl, -⟩⟩ := n4o
    have hB4 := hB3.trans (hb4.mono hB3.size)
    clear cT s0_ s1_ s2_ s3_ s4_
    have s0_ := (hB4.cell (p := ⟨w.heap.size, 0, none⟩) hWs).trans t0
    have s1_ := (hB4.cell (p := ⟨w.heap.size, 1, none⟩) hWs).trans t1
    have s2_ := (hB4.cell (p := ⟨w.heap.size, 2, none⟩) hWs).trans t2
    have s3_ := (hB4.cell (p := ⟨w.heap.size, 3, none⟩) hWs).trans t3
    have s4_ := (hB4.cell (p := ⟨w.heap.size, 4, none⟩) hWs).trans t4
    obtain ⟨V, hV⟩ : ∃ V, V = w4.alloc (.cells #[.string n.locF, .bool n.relay, .int .i64 n.maxBytes, .slice f3 n.users.length g3, .int .i64 n.seed] 29) := ⟨_, rfl⟩
    have hbV : Below w4.heap.size w4 V := by rw [hV]; exact (Below.refl _ _).alloc (Nat.le_refl _) _
    have hVs : w4.heap.size < V.heap.size := by rw [hV]; simp
    have y0_ : V.cell? ⟨w4.heap.size, 0, none⟩ = some (.string n.locF) := by rw [hV]; simp
    have y1_ : V.cell? ⟨w4.heap.size, 1, none⟩ = some (.bool n.relay) := by rw [hV]; simp
    have y2_ : V.cell? ⟨w4.heap.size, 2, none⟩ = some (.int .i64 n.maxBytes) := by rw [hV]; simp
    have y3_ : V.cell? ⟨w4.heap.size, 3, none⟩ = some (.slice f3 n.users.length g3) := by rw [hV]; simp
    have y4_ : V.cell? ⟨w4.heap.size, 4, none⟩ = some (.int .i64 n.seed) := by rw [hV]; simp
    have hBV := hB4.trans (hbV.mono hB4.size)
    have nV := mkHid ((n4.out.same (Same.of_below hbV (Nat.le_refl _))).mono (Nat.le_refl _) hbV.size)
    replace hV := mkHid hV
    clear n4
    have cI := mkHid (implTransferFault n (.slice f3 n.users.length g3) _ mx V nV.out hf.out (((hbA.trans (hBV.mono (Nat.le_of_lt hWs))).cell (p := ⟨0, 0, none⟩) hm0).trans Hm.out))
    unfold GTransferConfigV at cI
    go_wp2_with fail
    rw [← hV.out]
    refine cI.out.mono ?_
    rintro e w5 ⟨rfl, hb5⟩
    have hB5 := hBV.trans (hb5.mono hBV.size)
    have n5 := mkHid ((nV.out.same (Same.of_below hb5 (Nat.le_refl _))).mono (Nat.le_refl _) hb5.size)
    have x0_ := (hb5.cell (p := ⟨w4.heap.size, 0, none⟩) hVs).trans y0_
    have x1_ := (hb5.cell (p := ⟨w4.heap.size, 1, none⟩) hVs).trans y1_
    have x2_ := (hb5.cell (p := ⟨w4.heap.size, 2, none⟩) hVs).trans y2_
    have x3_ := (hb5.cell (p := ⟨w4.heap.size, 3, none⟩) hVs).trans y3_
    have x4_ := (hb5.cell (p := ⟨w4.heap.size, 4, none⟩) hVs).trans y4_
    have hs5 : w4.heap.size < w5.heap.size := Nat.lt_of_lt_of_le hVs hb5.size
    clear cI nV hV s0_ s1_ s2_ s3_ s4_ y0_ y1_ y2_ y3_ y4_
    have s0_ := (hB5.cell (p := ⟨w.heap.size, 0, none⟩) hWs).trans t0
    have s1_ := (hB5.cell (p := ⟨w.heap.size, 1, none⟩) hWs).trans t1
    have s2_ := (hB5.cell (p := ⟨w.heap.size, 2, none⟩) hWs).trans t2
    have s3_ := (hB5.cell (p := ⟨w.heap.size, 3, none⟩) hWs).trans t3
    have s4_ := (hB5.cell (p := ⟨w.heap.size, 4, none⟩) hWs).trans t4
    generalize plTransferFault n = z at *
    have z1 : (z != z) = false := by simp
    have z2 : (z == z) = true := by simp
    have cT : Hid (∀ W' : World, Below w5.heap.size w5 W' → Calls Tryd.prog 6 #[.agg #[.string n.locF, .bool n.relay, .int .i64 n.maxBytes, .slice a3 n.users.length c3, .int .i64 n.seed]] W' fun e w'' => ∃ v3 : Value, e = .returned (GTransferConfigV n v3) ∧ Hid (GTransferConfigIn 0 w''.heap.size w'' n v3) ∧ Below w5.heap.size w5 w'') := fun W' hb' =>
      (lawToTransferConfig n (.slice a3 n.users.length c3) 0 W' (((HI.out.same (Same.of_below hB5 (Nat.le_refl _))).mono (Nat.le_refl _) hB5.size).same (Same.of_below hb' (Nat.le_refl _)) |>.mono (Nat.le_refl _) hb'.size) hf.out).mono fun e w'' ⟨v3, e1, e2, e3⟩ => ⟨v3, e1, e2.out.mono (Nat.zero_le _) (Nat.le_refl _), hb'.trans (e3.mono hb'.size)⟩
    have cE : Hid (∀ (W' : World) (v3 : Value), Below w5.heap.size w5 W' → GTransferConfigIn 0 W'.heap.size W' n v3 → Calls Tryd.prog 8 #[.agg #[.string n.locF, .bool n.relay, .int .i64 n.maxBytes, .slice f3 n.users.length g3, .int .i64 n.seed], GTransferConfigV n v3] W' fun e w'' => e = .returned (.bool true) ∧ Below w5.heap.size w5 w'') := fun W' v3 hb' hk =>
      (lawEqTransferConfig n (.slice f3 n.users.length g3) v3 _ 0 W' ((n5.out.same (Same.of_below hb' (Nat.le_refl _))).mono (Nat.le_refl _) hb'.size) hk hf.out).mono fun e w'' ⟨e1, e2⟩ => ⟨e1, hb'.trans (e2.mono hb'.size)⟩
    have hb0 : Below w5.heap.size w5 w5 := Below.refl _ _
    unfold GTransferConfigV at cT cE
    clear n5
    go_wp2
    refine wp_region_any (by kernel_rfl) ?_
    refine wpAny_ready (rs := [0, 1]) (by kernel_rfl) (by simp) ?_
    refine AllReady.cons rfl (fun K hK => ?_) (AllReady.cons rfl (fun K hK => ?_) AllReady.nil)
    · go_simp
      refine hK _ _ ?_
      clear hK K
      go_simp
      refine wpAny_ready (rs := [1]) (by kernel_rfl) (by simp) ?_
      refine AllReady.cons rfl (fun K hK => ?_) AllReady.nil
      go_simp
      refine hK _ _ ?_
      clear hK K
      go_simp
      refine wpAny_ready (rs := [2]) (by kernel_rfl) (by simp) ?_
      refine AllReady.cons rfl (fun K hK => ?_) AllReady.nil
      go_simp
      go_wp2_with fail
      refine (cT.out _ (by first | exact hb0 | exact hb0.drew | exact hb0.drew.drew)).mono ?_
      rintro e w6 ⟨y3, rfl, n6, hb6⟩
      have n6o := n6.out
      obtain ⟨⟨k3, l3, rfl, -⟩⟩ := n6o
      have v0_ := (hb6.cell (p := ⟨w4.heap.size, 0, none⟩) hs5).trans x0_
      have v1_ := (hb6.cell (p := ⟨w4.heap.size, 1, none⟩) hs5).trans x1_
      have v2_ := (hb6.cell (p := ⟨w4.heap.size, 2, none⟩) hs5).trans x2_
      have v3_ := (hb6.cell (p := ⟨w4.heap.size, 3, none⟩) hs5).trans x3_
      have v4_ := (hb6.cell (p := ⟨w4.heap.size, 4, none⟩) hs5).trans x4_
      show K _ w6
      refine hK _ _ ?_
      clear hK K
      go_simp
      refine wpAny_ready (rs := [3]) (by kernel_rfl) (by simp) ?_
      refine AllReady.cons rfl (fun K hK => ?_) AllReady.nil
      go_simp
      go_wp2_with fail
      refine (cE.out _ _ (by first | exact hb6 | exact hb6.drew | exact hb6.drew.drew) (by first | exact n6.out | exact n6.out.same (Same.of_below (Below.refl _ _).drew (Nat.le_refl _)))).mono ?_
      rintro e w7 ⟨rfl, hb7⟩
      show K _ w7
      refine hK _ _ ?_
      clear hK K
      go_simp
      refine wpAny_take (i := 4) (v := .bool false) rfl (by kernel_rfl) (by kernel_rfl) (by kernel_rfl) (fun _ _ _ h => h) (Or.inl ⟨by rfl, ?_⟩) ?_
      · intro w
        go_simp
      go_simp
      refine wpAny_done (by kernel_rfl) ?_ _
      have hbe := mkHid (hbA.trans ((hB5.trans (hb7.mono hB5.size)).mono (Nat.le_of_lt hWs)))
      go_wp2
      go_ret
      exact ⟨rfl, hbe.out⟩
    · go_simp
      refine hK _ _ ?_
      clear hK K
      go_simp
      refine wpAny_ready (rs := [0, 2]) (by kernel_rfl) (by simp) ?_
      refine AllReady.cons rfl (fun K hK => ?_) (AllReady.cons rfl (fun K hK => ?_) AllReady.nil)
      · go_simp
        refine hK _ _ ?_
        clear hK K
        go_simp
        refine wpAny_ready (rs := [2]) (by kernel_rfl) (by simp) ?_
        refine AllReady.cons rfl (fun K hK => ?_) AllReady.nil
        go_simp
        go_wp2_with fail
        refine (cT.out _ (by first | exact hb0 | exact hb0.drew | exact hb0.drew.drew)).mono ?_
        rintro e w6 ⟨y3, rfl, n6, hb6⟩
        have n6o := n6.out
        obtain ⟨⟨k3, l3, rfl, -⟩⟩ := n6o
        have v0_ := (hb6.cell (p := ⟨w4.heap.size, 0, none⟩) hs5).trans x0_
        have v1_ := (hb6.cell (p := ⟨w4.heap.size, 1, none⟩) hs5).trans x1_
        have v2_ := (hb6.cell (p := ⟨w4.heap.size, 2, none⟩) hs5).trans x2_
        have v3_ := (hb6.cell (p := ⟨w4.heap.size, 3, none⟩) hs5).trans x3_
        have v4_ := (hb6.cell (p := ⟨w4.heap.size, 4, none⟩) hs5).trans x4_
        show K _ w6
        refine hK _ _ ?_
        clear hK K
        go_simp
        refine wpAny_ready (rs := [3]) (by kernel_rfl) (by simp) ?_
        refine AllReady.cons rfl (fun K hK => ?_) AllReady.nil
        go_simp
        go_wp2_with fail
        refine (cE.out _ _ (by first | exact hb6 | exact hb6.drew | exact hb6.drew.drew) (by first | exact n6.out | exact n6.out.same (Same.of_below (Below.refl _ _).drew (Nat.le_refl _)))).mono ?_
        rintro e w7 ⟨rfl, hb7⟩
        show K _ w7
        refine hK _ _ ?_
        clear hK K
        go_simp
        refine wpAny_take (i := 4) (v := .bool false) rfl (by kernel_rfl) (by kernel_rfl) (by kernel_rfl) (fun _ _ _ h => h) (Or.inl ⟨by rfl, ?_⟩) ?_
        · intro w
          go_simp
        go_simp
        refine wpAny_done (by kernel_rfl) ?_ _
        have hbe := mkHid (hbA.trans ((hB5.trans (hb7.mono hB5.size)).mono (Nat.le_of_lt hWs)))
        go_wp2
        go_ret
        exact ⟨rfl, hbe.out⟩
      · go_simp
        go_wp2_with fail
        refine (cT.out _ (by first | exact hb0 | exact hb0.drew | exact hb0.drew.drew)).mono ?_
        rintro e w6 ⟨y3, rfl, n6, hb6⟩
        have n6o := n6.out
        obtain ⟨⟨k3, l3, rfl, -⟩⟩ := n6o
        have v0_ := (hb6.cell (p := ⟨w4.heap.size, 0, none⟩) hs5).trans x0_
        have v1_ := (hb6.cell (p := ⟨w4.heap.size, 1, none⟩) hs5).trans x1_
        have v2_ := (hb6.cell (p := ⟨w4.heap.size, 2, none⟩) hs5).trans x2_
        have v3_ := (hb6.cell (p := ⟨w4.heap.size, 3, none⟩) hs5).trans x3_
        have v4_ := (hb6.cell (p := ⟨w4.heap.size, 4, none⟩) hs5).trans x4_
        show K _ w6
        refine hK _ _ ?_
        clear hK K
        go_simp
        refine wpAny_ready (rs := [0]) (by kernel_rfl) (by simp) ?_
        refine AllReady.cons rfl (fun K hK => ?_) AllReady.nil
        go_simp
        refine hK _ _ ?_
        clear hK K
        go_simp
        refine wpAny_ready (rs := [3]) (by kernel_rfl) (by simp) ?_
        refine AllReady.cons rfl (fun K hK => ?_) AllReady.nil
        go_simp
        go_wp2_with fail
        refine (cE.out _ _ (by first | exact hb6 | exact hb6.drew | exact hb6.drew.drew) (by first | exact n6.out | exact n6.out.same (Same.of_below (Below.refl _ _).drew (Nat.le_refl _)))).mono ?_
        rintro e w7 ⟨rfl, hb7⟩
        show K _ w7
        refine hK _ _ ?_
        clear hK K
        go_simp
        refine wpAny_take (i := 4) (v := .bool false) rfl (by kernel_rfl) (by kernel_rfl) (by kernel_rfl) (fun _ _ _ h => h) (Or.inl ⟨by rfl, ?_⟩) ?_
        · intro w
          go_simp
        go_simp
        refine wpAny_done (by kernel_rfl) ?_ _
        have hbe := mkHid (hbA.trans ((hB5.trans (hb7.mono hB5.size)).mono (Nat.le_of_lt hWs)))
        go_wp2
        go_ret
        exact ⟨rfl, hbe.out⟩
end Go.Proofs.YtmpeflmfglbnnaaDoor
