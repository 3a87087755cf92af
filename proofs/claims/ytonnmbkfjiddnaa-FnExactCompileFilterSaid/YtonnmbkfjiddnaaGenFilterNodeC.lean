
/- FilterNode: made anew, with the room of the lists of kids. -/
import Derived.Test.YtonnmbkfjiddnaaGenArgFilterNode
namespace Go.Proofs.Ytonnmbkfjiddnaa
open Go.RowKit Go.Lib Go.Maps
def Cap6 (v : Value) : Prop := ∀ (x : Option Addr) (k e : Nat), v = .slice x k e → k ≤ e
set_option maxHeartbeats 4000000 in
set_option maxRecDepth 20000 in
theorem lawToXFilterNodeC (n : GFilterNode) (u4 : Value) (u5 : Value) (u6 : Value) (lo : Nat) (w : World) (hI : GFilterNodeIn lo w.heap.size w n u4 u5 u6) (hf : n.fits 1048576) :
    Calls Try.prog 17 #[GFilterNodeV n u4 u5 u6] w fun e w' => ∃ v4 v5 v6 : Value, e = .returned (GFilterNodeV n v4 v5 v6) ∧ Hid (GFilterNodeIn w.heap.size w'.heap.size w' n v4 v5 v6) ∧ Below w.heap.size w w' ∧ Hid (Soft w.heap.size w') ∧ Cap6 v6 := by
  obtain ⟨⟨a4, c4, rfl, t4⟩, ⟨a5, c5, rfl, t5⟩, ⟨a6, c6, rfl, t6⟩⟩ := hI
  obtain ⟨f3_0, f4_0, f4_1, f5_0, f5_1, f6_0⟩ := hf
  have H4 := mkHid fun (w' : World) (hb : Below w.heap.size w w') => lawToSXStr a4 n.names c4 lo w' ((t4.below hb (Nat.le_refl _)).mono (Nat.le_refl _) hb.size) f4_0 f4_1
  have H5 := mkHid fun (w' : World) (hb : Below w.heap.size w w') => lawToSXStr a5 n.keys c5 lo w' ((t5.below hb (Nat.le_refl _)).mono (Nat.le_refl _) hb.size) f5_0 f5_1
  have H6 := mkHid fun (w' : World) (hb : Below w.heap.size w w') => lawToSXInt a6 n.kids c6 lo w' ((t6.below hb (Nat.le_refl _)).mono (Nat.le_refl _) hb.size) f6_0
  clear f3_0 f4_0 f4_1 f5_0 f5_1 f6_0 t4 t5 t6
  obtain ⟨G, hG⟩ : ∃ G, w.heap.size = G := ⟨_, rfl⟩
  obtain ⟨V0, hV0⟩ : ∃ W, W = ((w.alloc (.cells #[.int .i64 n.kind, .int .i64 n.num, .int .i64 n.matF, .string n.text, .slice a4 n.names.length c4, .slice a5 n.keys.length c5, .slice a6 n.kids.length c6] 37)).alloc (.cells #[.int .i64 0, .int .i64 0, .int .i64 0, .string ⟨#[]⟩, .slice none 0 0, .slice none 0 0, .slice none 0 0] 44)).alloc (.cells #[.int .i64 n.kind, .int .i64 n.num, .int .i64 n.matF, .string n.text, .slice none 0 0, .slice none 0 0, .slice none 0 0] 44) := ⟨_, rfl⟩
  obtain ⟨hb0, hs0, hP0, hR0, hO0⟩ := three_blocks hG hV0
  have hSf := mkHid (show Soft G V0 by rw [hV0, ← hG]; exact (((Soft.refl _).alloc _ _).alloc _ _).alloc _ _)
  have HV0 := mkHid hV0
  clear hV0
  have hG' := mkHid hG
  unfold GFilterNodeV
  go_enter Try.func17, Try.ntmps17
  go_wp2_with fail
  rw [← HV0.out]
  refine (H4.out V0 (by rw [hG]; exact hb0)).mono ?_
  rintro e w1 ⟨rfl, hT4, hw1, hsf1⟩
  replace hSf := mkHid (hSf.out.call hw1 hsf1.out)
  obtain ⟨g4, hg4⟩ : ∃ g, V0.heap.size = g := ⟨_, rfl⟩
  rw [hg4] at hT4 hw1 hs0 ⊢
  have hw1s := hw1.size
  rw [hg4] at hw1s
  have hP1a := (hw1.block G (by omega)).trans hP0
  have hR1a := (hw1.block (G + 1) (by omega)).trans hR0
  have hO1a := (hw1.block (G + 1 + 1) (by omega)).trans hO0
  have p1_5 : w1.cell? ⟨G, 5, none⟩ = some (.slice a5 n.keys.length c5) := by simp [World.cell?, hP1a]
  have x1_4 : w1.cell? ⟨G + 1 + 1, 4, none⟩ = some (.slice none 0 0) := by simp [World.cell?, hO1a]
  have z1_4 : w1.frozen? ⟨G + 1 + 1, 4, none⟩ = false := by simp [World.frozen?, hO1a]
  obtain ⟨V1, hV1⟩ : ∃ V, V = w1.setCell ⟨G + 1 + 1, 4, none⟩ (.slice (some ⟨g4, 0, none⟩) n.names.length n.names.length) := ⟨_, rfl⟩
  replace hSf := mkHid (show Soft G V1 by rw [hV1]; exact (hSf.out.set _ _ _))
  have hgr1 : w1.grownBy V1 (some (G + 1 + 1)) := by rw [hV1]; exact grG_set _ _ _ _
  have hP1 := (hgr1.block G (by omega) (by simp; omega)).trans hP1a
  have hR1 := (hgr1.block (G + 1) (by omega) (by simp)).trans hR1a
  have hO1 : V1.heap[G + 1 + 1]? = some (.cells #[.int .i64 n.kind, .int .i64 n.num, .int .i64 n.matF, .string n.text, .slice (some ⟨g4, 0, none⟩) n.names.length n.names.length, .slice none 0 0, .slice none 0 0] 44 (0, 0)) := by rw [hV1]; simp [World.setCell, Array.getElem?_modify, hO1a]
  have hs1 : G + 3 ≤ V1.heap.size := Nat.le_trans (Nat.le_trans hs0 hw1s) hgr1.size
  have hb1 : Below G w V1 := (hb0.trans (hw1.mono (by omega))).grown hgr1 (by omega) (fun k hk => by cases hk; omega)
  replace hT4 := mkHid ((hT4.out.same (Same.gr hgr1 (by omega) (Nat.le_refl _))).mono (show G + 3 ≤ _ by omega) hgr1.size)
  replace hV1 := mkHid hV1
  have HV1 := hV1
  clear hP1a hR1a hO1a hP0 hR0 hO0 hw1 HV0 hgr1 hb0
  clear hs0 hg4 hw1s
  go_wp2_with fail
  rw [← HV1.out]
  refine (H5.out V1 (by rw [hG]; exact hb1)).mono ?_
  rintro e w2 ⟨rfl, hT5, hw2, hsf2⟩
  clear x1_4 z1_4 p1_5
  replace hSf := mkHid (hSf.out.call hw2 hsf2.out)
  obtain ⟨g5, hg5⟩ : ∃ g, V1.heap.size = g := ⟨_, rfl⟩
  rw [hg5] at hT5 hw2 hs1 ⊢
  rw [hg5] at hT4
  have hw2s := hw2.size
  rw [hg5] at hw2s
  have hP2a := (hw2.block G (by omega)).trans hP1
  have hR2a := (hw2.block (G + 1) (by omega)).trans hR1
  have hO2a := (hw2.block (G + 1 + 1) (by omega)).trans hO1
  have p2_6 : w2.cell? ⟨G, 6, none⟩ = some (.slice a6 n.kids.length c6) := by simp [World.cell?, hP2a]
  have x2_5 : w2.cell? ⟨G + 1 + 1, 5, none⟩ = some (.slice none 0 0) := by simp [World.cell?, hO2a]
  have z2_5 : w2.frozen? ⟨G + 1 + 1, 5, none⟩ = false := by simp [World.frozen?, hO2a]
  obtain ⟨V2, hV2⟩ : ∃ V, V = w2.setCell ⟨G + 1 + 1, 5, none⟩ (.slice (some ⟨g5, 0, none⟩) n.keys.length n.keys.length) := ⟨_, rfl⟩
  replace hSf := mkHid (show Soft G V2 by rw [hV2]; exact (hSf.out.set _ _ _))
  have hgr2 : w2.grownBy V2 (some (G + 1 + 1)) := by rw [hV2]; exact grG_set _ _ _ _
  have hP2 := (hgr2.block G (by omega) (by simp; omega)).trans hP2a
  have hR2 := (hgr2.block (G + 1) (by omega) (by simp)).trans hR2a
  have hO2 : V2.heap[G + 1 + 1]? = some (.cells #[.int .i64 n.kind, .int .i64 n.num, .int .i64 n.matF, .string n.text, .slice (some ⟨g4, 0, none⟩) n.names.length n.names.length, .slice (some ⟨g5, 0, none⟩) n.keys.length n.keys.length, .slice none 0 0] 44 (0, 0)) := by rw [hV2]; simp [World.setCell, Array.getElem?_modify, hO2a]
  have hs2 : G + 3 ≤ V2.heap.size := Nat.le_trans (Nat.le_trans hs1 hw2s) hgr2.size
  have hb2 : Below G w V2 := (hb1.trans (hw2.mono (by omega))).grown hgr2 (by omega) (fun k hk => by cases hk; omega)
  have hT4 := mkHid (((hT4.out.below hw2 (Nat.le_refl _)).mono (Nat.le_refl _) hw2s |>.same (Same.gr hgr2 (by omega) (Nat.le_refl _))).mono (Nat.le_refl _) hgr2.size)
  replace hT5 := mkHid ((hT5.out.same (Same.gr hgr2 (by omega) (Nat.le_refl _))).mono (show G + 3 ≤ _ by omega) hgr2.size)
  replace hV2 := mkHid hV2
  have HV2 := hV2
  clear hP2a hR2a hO2a hP1 hR1 hO1 hw2 HV1 hgr2 hb1
  clear hs1 hg5 hw2s
  go_wp2_with fail
  rw [← HV2.out]
  refine (H6.out V2 (by rw [hG]; exact hb2)).mono ?_
  rintro e w3 ⟨rfl, hT6, hw3, hsf3⟩
  clear x2_5 z2_5 p2_6
  replace hSf := mkHid (hSf.out.call hw3 hsf3.out)
  obtain ⟨g6, hg6⟩ : ∃ g, V2.heap.size = g := ⟨_, rfl⟩
  rw [hg6] at hT6 hw3 hs2 ⊢
  rw [hg6] at hT4
  rw [hg6] at hT5
  have hw3s := hw3.size
  rw [hg6] at hw3s
  have hP3a := (hw3.block G (by omega)).trans hP2
  have hR3a := (hw3.block (G + 1) (by omega)).trans hR2
  have hO3a := (hw3.block (G + 1 + 1) (by omega)).trans hO2
  have x3_6 : w3.cell? ⟨G + 1 + 1, 6, none⟩ = some (.slice none 0 0) := by simp [World.cell?, hO3a]
  have z3_6 : w3.frozen? ⟨G + 1 + 1, 6, none⟩ = false := by simp [World.frozen?, hO3a]
  obtain ⟨V3, hV3⟩ : ∃ V, V = w3.setCell ⟨G + 1 + 1, 6, none⟩ (.slice (some ⟨g6, 0, none⟩) n.kids.length n.kids.length) := ⟨_, rfl⟩
  replace hSf := mkHid (show Soft G V3 by rw [hV3]; exact (hSf.out.set _ _ _))
  have hgr3 : w3.grownBy V3 (some (G + 1 + 1)) := by rw [hV3]; exact grG_set _ _ _ _
  have hP3 := (hgr3.block G (by omega) (by simp; omega)).trans hP3a
  have hR3 := (hgr3.block (G + 1) (by omega) (by simp)).trans hR3a
  have hO3 : V3.heap[G + 1 + 1]? = some (.cells #[.int .i64 n.kind, .int .i64 n.num, .int .i64 n.matF, .string n.text, .slice (some ⟨g4, 0, none⟩) n.names.length n.names.length, .slice (some ⟨g5, 0, none⟩) n.keys.length n.keys.length, .slice (some ⟨g6, 0, none⟩) n.kids.length n.kids.length] 44 (0, 0)) := by rw [hV3]; simp [World.setCell, Array.getElem?_modify, hO3a]
  have hs3 : G + 3 ≤ V3.heap.size := Nat.le_trans (Nat.le_trans hs2 hw3s) hgr3.size
  have hb3 : Below G w V3 := (hb2.trans (hw3.mono (by omega))).grown hgr3 (by omega) (fun k hk => by cases hk; omega)
  have hT4 := mkHid (((hT4.out.below hw3 (Nat.le_refl _)).mono (Nat.le_refl _) hw3s |>.same (Same.gr hgr3 (by omega) (Nat.le_refl _))).mono (Nat.le_refl _) hgr3.size)
  have hT5 := mkHid (((hT5.out.below hw3 (Nat.le_refl _)).mono (Nat.le_refl _) hw3s |>.same (Same.gr hgr3 (by omega) (Nat.le_refl _))).mono (Nat.le_refl _) hgr3.size)
  replace hT6 := mkHid ((hT6.out.same (Same.gr hgr3 (by omega) (Nat.le_refl _))).mono (show G + 3 ≤ _ by omega) hgr3.size)
  replace hV3 := mkHid hV3
  have HV3 := hV3
  clear hP3a hR3a hO3a hP2 hR2 hO2 hw3 HV2 hgr3 hb2
  clear hs2 hg6 hw3s
  have hgz := grown_setRow V3 (G + 1) #[.int .i64 n.kind, .int .i64 n.num, .int .i64 n.matF, .string n.text, .slice (some ⟨g4, 0, none⟩) n.names.length n.names.length, .slice (some ⟨g5, 0, none⟩) n.keys.length n.keys.length, .slice (some ⟨g6, 0, none⟩) n.kids.length n.kids.length]
  have hSz := mkHid (hSf.out.setRow (G + 1) #[.int .i64 n.kind, .int .i64 n.num, .int .i64 n.matF, .string n.text, .slice (some ⟨g4, 0, none⟩) n.names.length n.names.length, .slice (some ⟨g5, 0, none⟩) n.keys.length n.keys.length, .slice (some ⟨g6, 0, none⟩) n.kids.length n.kids.length])
  clear hSf
  have hbz := mkHid (hb3.grown hgz (by omega) (fun k hk => by cases hk; omega))
  replace hT4 := mkHid ((hT4.out.same (Same.gr hgz (by omega) (Nat.le_refl _))).mono (show G ≤ _ by omega) hgz.size)
  replace hT5 := mkHid ((hT5.out.same (Same.gr hgz (by omega) (Nat.le_refl _))).mono (show G ≤ _ by omega) hgz.size)
  replace hT6 := mkHid ((hT6.out.same (Same.gr hgz (by omega) (Nat.le_refl _))).mono (show G ≤ _ by omega) hgz.size)
  rw [HV3.out] at hT4 hT5 hT6 hbz hSz hO3 hR3
  clear hgz HV3 hV3 hb3 hP3 hs3
  go_wp2_with (first | (refine wpL_load_row rfl 44 _ rfl (G + 1 + 1) _ 44 (0, 0) _ rfl hO3 Try.underlying44 rfl (by kernel_rfl) ?_) | (refine wpL_store_row rfl 44 _ _ rfl (G + 1) _ rfl rfl 44 _ hR3 (by kernel_rfl) rfl (by simp [Value.oneCell']) ?_) | go_in)
  refine bodyPost_ret (v := .agg #[.int .i64 n.kind, .int .i64 n.num, .int .i64 n.matF, .string n.text, .slice (some ⟨g4, 0, none⟩) n.names.length n.names.length, .slice (some ⟨g5, 0, none⟩) n.keys.length n.keys.length, .slice (some ⟨g6, 0, none⟩) n.kids.length n.kids.length]) (results_cell_row Try.results17 _ _ (G + 1) 44 _ (0, 0) _ rfl (setRow_heap _ _ _ _ _ _ hR3) Try.underlying44 rfl (by kernel_rfl)) rfl ?_
  rw [hG]
  exact ⟨_, _, _, rfl, ⟨⟨_, _, rfl, hT4.out⟩, ⟨_, _, rfl, hT5.out⟩, ⟨_, _, rfl, hT6.out⟩⟩, hbz.out, hSz, fun _ _ _ h => by cases h; exact Nat.le_refl _⟩
set_option maxHeartbeats 4000000 in
set_option maxRecDepth 20000 in
theorem lawToSXFilterNodeC (o : Option Addr) (F : List GFilterNode) (cap lo : Nat) (w : World) (hF : GFilterNodesL lo w.heap.size w o F) (hlen : F.length ≤ 1048576) (hfit : ∀ f ∈ F, f.fits 1048576) :
    Calls Try.prog 6 #[.slice o F.length cap] w fun e w' => e = .returned (.slice (some ⟨w.heap.size, 0, none⟩) F.length F.length) ∧ Hid (GFilterNodesL w.heap.size w'.heap.size w' (some ⟨w.heap.size, 0, none⟩) F) ∧ Below w.heap.size w w' ∧ Hid (Soft w.heap.size w') ∧ Hid (∀ i, i < F.length → ∃ v6, w'.cell? ⟨w.heap.size, i * 7 + 6, none⟩ = some v6 ∧ Cap6 v6) := by
  obtain ⟨i0, hi, hy0, hy1, hy2⟩ := info_parts Try.infoGFilterNode
  have hmk := run_make (P := Try.prog) w 26 44 i0 _ Try.underlying26 hi hy0 .i64 .i64 F.length F.length (by omega) (Int.le_refl _) (by rw [hy2]; omega) (by omega)
  simp only [Int.toNat_natCast, hy1] at hmk
  have HF := mkHid hF
  have Hfit := mkHid hfit
  clear hF hfit
  obtain ⟨c0, hc0⟩ : ∃ c0, c0 = madeCells (Value.cells (.agg #[.int .i64 0, .int .i64 0, .int .i64 0, .string ⟨#[]⟩, .slice none 0 0, .slice none 0 0, .slice none 0 0])) (F.length * 7) := ⟨_, rfl⟩
  have hcs : c0.size = F.length * 7 := by rw [hc0]; exact size_madeCells _ _
  rw [← hc0] at hmk
  have Hrow0 : Hid (∃ f, (w.alloc (.cells c0 44)).rowIs w.heap.size 44 (F.length * 7) f) := by
    refine ⟨fun j => c0[j]!, ?_⟩
    have := World.rowIs_alloc w c0 44 (fun j => c0[j]!) (fun i hi => by simp [hi])
    rw [hcs] at this
    exact this
  clear hc0 hcs
  go_enter Try.func6, Try.ntmps6
  go_wp2
  clear hmk
  generalize hG : w.heap.size = G at *
  go_loopw [4] (fun i wr => ∃ (k : Nat) (f : Nat → Value), k ≤ F.length ∧ i = .int .i64 k ∧ wr.rowIs G 44 (F.length * 7) f ∧ Hid (∀ j (h : j < F.length), j < k → ∃ v4 v5 v6, GFilterNodeL f j F[j] v4 v5 v6 ∧ GFilterNodeIn (G + 1) wr.heap.size wr F[j] v4 v5 v6 ∧ Cap6 v6) ∧ Below G w wr ∧ Hid (Soft G wr)) (fun i _ => F.length - (Lib.intOf i).toNat)
  case atStart =>
    obtain ⟨f, hx⟩ := Hrow0.out
    exact ⟨0, f, Nat.zero_le _, rfl, hx, fun j h h0 => absurd h0 (Nat.not_lt_zero _), (Below.refl _ _).alloc (by omega) _, by rw [← hG]; exact (Soft.refl _).alloc _ _⟩
  case round =>
    clear Hrow0
    obtain ⟨k, f, hk, rfl, hrow, hall, hb, hSf⟩ := hrel
    by_cases hlt : k < F.length
    · obtain ⟨a, u4, u5, u6, rfl, ha1, ha2, hA, hI⟩ := (HF.out.below hb (Nat.le_refl _)) k hlt
      have hGl := hrow.lt
      have hT := mkHid (lawToXFilterNodeC F[k] u4 u5 u6 lo wr (hI.mono (Nat.le_refl _) (by omega)) (Hfit.out _ (List.getElem_mem hlt)))
      have c0 := hA.c0
      have c1 := hA.c1
      have c2 := hA.c2
      have c3 := hA.c3
      have c4 := hA.c4
      have c5 := hA.c5
      have c6 := hA.c6
      obtain ⟨⟨a4, k4, rfl, -⟩, ⟨a5, k5, rfl, -⟩, ⟨a6, k6, rfl, -⟩⟩ := hI
      clear hA
      generalize hf : F[k] = n at *
      have Hf := mkHid hf
      clear hf
      unfold GFilterNodeV at hT
      go_wp2_with fail
      refine hT.out.mono ?_
      rintro e w1 ⟨v4, v5, v6, rfl, hTx, hb1, hsf1, hcap⟩
      have hTx1 := hTx.out
      obtain ⟨⟨b4, m4, rfl, -⟩, ⟨b5, m5, rfl, -⟩, ⟨b6, m6, rfl, -⟩⟩ := hTx1
      have hrow1 : w1.rowIs G 44 (F.length * 7) f := hrow.of_block (hb1.block G hGl)
      have hgr := GFilterNodeGr w1 G k n (.slice b4 n.names.length m4) (.slice b5 n.keys.length m5) (.slice b6 n.kids.length m6)
      obtain ⟨f', hrow2, hL, hLo⟩ := GFilterNodeRow hrow1 k n (.slice b4 n.names.length m4) (.slice b5 n.keys.length m5) (.slice b6 n.kids.length m6)
      have hb1s := hb1.size
      have hS2 : Hid (Soft G (GFilterNodeSet w1 G k n (.slice b4 n.names.length m4) (.slice b5 n.keys.length m5) (.slice b6 n.kids.length m6))) := ((((((((hSf.out.call hb1 hsf1.out).set _ _ _).set _ _ _).set _ _ _).set _ _ _).set _ _ _).set _ _ _).set _ _ _)
      have hb2 : Below G w (GFilterNodeSet w1 G k n (.slice b4 n.names.length m4) (.slice b5 n.keys.length m5) (.slice b6 n.kids.length m6)) := (hb.trans (hb1.mono (by omega))).grown hgr (by omega) (fun j hj => by cases hj; exact Nat.le_refl _)
      have hIn2 := (hTx.out.mono (show G + 1 ≤ _ by omega) (Nat.le_refl _) |>.same (Same.gr hgr (by omega) (Nat.le_refl _))).mono (Nat.le_refl _) hgr.size
      have Hall : Hid (∀ j (h : j < F.length), j < k + 1 → ∃ v4 v5 v6, GFilterNodeL f' j F[j] v4 v5 v6 ∧ GFilterNodeIn (G + 1) (GFilterNodeSet w1 G k n (.slice b4 n.names.length m4) (.slice b5 n.keys.length m5) (.slice b6 n.kids.length m6)).heap.size (GFilterNodeSet w1 G k n (.slice b4 n.names.length m4) (.slice b5 n.keys.length m5) (.slice b6 n.kids.length m6)) F[j] v4 v5 v6 ∧ Cap6 v6) := by
        intro j h hj
        by_cases hjk : j = k
        · subst hjk
          rw [Hf.out]
          exact ⟨_, _, _, hL, hIn2, hcap⟩
        · obtain ⟨h4, h5, h6, hl, hm, hc⟩ := hall.out j h (by omega)
          exact ⟨h4, h5, h6, hLo j _ _ _ _ hjk hl, (((hm.same (Same.of_below hb1 (Nat.le_refl _))).mono (Nat.le_refl _) hb1s).same (Same.gr hgr (by omega) (Nat.le_refl _))).mono (Nat.le_refl _) hgr.size, hc⟩
      have hd := fun (j : Nat) (hj : j < 7) => hrow1.cell (i := k * 7 + j) (by omega)
      have d0 := hd 0 (by omega)
      have d1 := hd 1 (by omega)
      have d2 := hd 2 (by omega)
      have d3 := hd 3 (by omega)
      have d4 := hd 4 (by omega)
      have d5 := hd 5 (by omega)
      have d6 := hd 6 (by omega)
      have z0 := hrow1.frozen (k * 7)
      have z1 := hrow1.frozen (k * 7 + 1)
      have z2 := hrow1.frozen (k * 7 + 2)
      have z3 := hrow1.frozen (k * 7 + 3)
      have z4 := hrow1.frozen (k * 7 + 4)
      have z5 := hrow1.frozen (k * 7 + 5)
      have z6 := hrow1.frozen (k * 7 + 6)
      rw [Nat.add_zero] at d0
      have hadd := add_off G (k * 7)
      replace hrow2 := mkHid hrow2
      replace hb2 := mkHid hb2
      clear hcap hd hrow hrow1 hL hLo hgr hall hb hb1 hb1s hT c0 c1 c2 c3 c4 c5 c6 hTx hIn2
      unfold GFilterNodeSet at hrow2 hb2 hS2 Hall
      go_wp2
      go_roundw
      case rel => exact ⟨k + 1, f', by omega, by go_num, hrow2.out, Hall.out, hb2.out, hS2⟩
      case measure => simp [Lib.intOf]; omega
    · go_wp2
      go_ret
      refine ⟨by rw [hG]; rfl, ?_, by rw [hG]; exact hb, by rw [hG]; exact hSf, ?_⟩
      rotate_left
      · intro i hi
        obtain ⟨v4, v5, v6, hl, -, hc⟩ := hall.out i hi (by omega)
        refine ⟨v6, ?_, hc⟩
        have := hrow.cell (i := i * 7 + 6) (by omega)
        rw [hl.c6] at this
        rw [hG]
        exact this
      intro i hi
      obtain ⟨v4, v5, v6, hl, hm, -⟩ := hall.out i hi (by omega)
      refine ⟨⟨w.heap.size, 0, none⟩, v4, v5, v6, rfl, Nat.le_refl _, by rw [hG]; exact hrow.lt, ?_, hm.mono (by rw [hG]; omega) (Nat.le_refl _)⟩
      rw [add_off, hG]
      have hd := fun (j : Nat) (hj : j < 7) => hrow.cell (i := i * 7 + j) (by omega)
      refine ⟨?_, ?_, ?_, ?_, ?_, ?_, ?_⟩
      · have := hd 0 (by omega); rw [Nat.add_zero, hl.c0] at this; exact this
      · have := hd 1 (by omega); rw [hl.c1] at this; exact this
      · have := hd 2 (by omega); rw [hl.c2] at this; exact this
      · have := hd 3 (by omega); rw [hl.c3] at this; exact this
      · have := hd 4 (by omega); rw [hl.c4] at this; exact this
      · have := hd 5 (by omega); rw [hl.c5] at this; exact this
      · have := hd 6 (by omega); rw [hl.c6] at this; exact this
end Go.Proofs.Ytonnmbkfjiddnaa
