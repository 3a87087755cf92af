
/- TransferConfig: as the law has it and as the program has it; handed in, made anew, held against one another. (By tools/gen/structs.py.) -/
import Derived.Test.YtmpeflmfglbnnaaDoorGenSignKey
namespace Go.Proofs.YtmpeflmfglbnnaaDoor
open Go.RowKit Go.Lib Go.Maps
structure GTransferConfig where
  locF : ByteArray
  relay : Bool
  maxBytes : Int
  users : List GSignKey
  seed : Int
def GTransferConfigV (n : GTransferConfig) (v3 : Value) : Value := .agg #[.string n.locF, .bool n.relay, .int .i64 n.maxBytes, v3, .int .i64 n.seed]
def GTransferConfig.fits (n : GTransferConfig) (m : Nat) : Prop := n.locF.size ≤ m ∧ n.users.length ≤ m ∧ (∀ x ∈ n.users, x.fits m)
structure GTransferConfigIn (lo hi : Nat) (w : World) (n : GTransferConfig) (v3 : Value) : Prop where
  s3 : ∃ a c, v3 = .slice a n.users.length c ∧ GSignKeysL lo hi w a n.users
theorem GTransferConfigIn.same {lo hi : Nat} {w w' : World} {n : GTransferConfig} {v3 : Value} (h : GTransferConfigIn lo hi w n v3) (hs : Same lo hi w w') : GTransferConfigIn lo hi w' n v3 := by
  obtain ⟨⟨a3, c3, e3, t3⟩⟩ := h
  exact ⟨⟨a3, c3, e3, t3.same hs⟩⟩
theorem GTransferConfigIn.mono {lo lo' hi hi' : Nat} {w : World} {n : GTransferConfig} {v3 : Value} (h : GTransferConfigIn lo hi w n v3) (hl : lo' ≤ lo) (hh : hi ≤ hi') : GTransferConfigIn lo' hi' w n v3 := by
  obtain ⟨⟨a3, c3, e3, t3⟩⟩ := h
  exact ⟨⟨a3, c3, e3, t3.mono hl hh⟩⟩
structure GTransferConfigAt (w : World) (A : Addr) (n : GTransferConfig) (v3 : Value) : Prop where
  c0 : w.cell? A = some (.string n.locF)
  c1 : w.cell? ⟨A.block, A.off + 1, none⟩ = some (.bool n.relay)
  c2 : w.cell? ⟨A.block, A.off + 2, none⟩ = some (.int .i64 n.maxBytes)
  c3 : w.cell? ⟨A.block, A.off + 3, none⟩ = some (v3)
  c4 : w.cell? ⟨A.block, A.off + 4, none⟩ = some (.int .i64 n.seed)
theorem GTransferConfigAt.same {lo hi : Nat} {w w' : World} {A : Addr} {n : GTransferConfig} {v3 : Value} (h : GTransferConfigAt w A n v3) (hs : Same lo hi w w') (h1 : lo ≤ A.block) (h2 : A.block < hi) : GTransferConfigAt w' A n v3 :=
  ⟨(hs.cell h1 h2).trans h.c0, (hs.cell (p := ⟨A.block, A.off + 1, none⟩) h1 h2).trans h.c1, (hs.cell (p := ⟨A.block, A.off + 2, none⟩) h1 h2).trans h.c2, (hs.cell (p := ⟨A.block, A.off + 3, none⟩) h1 h2).trans h.c3, (hs.cell (p := ⟨A.block, A.off + 4, none⟩) h1 h2).trans h.c4⟩
def GTransferConfigsL (lo hi : Nat) (w : World) (o : Option Addr) (F : List GTransferConfig) : Prop := ∀ i (h : i < F.length), ∃ a v3, o = some a ∧ lo ≤ a.block ∧ a.block < hi ∧ GTransferConfigAt w (a.add (i * 5)) F[i] v3 ∧ GTransferConfigIn lo hi w F[i] v3
theorem GTransferConfigsL.same {lo hi : Nat} {w w' : World} {o : Option Addr} {F : List GTransferConfig} (h : GTransferConfigsL lo hi w o F) (hs : Same lo hi w w') : GTransferConfigsL lo hi w' o F := by
  intro i hi
  obtain ⟨a, v3, ho, h1, h2, h3, h4⟩ := h i hi
  exact ⟨a, v3, ho, h1, h2, h3.same hs (by rw [add_blockG]; exact h1) (by rw [add_blockG]; exact h2), h4.same hs⟩
theorem GTransferConfigsL.mono {lo lo' hi hi' : Nat} {w : World} {o : Option Addr} {F : List GTransferConfig} (h : GTransferConfigsL lo hi w o F) (hl : lo' ≤ lo) (hh : hi ≤ hi') : GTransferConfigsL lo' hi' w o F := by
  intro i hi
  obtain ⟨a, v3, ho, h1, h2, h3, h4⟩ := h i hi
  exact ⟨a, v3, ho, Nat.le_trans hl h1, Nat.lt_of_lt_of_le h2 hh, h3, h4.mono hl hh⟩
theorem GTransferConfigsL.below {lo hi B : Nat} {w w' : World} {o : Option Addr} {F : List GTransferConfig} (h : GTransferConfigsL lo hi w o F) (hb : Below B w w') (hB : hi ≤ B) : GTransferConfigsL lo hi w' o F := h.same (Same.of_below hb hB)
set_option maxHeartbeats 1000000 in
theorem lawSzTransferConfig (n : GTransferConfig) (v3 : Value) (left lo : Nat) (w : World) (hI : GTransferConfigIn lo w.heap.size w n v3) (hf : n.fits maxLen) (hl : left ≤ 1048576) :
    Calls Tryd.prog 4 #[GTransferConfigV n v3, .int .i64 left] w fun e w' => ∃ r : Int, e = .returned (.int .i64 r) ∧ Hid (r = -1 ∨ ∃ m : Nat, r = m ∧ m ≤ left ∧ n.fits 1048576) ∧ Below w.heap.size w w' := by
  obtain ⟨⟨a3, c3, rfl, t3⟩⟩ := hI
  obtain ⟨f0_0, f3_0, f3_1⟩ := hf
  have H3 := mkHid fun (w' : World) (hb : Below w.heap.size w w') (m : Nat) (hm : m ≤ 1048576) => lawSzSSignKey a3 n.users c3 m lo w' ((t3.below hb (Nat.le_refl _)).mono (Nat.le_refl _) hb.size) f3_0 f3_1 hm
  unfold GTransferConfigV
  unfold maxLen at f0_0
  clear f3_0 f3_1 t3
  obtain ⟨W, hW⟩ : ∃ W, W = w.alloc (.cells #[.string n.locF, .bool n.relay, .int .i64 n.maxBytes, .slice a3 n.users.length c3, .int .i64 n.seed] 24) := ⟨_, rfl⟩
  have hbW : Below w.heap.size w W := by rw [hW]; exact (Below.refl _ _).alloc (Nat.le_refl _) _
  have hWs : w.heap.size < W.heap.size := by rw [hW]; simp
  have HW := mkHid hW
  clear hW
  by_cases h0 : left < n.locF.size
  · go_enter Tryd.func4, Tryd.ntmps4
    go_wp2
    go_ret
    first | rw [← HW.out] | skip
    exact ⟨-1, rfl, .inl rfl, hbW⟩
  · obtain ⟨l0, h0a⟩ : ∃ l : Nat, left - n.locF.size = l := ⟨_, rfl⟩
    have h0b : (left : Int) - (n.locF.size : Int) = (l0 : Int) := by omega
    have h0c : l0 ≤ left := by omega
    have g0 : Hid (n.locF.size ≤ 1048576) := by show _ ≤ _; omega
    clear h0a
    go_enter Tryd.func4, Tryd.ntmps4
    go_wp2_with fail
    rw [← HW.out]
    refine (H3.out W hbW l0 (by omega)).mono ?_
    rintro e w1 ⟨r1, rfl, hr1, hb1⟩
    have hz1 : w.heap.size < w1.heap.size := Nat.lt_of_lt_of_le hWs hb1.size
    have hbw1 := hbW.trans (hb1.mono (Nat.le_of_lt hWs))
    clear hb1 HW
    rcases hr1.out with rfl | ⟨m1, rfl, hm1, hf1⟩
    · clear hr1
      go_wp2
      go_ret
      exact ⟨-1, rfl, .inl rfl, hbw1⟩
    · replace hf1 := mkHid hf1
      clear hr1
      go_wp2
      go_ret
      exact ⟨_, rfl, .inr ⟨m1, rfl, by omega, g0.out, hf1.out.1, hf1.out.2⟩, hbw1⟩
set_option maxHeartbeats 4000000 in
set_option maxRecDepth 20000 in
theorem lawToXTransferConfig (n : GTransferConfig) (u3 : Value) (lo : Nat) (w : World) (hI : GTransferConfigIn lo w.heap.size w n u3) (hf : n.fits 1048576) :
    Calls Tryd.prog 6 #[GTransferConfigV n u3] w fun e w' => ∃ v3 : Value, e = .returned (GTransferConfigV n v3) ∧ Hid (GTransferConfigIn w.heap.size w'.heap.size w' n v3) ∧ Below w.heap.size w w' ∧ Hid (Soft w.heap.size w') := by
  obtain ⟨⟨a3, c3, rfl, t3⟩⟩ := hI
  obtain ⟨f0_0, f3_0, f3_1⟩ := hf
  have H3 := mkHid fun (w' : World) (hb : Below w.heap.size w w') => lawToSXSignKey a3 n.users c3 lo w' ((t3.below hb (Nat.le_refl _)).mono (Nat.le_refl _) hb.size) f3_0 f3_1
  clear f0_0 f3_0 f3_1 t3
  obtain ⟨G, hG⟩ : ∃ G, w.heap.size = G := ⟨_, rfl⟩
  obtain ⟨V0, hV0⟩ : ∃ W, W = ((w.alloc (.cells #[.string n.locF, .bool n.relay, .int .i64 n.maxBytes, .slice a3 n.users.length c3, .int .i64 n.seed] 24)).alloc (.cells #[.string ⟨#[]⟩, .bool false, .int .i64 0, .slice none 0 0, .int .i64 0] 29)).alloc (.cells #[.string n.locF, .bool n.relay, .int .i64 n.maxBytes, .slice none 0 0, .int .i64 0] 29) := ⟨_, rfl⟩
  obtain ⟨hb0, hs0, hP0, hR0, hO0⟩ := three_blocks hG hV0
  have hSf := mkHid (show Soft G V0 by rw [hV0, ← hG]; exact (((Soft.refl _).alloc _ _).alloc _ _).alloc _ _)
  have HV0 := mkHid hV0
  clear hV0
  have hG' := mkHid hG
  unfold GTransferConfigV
  go_enter Tryd.func6, Tryd.ntmps6
  go_wp2_with fail
  rw [← HV0.out]
  refine (H3.out V0 (by rw [hG]; exact hb0)).mono ?_
  rintro e w1 ⟨rfl, hT3, hw1, hsf1⟩
  replace hSf := mkHid (hSf.out.call hw1 hsf1.out)
  obtain ⟨g3, hg3⟩ : ∃ g, V0.heap.size = g := ⟨_, rfl⟩
  rw [hg3] at hT3 hw1 hs0 ⊢
  have hw1s := hw1.size
  rw [hg3] at hw1s
  have hP1a := (hw1.block G (by omega)).trans hP0
  have hR1a := (hw1.block (G + 1) (by omega)).trans hR0
  have hO1a := (hw1.block (G + 1 + 1) (by omega)).trans hO0
  have p1_4 : w1.cell? ⟨G, 4, none⟩ = some (.int .i64 n.seed) := by simp [World.cell?, hP1a]
  have x1_3 : w1.cell? ⟨G + 1 + 1, 3, none⟩ = some (.slice none 0 0) := by simp [World.cell?, hO1a]
  have z1_3 : w1.frozen? ⟨G + 1 + 1, 3, none⟩ = false := by simp [World.frozen?, hO1a]
  have x1_4 : w1.cell? ⟨G + 1 + 1, 4, none⟩ = some (.int .i64 0) := by simp [World.cell?, hO1a]
  have z1_4 : w1.frozen? ⟨G + 1 + 1, 4, none⟩ = false := by simp [World.frozen?, hO1a]
  obtain ⟨V1, hV1⟩ : ∃ V, V = (w1.setCell ⟨G + 1 + 1, 3, none⟩ (.slice (some ⟨g3, 0, none⟩) n.users.length n.users.length)).setCell ⟨G + 1 + 1, 4, none⟩ (.int .i64 n.seed) := ⟨_, rfl⟩
  replace hSf := mkHid (show Soft G V1 by rw [hV1]; exact ((hSf.out.set _ _ _).set _ _ _))
  have hgr1 : w1.grownBy V1 (some (G + 1 + 1)) := by rw [hV1]; exact grG_trans (grG_set _ _ _ _) (grG_set _ _ _ _)
  have hP1 := (hgr1.block G (by omega) (by simp; omega)).trans hP1a
  have hR1 := (hgr1.block (G + 1) (by omega) (by simp)).trans hR1a
  have hO1 : V1.heap[G + 1 + 1]? = some (.cells #[.string n.locF, .bool n.relay, .int .i64 n.maxBytes, .slice (some ⟨g3, 0, none⟩) n.users.length n.users.length, .int .i64 n.seed] 29 (0, 0)) := by rw [hV1]; simp [World.setCell, Array.getElem?_modify, hO1a]
  have hs1 : G + 3 ≤ V1.heap.size := Nat.le_trans (Nat.le_trans hs0 hw1s) hgr1.size
  have hb1 : Below G w V1 := (hb0.trans (hw1.mono (by omega))).grown hgr1 (by omega) (fun k hk => by cases hk; omega)
  replace hT3 := mkHid ((hT3.out.same (Same.gr hgr1 (by omega) (Nat.le_refl _))).mono (show G + 3 ≤ _ by omega) hgr1.size)
  replace hV1 := mkHid hV1
  have HV1 := hV1
  clear hP1a hR1a hO1a hP0 hR0 hO0 hw1 HV0 hgr1 hb0
  clear hs0 hg3 hw1s
  have hgz := grown_setRow V1 (G + 1) #[.string n.locF, .bool n.relay, .int .i64 n.maxBytes, .slice (some ⟨g3, 0, none⟩) n.users.length n.users.length, .int .i64 n.seed]
  have hSz := mkHid (hSf.out.setRow (G + 1) #[.string n.locF, .bool n.relay, .int .i64 n.maxBytes, .slice (some ⟨g3, 0, none⟩) n.users.length n.users.length, .int .i64 n.seed])
  clear hSf
  have hbz := mkHid (hb1.grown hgz (by omega) (fun k hk => by cases hk; omega))
  replace hT3 := mkHid ((hT3.out.same (Same.gr hgz (by omega) (Nat.le_refl _))).mono (show G ≤ _ by omega) hgz.size)
  rw [HV1.out] at hT3 hbz hSz hO1 hR1
  clear hgz HV1 hV1 hb1 hP1 hs1
  go_wp2_with (first | (refine wpL_load_row rfl 29 _ rfl (G + 1 + 1) _ 29 (0, 0) _ rfl hO1 Tryd.underlying29 rfl (by kernel_rfl) ?_) | (refine wpL_store_row rfl 29 _ _ rfl (G + 1) _ rfl rfl 29 _ hR1 (by kernel_rfl) rfl (by simp [Value.oneCell']) ?_) | go_in)
  refine bodyPost_ret (v := .agg #[.string n.locF, .bool n.relay, .int .i64 n.maxBytes, .slice (some ⟨g3, 0, none⟩) n.users.length n.users.length, .int .i64 n.seed]) (results_cell_row Tryd.results6 _ _ (G + 1) 29 _ (0, 0) _ rfl (setRow_heap _ _ _ _ _ _ hR1) Tryd.underlying29 rfl (by kernel_rfl)) rfl ?_
  rw [hG]
  exact ⟨_, rfl, ⟨⟨_, _, rfl, hT3.out⟩⟩, hbz.out, hSz⟩
theorem lawToTransferConfig (n : GTransferConfig) (u3 : Value) (lo : Nat) (w : World) (hI : GTransferConfigIn lo w.heap.size w n u3) (hf : n.fits 1048576) :
    Calls Tryd.prog 6 #[GTransferConfigV n u3] w fun e w' => ∃ v3 : Value, e = .returned (GTransferConfigV n v3) ∧ Hid (GTransferConfigIn w.heap.size w'.heap.size w' n v3) ∧ Below w.heap.size w w' :=
  (lawToXTransferConfig n u3 lo w hI hf).mono fun _ _ ⟨v3, h1, h2, h3, _⟩ => ⟨v3, h1, h2, h3⟩
set_option maxHeartbeats 1000000 in
theorem lawEqTransferConfig (n : GTransferConfig) (v3 : Value) (u3 : Value) (lo lo' : Nat) (w : World) (hI : GTransferConfigIn lo w.heap.size w n v3) (hJ : GTransferConfigIn lo' w.heap.size w n u3) (hf : n.fits 1048576) :
    Calls Tryd.prog 8 #[GTransferConfigV n v3, GTransferConfigV n u3] w fun e w' => e = .returned (.bool true) ∧ Below w.heap.size w w' := by
  obtain ⟨⟨a3, c3, rfl, t3⟩⟩ := hI
  obtain ⟨⟨b3, d3, rfl, s3⟩⟩ := hJ
  obtain ⟨f0_0, f3_0, f3_1⟩ := hf
  have H3 := mkHid fun (w' : World) (hb : Below w.heap.size w w') => lawEqSSignKey a3 b3 n.users c3 d3 lo lo' w' ((t3.below hb (Nat.le_refl _)).mono (Nat.le_refl _) hb.size) ((s3.below hb (Nat.le_refl _)).mono (Nat.le_refl _) hb.size) f3_0 f3_1
  clear f0_0 f3_0 f3_1 t3 s3
  unfold GTransferConfigV
  obtain ⟨W0, hW⟩ : ∃ W, W = (w.alloc (.cells #[.string n.locF, .bool n.relay, .int .i64 n.maxBytes, .slice a3 n.users.length c3, .int .i64 n.seed] 29)).alloc (.cells #[.string n.locF, .bool n.relay, .int .i64 n.maxBytes, .slice b3 n.users.length d3, .int .i64 n.seed] 29) := ⟨_, rfl⟩
  obtain ⟨hb0, hs0, hA0, hB0⟩ := two_blocks hW
  have HW := mkHid hW
  clear hW
  go_enter Tryd.func8, Tryd.ntmps8
  go_wp2_with fail
  rw [← HW.out]
  refine (H3.out W0 hb0).mono ?_
  rintro e W1 ⟨rfl, hw1⟩
  have hw1s := hw1.size
  have hA1 := (hw1.block w.heap.size (by omega)).trans hA0
  have hB1 := (hw1.block (w.heap.size + 1) (by omega)).trans hB0
  have hb1 := hb0.trans (hw1.mono (by omega))
  have hs1 : w.heap.size + 2 ≤ W1.heap.size := Nat.le_trans hs0 hw1s
  have p1_4 : W1.cell? ⟨w.heap.size, 4, none⟩ = some (.int .i64 n.seed) := by simp [World.cell?, hA1]
  have q1_4 : W1.cell? ⟨w.heap.size + 1, 4, none⟩ = some (.int .i64 n.seed) := by simp [World.cell?, hB1]
  clear hA0 hB0 hw1 hs0 hb0 hw1s HW
  clear hA1 hB1 hs1
  go_wp2
  go_ret
  exact ⟨rfl, hb1⟩
end Go.Proofs.YtmpeflmfglbnnaaDoor
