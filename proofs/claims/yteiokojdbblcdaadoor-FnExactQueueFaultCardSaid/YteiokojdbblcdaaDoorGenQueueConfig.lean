
/- QueueConfig: as the law has it and as the program has it; handed in, made anew, held against one another. (By tools/gen/structs.py.) -/
import Derived.Test.YteiokojdbblcdaaDoorGenMx
namespace Go.Proofs.YteiokojdbblcdaaDoor
open Go.RowKit Go.Lib Go.Maps
structure GQueueConfig where
  locF : ByteArray
  aliases : List GAlias
  mx : List GMx
  delays : List Int
  maxAge : Int
def GQueueConfigV (n : GQueueConfig) (v1 v2 v3 : Value) : Value := .agg #[.string n.locF, v1, v2, v3, .int .i64 n.maxAge]
def GQueueConfig.fits (n : GQueueConfig) (m : Nat) : Prop := n.locF.size ≤ m ∧ n.aliases.length ≤ m ∧ (∀ x ∈ n.aliases, x.fits m) ∧ n.mx.length ≤ m ∧ (∀ x ∈ n.mx, x.fits m) ∧ n.delays.length ≤ m
structure GQueueConfigIn (lo hi : Nat) (w : World) (n : GQueueConfig) (v1 v2 v3 : Value) : Prop where
  s1 : ∃ a c, v1 = .slice a n.aliases.length c ∧ GAliassL lo hi w a n.aliases
  s2 : ∃ a c, v2 = .slice a n.mx.length c ∧ GMxsL lo hi w a n.mx
  s3 : ∃ a c, v3 = .slice a n.delays.length c ∧ InL lo hi w a n.delays
theorem GQueueConfigIn.same {lo hi : Nat} {w w' : World} {n : GQueueConfig} {v1 v2 v3 : Value} (h : GQueueConfigIn lo hi w n v1 v2 v3) (hs : Same lo hi w w') : GQueueConfigIn lo hi w' n v1 v2 v3 := by
  obtain ⟨⟨a1, c1, e1, t1⟩, ⟨a2, c2, e2, t2⟩, ⟨a3, c3, e3, t3⟩⟩ := h
  exact ⟨⟨a1, c1, e1, t1.same hs⟩, ⟨a2, c2, e2, t2.same hs⟩, ⟨a3, c3, e3, t3.same hs⟩⟩
theorem GQueueConfigIn.mono {lo lo' hi hi' : Nat} {w : World} {n : GQueueConfig} {v1 v2 v3 : Value} (h : GQueueConfigIn lo hi w n v1 v2 v3) (hl : lo' ≤ lo) (hh : hi ≤ hi') : GQueueConfigIn lo' hi' w n v1 v2 v3 := by
  obtain ⟨⟨a1, c1, e1, t1⟩, ⟨a2, c2, e2, t2⟩, ⟨a3, c3, e3, t3⟩⟩ := h
  exact ⟨⟨a1, c1, e1, t1.mono hl hh⟩, ⟨a2, c2, e2, t2.mono hl hh⟩, ⟨a3, c3, e3, t3.mono hl hh⟩⟩
structure GQueueConfigAt (w : World) (A : Addr) (n : GQueueConfig) (v1 v2 v3 : Value) : Prop where
  c0 : w.cell? A = some (.string n.locF)
  c1 : w.cell? ⟨A.block, A.off + 1, none⟩ = some (v1)
  c2 : w.cell? ⟨A.block, A.off + 2, none⟩ = some (v2)
  c3 : w.cell? ⟨A.block, A.off + 3, none⟩ = some (v3)
  c4 : w.cell? ⟨A.block, A.off + 4, none⟩ = some (.int .i64 n.maxAge)
theorem GQueueConfigAt.same {lo hi : Nat} {w w' : World} {A : Addr} {n : GQueueConfig} {v1 v2 v3 : Value} (h : GQueueConfigAt w A n v1 v2 v3) (hs : Same lo hi w w') (h1 : lo ≤ A.block) (h2 : A.block < hi) : GQueueConfigAt w' A n v1 v2 v3 :=
  ⟨(hs.cell h1 h2).trans h.c0, (hs.cell (p := ⟨A.block, A.off + 1, none⟩) h1 h2).trans h.c1, (hs.cell (p := ⟨A.block, A.off + 2, none⟩) h1 h2).trans h.c2, (hs.cell (p := ⟨A.block, A.off + 3, none⟩) h1 h2).trans h.c3, (hs.cell (p := ⟨A.block, A.off + 4, none⟩) h1 h2).trans h.c4⟩
def GQueueConfigsL (lo hi : Nat) (w : World) (o : Option Addr) (F : List GQueueConfig) : Prop := ∀ i (h : i < F.length), ∃ a v1 v2 v3, o = some a ∧ lo ≤ a.block ∧ a.block < hi ∧ GQueueConfigAt w (a.add (i * 5)) F[i] v1 v2 v3 ∧ GQueueConfigIn lo hi w F[i] v1 v2 v3
theorem GQueueConfigsL.same {lo hi : Nat} {w w' : World} {o : Option Addr} {F : List GQueueConfig} (h : GQueueConfigsL lo hi w o F) (hs : Same lo hi w w') : GQueueConfigsL lo hi w' o F := by
  intro i hi
  obtain ⟨a, v1, v2, v3, ho, h1, h2, h3, h4⟩ := h i hi
  exact ⟨a, v1, v2, v3, ho, h1, h2, h3.same hs (by rw [add_blockG]; exact h1) (by rw [add_blockG]; exact h2), h4.same hs⟩
theorem GQueueConfigsL.mono {lo lo' hi hi' : Nat} {w : World} {o : Option Addr} {F : List GQueueConfig} (h : GQueueConfigsL lo hi w o F) (hl : lo' ≤ lo) (hh : hi ≤ hi') : GQueueConfigsL lo' hi' w o F := by
  intro i hi
  obtain ⟨a, v1, v2, v3, ho, h1, h2, h3, h4⟩ := h i hi
  exact ⟨a, v1, v2, v3, ho, Nat.le_trans hl h1, Nat.lt_of_lt_of_le h2 hh, h3, h4.mono hl hh⟩
theorem GQueueConfigsL.below {lo hi B : Nat} {w w' : World} {o : Option Addr} {F : List GQueueConfig} (h : GQueueConfigsL lo hi w o F) (hb : Below B w w') (hB : hi ≤ B) : GQueueConfigsL lo hi w' o F := h.same (Same.of_below hb hB)
set_option maxHeartbeats 1000000 in
theorem lawSzQueueConfig (n : GQueueConfig) (v1 v2 v3 : Value) (left lo : Nat) (w : World) (hI : GQueueConfigIn lo w.heap.size w n v1 v2 v3) (hf : n.fits maxLen) (hl : left ≤ 1048576) :
    Calls Tryd.prog 4 #[GQueueConfigV n v1 v2 v3, .int .i64 left] w fun e w' => ∃ r : Int, e = .returned (.int .i64 r) ∧ Hid (r = -1 ∨ ∃ m : Nat, r = m ∧ m ≤ left ∧ n.fits 1048576) ∧ Below w.heap.size w w' := by
  obtain ⟨⟨a1, c1, rfl, t1⟩, ⟨a2, c2, rfl, t2⟩, ⟨a3, c3, rfl, t3⟩⟩ := hI
  obtain ⟨f0_0, f1_0, f1_1, f2_0, f2_1, f3_0⟩ := hf
  have H1 := mkHid fun (w' : World) (hb : Below w.heap.size w w') (m : Nat) (hm : m ≤ 1048576) => lawSzSAlias a1 n.aliases c1 m lo w' ((t1.below hb (Nat.le_refl _)).mono (Nat.le_refl _) hb.size) f1_0 f1_1 hm
  have H2 := mkHid fun (w' : World) (hb : Below w.heap.size w w') (m : Nat) (hm : m ≤ 1048576) => lawSzSMx a2 n.mx c2 m lo w' ((t2.below hb (Nat.le_refl _)).mono (Nat.le_refl _) hb.size) f2_0 f2_1 hm
  have H3 := mkHid fun (w' : World) (_ : Below w.heap.size w w') (m : Nat) (hm : m ≤ 1048576) => lawSzSInt a3 n.delays c3 m w' f3_0 hm
  unfold GQueueConfigV
  unfold maxLen at f0_0
  clear f1_0 f1_1 t1 f2_0 f2_1 t2 f3_0 t3
  obtain ⟨W, hW⟩ : ∃ W, W = w.alloc (.cells #[.string n.locF, .slice a1 n.aliases.length c1, .slice a2 n.mx.length c2, .slice a3 n.delays.length c3, .int .i64 n.maxAge] 26) := ⟨_, rfl⟩
  have hbW : Below w.heap.size w W := by rw [hW]; exact (Below.refl _ _).alloc (Nat.le_refl _) _
  have hWs : w.heap.size < W.heap.size := by rw [hW]; simp
  have q0_2 : W.cell? ⟨w.heap.size, 2, none⟩ = some (.slice a2 n.mx.length c2) := by rw [hW]; simp
  have q0_3 : W.cell? ⟨w.heap.size, 3, none⟩ = some (.slice a3 n.delays.length c3) := by rw [hW]; simp
  have HW := mkHid hW
  clear hW
  by_cases h0 : left < n.locF.size
  · go_enter Tryd.func4, Tryd.ntmps4
    go_wp2
    go_ret
    first | rw [← HW.out] | skip
    exact ⟨-1, rfl, .inl rfl, hbW⟩
  · obtain ⟨l0, h0a⟩ : ∃ l : Nat, left - n.locF.size = l := ⟨_, rfl⟩
    have h0b : (left : Int) - (n.locF.size : Int) = (l0 : Int) := by omega
    have h0c : l0 ≤ left := by omega
    have g0 : Hid (n.locF.size ≤ 1048576) := by show _ ≤ _; omega
    clear h0a
    go_enter Tryd.func4, Tryd.ntmps4
    go_wp2_with fail
    rw [← HW.out]
    refine (H1.out W hbW l0 (by omega)).mono ?_
    rintro e w1 ⟨r1, rfl, hr1, hb1⟩
    have q1_2 := (hb1.cell (p := ⟨w.heap.size, 2, none⟩) hWs).trans q0_2
    have q1_3 := (hb1.cell (p := ⟨w.heap.size, 3, none⟩) hWs).trans q0_3
    have hz1 : w.heap.size < w1.heap.size := Nat.lt_of_lt_of_le hWs hb1.size
    have hbw1 := hbW.trans (hb1.mono (Nat.le_of_lt hWs))
    clear hb1 HW q0_2 q0_3
    rcases hr1.out with rfl | ⟨m1, rfl, hm1, hf1⟩
    · clear hr1
      go_wp2
      go_ret
      exact ⟨-1, rfl, .inl rfl, hbw1⟩
    · replace hf1 := mkHid hf1
      clear hr1
      go_wp2_with fail
      refine (H2.out w1 hbw1 m1 (by omega)).mono ?_
      rintro e w2 ⟨r2, rfl, hr2, hb2⟩
      have q2_3 := (hb2.cell (p := ⟨w.heap.size, 3, none⟩) hz1).trans q1_3
      have hz2 : w.heap.size < w2.heap.size := Nat.lt_of_lt_of_le hz1 hb2.size
      have hbw2 := hbw1.trans (hb2.mono (Nat.le_of_lt hz1))
      clear hb2 q1_2 q1_3
      rcases hr2.out with rfl | ⟨m2, rfl, hm2, hf2⟩
      · clear hr2
        go_wp2
        go_ret
        exact ⟨-1, rfl, .inl rfl, hbw2⟩
      · replace hf2 := mkHid hf2
        clear hr2
        go_wp2_with fail
        refine (H3.out w2 hbw2 m2 (by omega)).mono ?_
        rintro e w3 ⟨r3, rfl, hr3, hb3⟩
        have hz3 : w.heap.size < w3.heap.size := Nat.lt_of_lt_of_le hz2 hb3.size
        have hbw3 := hbw2.trans (hb3.mono (Nat.le_of_lt hz2))
        clear hb3 q2_3
        rcases hr3.out with rfl | ⟨m3, rfl, hm3, hf3⟩
        · clear hr3
          go_wp2
          go_ret
          exact ⟨-1, rfl, .inl rfl, hbw3⟩
        · replace hf3 := mkHid hf3
          clear hr3
          go_wp2
          go_ret
          exact ⟨_, rfl, .inr ⟨m3, rfl, by omega, g0.out, hf1.out.1, hf1.out.2, hf2.out.1, hf2.out.2, hf3.out⟩, hbw3⟩
set_option maxHeartbeats 4000000 in
set_option maxRecDepth 20000 in
theorem lawToXQueueConfig (n : GQueueConfig) (u1 : Value) (u2 : Value) (u3 : Value) (lo : Nat) (w : World) (hI : GQueueConfigIn lo w.heap.size w n u1 u2 u3) (hf : n.fits 1048576) :
    Calls Tryd.prog 6 #[GQueueConfigV n u1 u2 u3] w fun e w' => ∃ v1 v2 v3 : Value, e = .returned (GQueueConfigV n v1 v2 v3) ∧ Hid (GQueueConfigIn w.heap.size w'.heap.size w' n v1 v2 v3) ∧ Below w.heap.size w w' ∧ Hid (Soft w.heap.size w') := by
  obtain ⟨⟨a1, c1, rfl, t1⟩, ⟨a2, c2, rfl, t2⟩, ⟨a3, c3, rfl, t3⟩⟩ := hI
  obtain ⟨f0_0, f1_0, f1_1, f2_0, f2_1, f3_0⟩ := hf
  have H1 := mkHid fun (w' : World) (hb : Below w.heap.size w w') => lawToSXAlias a1 n.aliases c1 lo w' ((t1.below hb (Nat.le_refl _)).mono (Nat.le_refl _) hb.size) f1_0 f1_1
  have H2 := mkHid fun (w' : World) (hb : Below w.heap.size w w') => lawToSXMx a2 n.mx c2 lo w' ((t2.below hb (Nat.le_refl _)).mono (Nat.le_refl _) hb.size) f2_0 f2_1
  have H3 := mkHid fun (w' : World) (hb : Below w.heap.size w w') => lawToSXInt a3 n.delays c3 lo w' ((t3.below hb (Nat.le_refl _)).mono (Nat.le_refl _) hb.size) f3_0
  clear f0_0 f1_0 f1_1 f2_0 f2_1 f3_0 t1 t2 t3
  obtain ⟨G, hG⟩ : ∃ G, w.heap.size = G := ⟨_, rfl⟩
  obtain ⟨V0, hV0⟩ : ∃ W, W = ((w.alloc (.cells #[.string n.locF, .slice a1 n.aliases.length c1, .slice a2 n.mx.length c2, .slice a3 n.delays.length c3, .int .i64 n.maxAge] 26)).alloc (.cells #[.string ⟨#[]⟩, .slice none 0 0, .slice none 0 0, .slice none 0 0, .int .i64 0] 32)).alloc (.cells #[.string n.locF, .slice none 0 0, .slice none 0 0, .slice none 0 0, .int .i64 0] 32) := ⟨_, rfl⟩
  obtain ⟨hb0, hs0, hP0, hR0, hO0⟩ := three_blocks hG hV0
  have hSf := mkHid (show Soft G V0 by rw [hV0, ← hG]; exact (((Soft.refl _).alloc _ _).alloc _ _).alloc _ _)
  have HV0 := mkHid hV0
  clear hV0
  have hG' := mkHid hG
  unfold GQueueConfigV
  go_enter Tryd.func6, Tryd.ntmps6
  go_wp2_with fail
  rw [← HV0.out]
  refine (H1.out V0 (by rw [hG]; exact hb0)).mono ?_
  rintro e w1 ⟨rfl, hT1, hw1, hsf1⟩
  replace hSf := mkHid (hSf.out.call hw1 hsf1.out)
  obtain ⟨g1, hg1⟩ : ∃ g, V0.heap.size = g := ⟨_, rfl⟩
  rw [hg1] at hT1 hw1 hs0 ⊢
  have hw1s := hw1.size
  rw [hg1] at hw1s
  have hP1a := (hw1.block G (by omega)).trans hP0
  have hR1a := (hw1.block (G + 1) (by omega)).trans hR0
  have hO1a := (hw1.block (G + 1 + 1) (by omega)).trans hO0
  have p1_2 : w1.cell? ⟨G, 2, none⟩ = some (.slice a2 n.mx.length c2) := by simp [World.cell?, hP1a]
  have x1_1 : w1.cell? ⟨G + 1 + 1, 1, none⟩ = some (.slice none 0 0) := by simp [World.cell?, hO1a]
  have z1_1 : w1.frozen? ⟨G + 1 + 1, 1, none⟩ = false := by simp [World.frozen?, hO1a]
  obtain ⟨V1, hV1⟩ : ∃ V, V = w1.setCell ⟨G + 1 + 1, 1, none⟩ (.slice (some ⟨g1, 0, none⟩) n.aliases.length n.aliases.length) := ⟨_, rfl⟩
  replace hSf := mkHid (show Soft G V1 by rw [hV1]; exact (hSf.out.set _ _ _))
  have hgr1 : w1.grownBy V1 (some (G + 1 + 1)) := by rw [hV1]; exact grG_set _ _ _ _
  have hP1 := (hgr1.block G (by omega) (by simp; omega)).trans hP1a
  have hR1 := (hgr1.block (G + 1) (by omega) (by simp)).trans hR1a
  have hO1 : V1.heap[G + 1 + 1]? = some (.cells #[.string n.locF, .slice (some ⟨g1, 0, none⟩) n.aliases.length n.aliases.length, .slice none 0 0, .slice none 0 0, .int .i64 0] 32 (0, 0)) := by rw [hV1]; simp [World.setCell, Array.getElem?_modify, hO1a]
  have hs1 : G + 3 ≤ V1.heap.size := Nat.le_trans (Nat.le_trans hs0 hw1s) hgr1.size
  have hb1 : Below G w V1 := (hb0.trans (hw1.mono (by omega))).grown hgr1 (by omega) (fun k hk => by cases hk; omega)
  replace hT1 := mkHid ((hT1.out.same (Same.gr hgr1 (by omega) (Nat.le_refl _))).mono (show G + 3 ≤ _ by omega) hgr1.size)
  replace hV1 := mkHid hV1
  have HV1 := hV1
  clear hP1a hR1a hO1a hP0 hR0 hO0 hw1 HV0 hgr1 hb0
  clear hs0 hg1 hw1s
  go_wp2_with fail
  rw [← HV1.out]
  refine (H2.out V1 (by rw [hG]; exact hb1)).mono ?_
  rintro e w2 ⟨rfl, hT2, hw2, hsf2⟩
  clear x1_1 z1_1 p1_2
  replace hSf := mkHid (hSf.out.call hw2 hsf2.out)
  obtain ⟨g2, hg2⟩ : ∃ g, V1.heap.size = g := ⟨_, rfl⟩
  rw [hg2] at hT2 hw2 hs1 ⊢
  rw [hg2] at hT1
  have hw2s := hw2.size
  rw [hg2] at hw2s
  have hP2a := (hw2.block G (by omega)).trans hP1
  have hR2a := (hw2.block (G + 1) (by omega)).trans hR1
  have hO2a := (hw2.block (G + 1 + 1) (by omega)).trans hO1
  have p2_3 : w2.cell? ⟨G, 3, none⟩ = some (.slice a3 n.delays.length c3) := by simp [World.cell?, hP2a]
  have x2_2 : w2.cell? ⟨G + 1 + 1, 2, none⟩ = some (.slice none 0 0) := by simp [World.cell?, hO2a]
  have z2_2 : w2.frozen? ⟨G + 1 + 1, 2, none⟩ = false := by simp [World.frozen?, hO2a]
  obtain ⟨V2, hV2⟩ : ∃ V, V = w2.setCell ⟨G + 1 + 1, 2, none⟩ (.slice (some ⟨g2, 0, none⟩) n.mx.length n.mx.length) := ⟨_, rfl⟩
  replace hSf := mkHid (show Soft G V2 by rw [hV2]; exact (hSf.out.set _ _ _))
  have hgr2 : w2.grownBy V2 (some (G + 1 + 1)) := by rw [hV2]; exact grG_set _ _ _ _
  have hP2 := (hgr2.block G (by omega) (by simp; omega)).trans hP2a
  have hR2 := (hgr2.block (G + 1) (by omega) (by simp)).trans hR2a
  have hO2 : V2.heap[G + 1 + 1]? = some (.cells #[.string n.locF, .slice (some ⟨g1, 0, none⟩) n.aliases.length n.aliases.length, .slice (some ⟨g2, 0, none⟩) n.mx.length n.mx.length, .slice none 0 0, .int .i64 0] 32 (0, 0)) := by rw [hV2]; simp [World.setCell, Array.getElem?_modify, hO2a]
  have hs2 : G + 3 ≤ V2.heap.size := Nat.le_trans (Nat.le_trans hs1 hw2s) hgr2.size
  have hb2 : Below G w V2 := (hb1.trans (hw2.mono (by omega))).grown hgr2 (by omega) (fun k hk => by cases hk; omega)
  have hT1 := mkHid (((hT1.out.below hw2 (Nat.le_refl _)).mono (Nat.le_refl _) hw2s |>.same (Same.gr hgr2 (by omega) (Nat.le_refl _))).mono (Nat.le_refl _) hgr2.size)
  replace hT2 := mkHid ((hT2.out.same (Same.gr hgr2 (by omega) (Nat.le_refl _))).mono (show G + 3 ≤ _ by omega) hgr2.size)
  replace hV2 := mkHid hV2
  have HV2 := hV2
  clear hP2a hR2a hO2a hP1 hR1 hO1 hw2 HV1 hgr2 hb1
  clear hs1 hg2 hw2s
  go_wp2_with fail
  rw [← HV2.out]
  refine (H3.out V2 (by rw [hG]; exact hb2)).mono ?_
  rintro e w3 ⟨rfl, hT3, hw3, hsf3⟩
  clear x2_2 z2_2 p2_3
  replace hSf := mkHid (hSf.out.call hw3 hsf3.out)
  obtain ⟨g3, hg3⟩ : ∃ g, V2.heap.size = g := ⟨_, rfl⟩
  rw [hg3] at hT3 hw3 hs2 ⊢
  rw [hg3] at hT1
  rw [hg3] at hT2
  have hw3s := hw3.size
  rw [hg3] at hw3s
  have hP3a := (hw3.block G (by omega)).trans hP2
  have hR3a := (hw3.block (G + 1) (by omega)).trans hR2
  have hO3a := (hw3.block (G + 1 + 1) (by omega)).trans hO2
  have p3_4 : w3.cell? ⟨G, 4, none⟩ = some (.int .i64 n.maxAge) := by simp [World.cell?, hP3a]
  have x3_3 : w3.cell? ⟨G + 1 + 1, 3, none⟩ = some (.slice none 0 0) := by simp [World.cell?, hO3a]
  have z3_3 : w3.frozen? ⟨G + 1 + 1, 3, none⟩ = false := by simp [World.frozen?, hO3a]
  have x3_4 : w3.cell? ⟨G + 1 + 1, 4, none⟩ = some (.int .i64 0) := by simp [World.cell?, hO3a]
  have z3_4 : w3.frozen? ⟨G + 1 + 1, 4, none⟩ = false := by simp [World.frozen?, hO3a]
  obtain ⟨V3, hV3⟩ : ∃ V, V = (w3.setCell ⟨G + 1 + 1, 3, none⟩ (.slice (some ⟨g3, 0, none⟩) n.delays.length n.delays.length)).setCell ⟨G + 1 + 1, 4, none⟩ (.int .i64 n.maxAge) := ⟨_, rfl⟩
  replace hSf := mkHid (show Soft G V3 by rw [hV3]; exact ((hSf.out.set _ _ _).set _ _ _))
  have hgr3 : w3.grownBy V3 (some (G + 1 + 1)) := by rw [hV3]; exact grG_trans (grG_set _ _ _ _) (grG_set _ _ _ _)
  have hP3 := (hgr3.block G (by omega) (by simp; omega)).trans hP3a
  have hR3 := (hgr3.block (G + 1) (by omega) (by simp)).trans hR3a
  have hO3 : V3.heap[G + 1 + 1]? = some (.cells #[.string n.locF, .slice (some ⟨g1, 0, none⟩) n.aliases.length n.aliases.length, .slice (some ⟨g2, 0, none⟩) n.mx.length n.mx.length, .slice (some ⟨g3, 0, none⟩) n.delays.length n.delays.length, .int .i64 n.maxAge] 32 (0, 0)) := by rw [hV3]; simp [World.setCell, Array.getElem?_modify, hO3a]
  have hs3 : G + 3 ≤ V3.heap.size := Nat.le_trans (Nat.le_trans hs2 hw3s) hgr3.size
  have hb3 : Below G w V3 := (hb2.trans (hw3.mono (by omega))).grown hgr3 (by omega) (fun k hk => by cases hk; omega)
  have hT1 := mkHid (((hT1.out.below hw3 (Nat.le_refl _)).mono (Nat.le_refl _) hw3s |>.same (Same.gr hgr3 (by omega) (Nat.le_refl _))).mono (Nat.le_refl _) hgr3.size)
  have hT2 := mkHid (((hT2.out.below hw3 (Nat.le_refl _)).mono (Nat.le_refl _) hw3s |>.same (Same.gr hgr3 (by omega) (Nat.le_refl _))).mono (Nat.le_refl _) hgr3.size)
  replace hT3 := mkHid ((hT3.out.same (Same.gr hgr3 (by omega) (Nat.le_refl _))).mono (show G + 3 ≤ _ by omega) hgr3.size)
  replace hV3 := mkHid hV3
  have HV3 := hV3
  clear hP3a hR3a hO3a hP2 hR2 hO2 hw3 HV2 hgr3 hb2
  clear hs2 hg3 hw3s
  have hgz := grown_setRow V3 (G + 1) #[.string n.locF, .slice (some ⟨g1, 0, none⟩) n.aliases.length n.aliases.length, .slice (some ⟨g2, 0, none⟩) n.mx.length n.mx.length, .slice (some ⟨g3, 0, none⟩) n.delays.length n.delays.length, .int .i64 n.maxAge]
  have hSz := mkHid (hSf.out.setRow (G + 1) #[.string n.locF, .slice (some ⟨g1, 0, none⟩) n.aliases.length n.aliases.length, .slice (some ⟨g2, 0, none⟩) n.mx.length n.mx.length, .slice (some ⟨g3, 0, none⟩) n.delays.length n.delays.length, .int .i64 n.maxAge])
  clear hSf
  have hbz := mkHid (hb3.grown hgz (by omega) (fun k hk => by cases hk; omega))
  replace hT1 := mkHid ((hT1.out.same (Same.gr hgz (by omega) (Nat.le_refl _))).mono (show G ≤ _ by omega) hgz.size)
  replace hT2 := mkHid ((hT2.out.same (Same.gr hgz (by omega) (Nat.le_refl _))).mono (show G ≤ _ by omega) hgz.size)
  replace hT3 := mkHid ((hT3.out.same (Same.gr hgz (by omega) (Nat.le_refl _))).mono (show G ≤ _ by omega) hgz.size)
  rw [HV3.out] at hT1 hT2 hT3 hbz hSz hO3 hR3
  clear hgz HV3 hV3 hb3 hP3 hs3
  go_wp2_with (first | (refine wpL_load_row rfl 32 _ rfl (G + 1 + 1) _ 32 (0, 0) _ rfl hO3 Tryd.underlying32 rfl (by kernel_rfl) ?_) | (refine wpL_store_row rfl 32 _ _ rfl (G + 1) _ rfl rfl 32 _ hR3 (by kernel_rfl) rfl (by simp [Value.oneCell']) ?_) | go_in)
  refine bodyPost_ret (v := .agg #[.string n.locF, .slice (some ⟨g1, 0, none⟩) n.aliases.length n.aliases.length, .slice (some ⟨g2, 0, none⟩) n.mx.length n.mx.length, .slice (some ⟨g3, 0, none⟩) n.delays.length n.delays.length, .int .i64 n.maxAge]) (results_cell_row Tryd.results6 _ _ (G + 1) 32 _ (0, 0) _ rfl (setRow_heap _ _ _ _ _ _ hR3) Tryd.underlying32 rfl (by kernel_rfl)) rfl ?_
  rw [hG]
  exact ⟨_, _, _, rfl, ⟨⟨_, _, rfl, hT1.out⟩, ⟨_, _, rfl, hT2.out⟩, ⟨_, _, rfl, hT3.out⟩⟩, hbz.out, hSz⟩
theorem lawToQueueConfig (n : GQueueConfig) (u1 : Value) (u2 : Value) (u3 : Value) (lo : Nat) (w : World) (hI : GQueueConfigIn lo w.heap.size w n u1 u2 u3) (hf : n.fits 1048576) :
    Calls Tryd.prog 6 #[GQueueConfigV n u1 u2 u3] w fun e w' => ∃ v1 v2 v3 : Value, e = .returned (GQueueConfigV n v1 v2 v3) ∧ Hid (GQueueConfigIn w.heap.size w'.heap.size w' n v1 v2 v3) ∧ Below w.heap.size w w' :=
  (lawToXQueueConfig n u1 u2 u3 lo w hI hf).mono fun _ _ ⟨v1, v2, v3, h1, h2, h3, _⟩ => ⟨v1, v2, v3, h1, h2, h3⟩
set_option maxHeartbeats 1000000 in
theorem lawEqQueueConfig (n : GQueueConfig) (v1 v2 v3 : Value) (u1 u2 u3 : Value) (lo lo' : Nat) (w : World) (hI : GQueueConfigIn lo w.heap.size w n v1 v2 v3) (hJ : GQueueConfigIn lo' w.heap.size w n u1 u2 u3) (hf : n.fits 1048576) :
    Calls Tryd.prog 8 #[GQueueConfigV n v1 v2 v3, GQueueConfigV n u1 u2 u3] w fun e w' => e = .returned (.bool true) ∧ Below w.heap.size w w' := by
  obtain ⟨⟨a1, c1, rfl, t1⟩, ⟨a2, c2, rfl, t2⟩, ⟨a3, c3, rfl, t3⟩⟩ := hI
  obtain ⟨⟨b1, d1, rfl, s1⟩, ⟨b2, d2, rfl, s2⟩, ⟨b3, d3, rfl, s3⟩⟩ := hJ
  obtain ⟨f0_0, f1_0, f1_1, f2_0, f2_1, f3_0⟩ := hf
  have H1 := mkHid fun (w' : World) (hb : Below w.heap.size w w') => lawEqSAlias a1 b1 n.aliases c1 d1 lo lo' w' ((t1.below hb (Nat.le_refl _)).mono (Nat.le_refl _) hb.size) ((s1.below hb (Nat.le_refl _)).mono (Nat.le_refl _) hb.size) f1_0 f1_1
  have H2 := mkHid fun (w' : World) (hb : Below w.heap.size w w') => lawEqSMx a2 b2 n.mx c2 d2 lo lo' w' ((t2.below hb (Nat.le_refl _)).mono (Nat.le_refl _) hb.size) ((s2.below hb (Nat.le_refl _)).mono (Nat.le_refl _) hb.size) f2_0 f2_1
  have H3 := mkHid fun (w' : World) (hb : Below w.heap.size w w') => lawEqSInt a3 b3 n.delays c3 d3 lo lo' w' ((t3.below hb (Nat.le_refl _)).mono (Nat.le_refl _) hb.size) ((s3.below hb (Nat.le_refl _)).mono (Nat.le_refl _) hb.size) f3_0
  clear f0_0 f1_0 f1_1 f2_0 f2_1 f3_0 t1 s1 t2 s2 t3 s3
  unfold GQueueConfigV
  obtain ⟨W0, hW⟩ : ∃ W, W = (w.alloc (.cells #[.string n.locF, .slice a1 n.aliases.length c1, .slice a2 n.mx.length c2, .slice a3 n.delays.length c3, .int .i64 n.maxAge] 32)).alloc (.cells #[.string n.locF, .slice b1 n.aliases.length d1, .slice b2 n.mx.length d2, .slice b3 n.delays.length d3, .int .i64 n.maxAge] 32) := ⟨_, rfl⟩
  obtain ⟨hb0, hs0, hA0, hB0⟩ := two_blocks hW
  have HW := mkHid hW
  clear hW
  go_enter Tryd.func8, Tryd.ntmps8
  go_wp2_with fail
  rw [← HW.out]
  refine (H1.out W0 hb0).mono ?_
  rintro e W1 ⟨rfl, hw1⟩
  have hw1s := hw1.size
  have hA1 := (hw1.block w.heap.size (by omega)).trans hA0
  have hB1 := (hw1.block (w.heap.size + 1) (by omega)).trans hB0
  have hb1 := hb0.trans (hw1.mono (by omega))
  have hs1 : w.heap.size + 2 ≤ W1.heap.size := Nat.le_trans hs0 hw1s
  have p1_2 : W1.cell? ⟨w.heap.size, 2, none⟩ = some (.slice a2 n.mx.length c2) := by simp [World.cell?, hA1]
  have q1_2 : W1.cell? ⟨w.heap.size + 1, 2, none⟩ = some (.slice b2 n.mx.length d2) := by simp [World.cell?, hB1]
  clear hA0 hB0 hw1 hs0 hb0 hw1s HW
  go_wp2_with fail
  refine (H2.out W1 hb1).mono ?_
  rintro e W2 ⟨rfl, hw2⟩
  have hw2s := hw2.size
  have hA2 := (hw2.block w.heap.size (by omega)).trans hA1
  have hB2 := (hw2.block (w.heap.size + 1) (by omega)).trans hB1
  have hb2 := hb1.trans (hw2.mono (by omega))
  have hs2 : w.heap.size + 2 ≤ W2.heap.size := Nat.le_trans hs1 hw2s
  have p2_3 : W2.cell? ⟨w.heap.size, 3, none⟩ = some (.slice a3 n.delays.length c3) := by simp [World.cell?, hA2]
  have q2_3 : W2.cell? ⟨w.heap.size + 1, 3, none⟩ = some (.slice b3 n.delays.length d3) := by simp [World.cell?, hB2]
  clear hA1 hB1 hw2 hs1 hb1 hw2s
  clear p1_2 q1_2
  go_wp2_with fail
  refine (H3.out W2 hb2).mono ?_
  rintro e W3 ⟨rfl, hw3⟩
  have hw3s := hw3.size
  have hA3 := (hw3.block w.heap.size (by omega)).trans hA2
  have hB3 := (hw3.block (w.heap.size + 1) (by omega)).trans hB2
  have hb3 := hb2.trans (hw3.mono (by omega))
  have hs3 : w.heap.size + 2 ≤ W3.heap.size := Nat.le_trans hs2 hw3s
  have p3_4 : W3.cell? ⟨w.heap.size, 4, none⟩ = some (.int .i64 n.maxAge) := by simp [World.cell?, hA3]
  have q3_4 : W3.cell? ⟨w.heap.size + 1, 4, none⟩ = some (.int .i64 n.maxAge) := by simp [World.cell?, hB3]
  clear hA2 hB2 hw3 hs2 hb2 hw3s
  clear hA3 hB3 hs3
  clear p2_3 q2_3
  go_wp2
  go_ret
  exact ⟨rfl, hb3⟩
end Go.Proofs.YteiokojdbblcdaaDoor
