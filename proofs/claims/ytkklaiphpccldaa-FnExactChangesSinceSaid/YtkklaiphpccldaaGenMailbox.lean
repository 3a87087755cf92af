
/- Mailbox: as the law has it and as the program has it; handed in, made anew, held against one another. (By tools/gen/structs.py.) -/
import Derived.Test.YtkklaiphpccldaaGenMail
namespace Go.Proofs.Ytkklaiphpccldaa
open Go.RowKit Go.Lib Go.Maps
structure GMailbox where
  name : ByteArray
  validity : Int
  nextUid : Int
  topMod : Int
  mails : List GMail
  gones : List GGone
def GMailboxV (n : GMailbox) (v4 v5 : Value) : Value := .agg #[.string n.name, .int .i64 n.validity, .int .i64 n.nextUid, .int .i64 n.topMod, v4, v5]
def GMailbox.fits (n : GMailbox) (m : Nat) : Prop := n.name.size ≤ m ∧ n.mails.length ≤ m ∧ (∀ x ∈ n.mails, x.fits m) ∧ n.gones.length ≤ m ∧ (∀ x ∈ n.gones, x.fits m)
structure GMailboxIn (lo hi : Nat) (w : World) (n : GMailbox) (v4 v5 : Value) : Prop where
  s4 : ∃ a c, v4 = .slice a n.mails.length c ∧ GMailsL lo hi w a n.mails
  s5 : ∃ a c, v5 = .slice a n.gones.length c ∧ GGonesL lo hi w a n.gones
theorem GMailboxIn.same {lo hi : Nat} {w w' : World} {n : GMailbox} {v4 v5 : Value} (h : GMailboxIn lo hi w n v4 v5) (hs : Same lo hi w w') : GMailboxIn lo hi w' n v4 v5 := by
  obtain ⟨⟨a4, c4, e4, t4⟩, ⟨a5, c5, e5, t5⟩⟩ := h
  exact ⟨⟨a4, c4, e4, t4.same hs⟩, ⟨a5, c5, e5, t5.same hs⟩⟩
theorem GMailboxIn.mono {lo lo' hi hi' : Nat} {w : World} {n : GMailbox} {v4 v5 : Value} (h : GMailboxIn lo hi w n v4 v5) (hl : lo' ≤ lo) (hh : hi ≤ hi') : GMailboxIn lo' hi' w n v4 v5 := by
  obtain ⟨⟨a4, c4, e4, t4⟩, ⟨a5, c5, e5, t5⟩⟩ := h
  exact ⟨⟨a4, c4, e4, t4.mono hl hh⟩, ⟨a5, c5, e5, t5.mono hl hh⟩⟩
structure GMailboxAt (w : World) (A : Addr) (n : GMailbox) (v4 v5 : Value) : Prop where
  c0 : w.cell? A = some (.string n.name)
  c1 : w.cell? ⟨A.block, A.off + 1, none⟩ = some (.int .i64 n.validity)
  c2 : w.cell? ⟨A.block, A.off + 2, none⟩ = some (.int .i64 n.nextUid)
  c3 : w.cell? ⟨A.block, A.off + 3, none⟩ = some (.int .i64 n.topMod)
  c4 : w.cell? ⟨A.block, A.off + 4, none⟩ = some (v4)
  c5 : w.cell? ⟨A.block, A.off + 5, none⟩ = some (v5)
theorem GMailboxAt.same {lo hi : Nat} {w w' : World} {A : Addr} {n : GMailbox} {v4 v5 : Value} (h : GMailboxAt w A n v4 v5) (hs : Same lo hi w w') (h1 : lo ≤ A.block) (h2 : A.block < hi) : GMailboxAt w' A n v4 v5 :=
  ⟨(hs.cell h1 h2).trans h.c0, (hs.cell (p := ⟨A.block, A.off + 1, none⟩) h1 h2).trans h.c1, (hs.cell (p := ⟨A.block, A.off + 2, none⟩) h1 h2).trans h.c2, (hs.cell (p := ⟨A.block, A.off + 3, none⟩) h1 h2).trans h.c3, (hs.cell (p := ⟨A.block, A.off + 4, none⟩) h1 h2).trans h.c4, (hs.cell (p := ⟨A.block, A.off + 5, none⟩) h1 h2).trans h.c5⟩
def GMailboxsL (lo hi : Nat) (w : World) (o : Option Addr) (F : List GMailbox) : Prop := ∀ i (h : i < F.length), ∃ a v4 v5, o = some a ∧ lo ≤ a.block ∧ a.block < hi ∧ GMailboxAt w (a.add (i * 6)) F[i] v4 v5 ∧ GMailboxIn lo hi w F[i] v4 v5
theorem GMailboxsL.same {lo hi : Nat} {w w' : World} {o : Option Addr} {F : List GMailbox} (h : GMailboxsL lo hi w o F) (hs : Same lo hi w w') : GMailboxsL lo hi w' o F := by
  intro i hi
  obtain ⟨a, v4, v5, ho, h1, h2, h3, h4⟩ := h i hi
  exact ⟨a, v4, v5, ho, h1, h2, h3.same hs (by rw [add_blockG]; exact h1) (by rw [add_blockG]; exact h2), h4.same hs⟩
theorem GMailboxsL.mono {lo lo' hi hi' : Nat} {w : World} {o : Option Addr} {F : List GMailbox} (h : GMailboxsL lo hi w o F) (hl : lo' ≤ lo) (hh : hi ≤ hi') : GMailboxsL lo' hi' w o F := by
  intro i hi
  obtain ⟨a, v4, v5, ho, h1, h2, h3, h4⟩ := h i hi
  exact ⟨a, v4, v5, ho, Nat.le_trans hl h1, Nat.lt_of_lt_of_le h2 hh, h3, h4.mono hl hh⟩
theorem GMailboxsL.below {lo hi B : Nat} {w w' : World} {o : Option Addr} {F : List GMailbox} (h : GMailboxsL lo hi w o F) (hb : Below B w w') (hB : hi ≤ B) : GMailboxsL lo hi w' o F := h.same (Same.of_below hb hB)
set_option maxHeartbeats 1000000 in
theorem lawSzMailbox (n : GMailbox) (v4 v5 : Value) (left lo : Nat) (w : World) (hI : GMailboxIn lo w.heap.size w n v4 v5) (hf : n.fits maxLen) (hl : left ≤ 1048576) :
    Calls Try.prog 4 #[GMailboxV n v4 v5, .int .i64 left] w fun e w' => ∃ r : Int, e = .returned (.int .i64 r) ∧ Hid (r = -1 ∨ ∃ m : Nat, r = m ∧ m ≤ left ∧ n.fits 1048576) ∧ Below w.heap.size w w' := by
  obtain ⟨⟨a4, c4, rfl, t4⟩, ⟨a5, c5, rfl, t5⟩⟩ := hI
  obtain ⟨f0_0, f4_0, f4_1, f5_0, f5_1⟩ := hf
  have H4 := mkHid fun (w' : World) (hb : Below w.heap.size w w') (m : Nat) (hm : m ≤ 1048576) => lawSzSMail a4 n.mails c4 m lo w' ((t4.below hb (Nat.le_refl _)).mono (Nat.le_refl _) hb.size) f4_0 f4_1 hm
  have H5 := mkHid fun (w' : World) (hb : Below w.heap.size w w') (m : Nat) (hm : m ≤ 1048576) => lawSzSGone a5 n.gones c5 m lo w' ((t5.below hb (Nat.le_refl _)).mono (Nat.le_refl _) hb.size) f5_0 f5_1 hm
  unfold GMailboxV
  unfold maxLen at f0_0
  clear f4_0 f4_1 t4 f5_0 f5_1 t5
  obtain ⟨W, hW⟩ : ∃ W, W = w.alloc (.cells #[.string n.name, .int .i64 n.validity, .int .i64 n.nextUid, .int .i64 n.topMod, .slice a4 n.mails.length c4, .slice a5 n.gones.length c5] 25) := ⟨_, rfl⟩
  have hbW : Below w.heap.size w W := by rw [hW]; exact (Below.refl _ _).alloc (Nat.le_refl _) _
  have hWs : w.heap.size < W.heap.size := by rw [hW]; simp
  have q0_5 : W.cell? ⟨w.heap.size, 5, none⟩ = some (.slice a5 n.gones.length c5) := by rw [hW]; simp
  have HW := mkHid hW
  clear hW
  by_cases h0 : left < n.name.size
  · go_enter Try.func4, Try.ntmps4
    go_wp2
    go_ret
    first | rw [← HW.out] | skip
    exact ⟨-1, rfl, .inl rfl, hbW⟩
  · obtain ⟨l0, h0a⟩ : ∃ l : Nat, left - n.name.size = l := ⟨_, rfl⟩
    have h0b : (left : Int) - (n.name.size : Int) = (l0 : Int) := by omega
    have h0c : l0 ≤ left := by omega
    have g0 : Hid (n.name.size ≤ 1048576) := by show _ ≤ _; omega
    clear h0a
    go_enter Try.func4, Try.ntmps4
    go_wp2_with fail
    rw [← HW.out]
    refine (H4.out W hbW l0 (by omega)).mono ?_
    rintro e w1 ⟨r1, rfl, hr1, hb1⟩
    have q1_5 := (hb1.cell (p := ⟨w.heap.size, 5, none⟩) hWs).trans q0_5
    have hz1 : w.heap.size < w1.heap.size := Nat.lt_of_lt_of_le hWs hb1.size
    have hbw1 := hbW.trans (hb1.mono (Nat.le_of_lt hWs))
    clear hb1 HW q0_5
    rcases hr1.out with rfl | ⟨m1, rfl, hm1, hf1⟩
    · clear hr1
      go_wp2
      go_ret
      exact ⟨-1, rfl, .inl rfl, hbw1⟩
    · replace hf1 := mkHid hf1
      clear hr1
      go_wp2_with fail
      refine (H5.out w1 hbw1 m1 (by omega)).mono ?_
      rintro e w2 ⟨r2, rfl, hr2, hb2⟩
      have hz2 : w.heap.size < w2.heap.size := Nat.lt_of_lt_of_le hz1 hb2.size
      have hbw2 := hbw1.trans (hb2.mono (Nat.le_of_lt hz1))
      clear hb2 q1_5
      rcases hr2.out with rfl | ⟨m2, rfl, hm2, hf2⟩
      · clear hr2
        go_wp2
        go_ret
        exact ⟨-1, rfl, .inl rfl, hbw2⟩
      · replace hf2 := mkHid hf2
        clear hr2
        go_wp2
        go_ret
        exact ⟨_, rfl, .inr ⟨m2, rfl, by omega, g0.out, hf1.out.1, hf1.out.2, hf2.out.1, hf2.out.2⟩, hbw2⟩
set_option maxHeartbeats 4000000 in
set_option maxRecDepth 20000 in
theorem lawToXMailbox (n : GMailbox) (u4 : Value) (u5 : Value) (lo : Nat) (w : World) (hI : GMailboxIn lo w.heap.size w n u4 u5) (hf : n.fits 1048576) :
    Calls Try.prog 6 #[GMailboxV n u4 u5] w fun e w' => ∃ v4 v5 : Value, e = .returned (GMailboxV n v4 v5) ∧ Hid (GMailboxIn w.heap.size w'.heap.size w' n v4 v5) ∧ Below w.heap.size w w' ∧ Hid (Soft w.heap.size w') := by
  obtain ⟨⟨a4, c4, rfl, t4⟩, ⟨a5, c5, rfl, t5⟩⟩ := hI
  obtain ⟨f0_0, f4_0, f4_1, f5_0, f5_1⟩ := hf
  have H4 := mkHid fun (w' : World) (hb : Below w.heap.size w w') => lawToSXMail a4 n.mails c4 lo w' ((t4.below hb (Nat.le_refl _)).mono (Nat.le_refl _) hb.size) f4_0 f4_1
  have H5 := mkHid fun (w' : World) (hb : Below w.heap.size w w') => lawToSXGone a5 n.gones c5 lo w' ((t5.below hb (Nat.le_refl _)).mono (Nat.le_refl _) hb.size) f5_0 f5_1
  clear f0_0 f4_0 f4_1 f5_0 f5_1 t4 t5
  obtain ⟨G, hG⟩ : ∃ G, w.heap.size = G := ⟨_, rfl⟩
  obtain ⟨V0, hV0⟩ : ∃ W, W = ((w.alloc (.cells #[.string n.name, .int .i64 n.validity, .int .i64 n.nextUid, .int .i64 n.topMod, .slice a4 n.mails.length c4, .slice a5 n.gones.length c5] 25)).alloc (.cells #[.string ⟨#[]⟩, .int .i64 0, .int .i64 0, .int .i64 0, .slice none 0 0, .slice none 0 0] 34)).alloc (.cells #[.string n.name, .int .i64 n.validity, .int .i64 n.nextUid, .int .i64 n.topMod, .slice none 0 0, .slice none 0 0] 34) := ⟨_, rfl⟩
  obtain ⟨hb0, hs0, hP0, hR0, hO0⟩ := three_blocks hG hV0
  have hSf := mkHid (show Soft G V0 by rw [hV0, ← hG]; exact (((Soft.refl _).alloc _ _).alloc _ _).alloc _ _)
  have HV0 := mkHid hV0
  clear hV0
  have hG' := mkHid hG
  unfold GMailboxV
  go_enter Try.func6, Try.ntmps6
  go_wp2_with fail
  rw [← HV0.out]
  refine (H4.out V0 (by rw [hG]; exact hb0)).mono ?_
  rintro e w1 ⟨rfl, hT4, hw1, hsf1⟩
  replace hSf := mkHid (hSf.out.call hw1 hsf1.out)
  obtain ⟨g4, hg4⟩ : ∃ g, V0.heap.size = g := ⟨_, rfl⟩
  rw [hg4] at hT4 hw1 hs0 ⊢
  have hw1s := hw1.size
  rw [hg4] at hw1s
  have hP1a := (hw1.block G (by omega)).trans hP0
  have hR1a := (hw1.block (G + 1) (by omega)).trans hR0
  have hO1a := (hw1.block (G + 1 + 1) (by omega)).trans hO0
  have p1_5 : w1.cell? ⟨G, 5, none⟩ = some (.slice a5 n.gones.length c5) := by simp [World.cell?, hP1a]
  have x1_4 : w1.cell? ⟨G + 1 + 1, 4, none⟩ = some (.slice none 0 0) := by simp [World.cell?, hO1a]
  have z1_4 : w1.frozen? ⟨G + 1 + 1, 4, none⟩ = false := by simp [World.frozen?, hO1a]
  obtain ⟨V1, hV1⟩ : ∃ V, V = w1.setCell ⟨G + 1 + 1, 4, none⟩ (.slice (some ⟨g4, 0, none⟩) n.mails.length n.mails.length) := ⟨_, rfl⟩
  replace hSf := mkHid (show Soft G V1 by rw [hV1]; exact (hSf.out.set _ _ _))
  have hgr1 : w1.grownBy V1 (some (G + 1 + 1)) := by rw [hV1]; exact grG_set _ _ _ _
  have hP1 := (hgr1.block G (by omega) (by simp; omega)).trans hP1a
  have hR1 := (hgr1.block (G + 1) (by omega) (by simp)).trans hR1a
  have hO1 : V1.heap[G + 1 + 1]? = some (.cells #[.string n.name, .int .i64 n.validity, .int .i64 n.nextUid, .int .i64 n.topMod, .slice (some ⟨g4, 0, none⟩) n.mails.length n.mails.length, .slice none 0 0] 34 (0, 0)) := by rw [hV1]; simp [World.setCell, Array.getElem?_modify, hO1a]
  have hs1 : G + 3 ≤ V1.heap.size := Nat.le_trans (Nat.le_trans hs0 hw1s) hgr1.size
  have hb1 : Below G w V1 := (hb0.trans (hw1.mono (by omega))).grown hgr1 (by omega) (fun k hk => by cases hk; omega)
  replace hT4 := mkHid ((hT4.out.same (Same.gr hgr1 (by omega) (Nat.le_refl _))).mono (show G + 3 ≤ _ by omega) hgr1.size)
  replace hV1 := mkHid hV1
  have HV1 := hV1
  clear hP1a hR1a hO1a hP0 hR0 hO0 hw1 HV0 hgr1 hb0
  clear hs0 hg4 hw1s
  go_wp2_with fail
  rw [← HV1.out]
  refine (H5.out V1 (by rw [hG]; exact hb1)).mono ?_
  rintro e w2 ⟨rfl, hT5, hw2, hsf2⟩
  clear x1_4 z1_4 p1_5
  replace hSf := mkHid (hSf.out.call hw2 hsf2.out)
  obtain ⟨g5, hg5⟩ : ∃ g, V1.heap.size = g := ⟨_, rfl⟩
  rw [hg5] at hT5 hw2 hs1 ⊢
  rw [hg5] at hT4
  have hw2s := hw2.size
  rw [hg5] at hw2s
  have hP2a := (hw2.block G (by omega)).trans hP1
  have hR2a := (hw2.block (G + 1) (by omega)).trans hR1
  have hO2a := (hw2.block (G + 1 + 1) (by omega)).trans hO1
  have x2_5 : w2.cell? ⟨G + 1 + 1, 5, none⟩ = some (.slice none 0 0) := by simp [World.cell?, hO2a]
  have z2_5 : w2.frozen? ⟨G + 1 + 1, 5, none⟩ = false := by simp [World.frozen?, hO2a]
  obtain ⟨V2, hV2⟩ : ∃ V, V = w2.setCell ⟨G + 1 + 1, 5, none⟩ (.slice (some ⟨g5, 0, none⟩) n.gones.length n.gones.length) := ⟨_, rfl⟩
  replace hSf := mkHid (show Soft G V2 by rw [hV2]; exact (hSf.out.set _ _ _))
  have hgr2 : w2.grownBy V2 (some (G + 1 + 1)) := by rw [hV2]; exact grG_set _ _ _ _
  have hP2 := (hgr2.block G (by omega) (by simp; omega)).trans hP2a
  have hR2 := (hgr2.block (G + 1) (by omega) (by simp)).trans hR2a
  have hO2 : V2.heap[G + 1 + 1]? = some (.cells #[.string n.name, .int .i64 n.validity, .int .i64 n.nextUid, .int .i64 n.topMod, .slice (some ⟨g4, 0, none⟩) n.mails.length n.mails.length, .slice (some ⟨g5, 0, none⟩) n.gones.length n.gones.length] 34 (0, 0)) := by rw [hV2]; simp [World.setCell, Array.getElem?_modify, hO2a]
  have hs2 : G + 3 ≤ V2.heap.size := Nat.le_trans (Nat.le_trans hs1 hw2s) hgr2.size
  have hb2 : Below G w V2 := (hb1.trans (hw2.mono (by omega))).grown hgr2 (by omega) (fun k hk => by cases hk; omega)
  have hT4 := mkHid (((hT4.out.below hw2 (Nat.le_refl _)).mono (Nat.le_refl _) hw2s |>.same (Same.gr hgr2 (by omega) (Nat.le_refl _))).mono (Nat.le_refl _) hgr2.size)
  replace hT5 := mkHid ((hT5.out.same (Same.gr hgr2 (by omega) (Nat.le_refl _))).mono (show G + 3 ≤ _ by omega) hgr2.size)
  replace hV2 := mkHid hV2
  have HV2 := hV2
  clear hP2a hR2a hO2a hP1 hR1 hO1 hw2 HV1 hgr2 hb1
  clear hs1 hg5 hw2s
  have hgz := grown_setRow V2 (G + 1) #[.string n.name, .int .i64 n.validity, .int .i64 n.nextUid, .int .i64 n.topMod, .slice (some ⟨g4, 0, none⟩) n.mails.length n.mails.length, .slice (some ⟨g5, 0, none⟩) n.gones.length n.gones.length]
  have hSz := mkHid (hSf.out.setRow (G + 1) #[.string n.name, .int .i64 n.validity, .int .i64 n.nextUid, .int .i64 n.topMod, .slice (some ⟨g4, 0, none⟩) n.mails.length n.mails.length, .slice (some ⟨g5, 0, none⟩) n.gones.length n.gones.length])
  clear hSf
  have hbz := mkHid (hb2.grown hgz (by omega) (fun k hk => by cases hk; omega))
  replace hT4 := mkHid ((hT4.out.same (Same.gr hgz (by omega) (Nat.le_refl _))).mono (show G ≤ _ by omega) hgz.size)
  replace hT5 := mkHid ((hT5.out.same (Same.gr hgz (by omega) (Nat.le_refl _))).mono (show G ≤ _ by omega) hgz.size)
  rw [HV2.out] at hT4 hT5 hbz hSz hO2 hR2
  clear hgz HV2 hV2 hb2 hP2 hs2
  go_wp2_with (first | (refine wpL_load_row rfl 34 _ rfl (G + 1 + 1) _ 34 (0, 0) _ rfl hO2 Try.underlying34 rfl (by kernel_rfl) ?_) | (refine wpL_store_row rfl 34 _ _ rfl (G + 1) _ rfl rfl 34 _ hR2 (by kernel_rfl) rfl (by simp [Value.oneCell']) ?_) | go_in)
  refine bodyPost_ret (v := .agg #[.string n.name, .int .i64 n.validity, .int .i64 n.nextUid, .int .i64 n.topMod, .slice (some ⟨g4, 0, none⟩) n.mails.length n.mails.length, .slice (some ⟨g5, 0, none⟩) n.gones.length n.gones.length]) (results_cell_row Try.results6 _ _ (G + 1) 34 _ (0, 0) _ rfl (setRow_heap _ _ _ _ _ _ hR2) Try.underlying34 rfl (by kernel_rfl)) rfl ?_
  rw [hG]
  exact ⟨_, _, rfl, ⟨⟨_, _, rfl, hT4.out⟩, ⟨_, _, rfl, hT5.out⟩⟩, hbz.out, hSz⟩
theorem lawToMailbox (n : GMailbox) (u4 : Value) (u5 : Value) (lo : Nat) (w : World) (hI : GMailboxIn lo w.heap.size w n u4 u5) (hf : n.fits 1048576) :
    Calls Try.prog 6 #[GMailboxV n u4 u5] w fun e w' => ∃ v4 v5 : Value, e = .returned (GMailboxV n v4 v5) ∧ Hid (GMailboxIn w.heap.size w'.heap.size w' n v4 v5) ∧ Below w.heap.size w w' :=
  (lawToXMailbox n u4 u5 lo w hI hf).mono fun _ _ ⟨v4, v5, h1, h2, h3, _⟩ => ⟨v4, v5, h1, h2, h3⟩
structure GMailboxL (f : Nat → Value) (j : Nat) (n : GMailbox) (v4 v5 : Value) : Prop where
  c0 : f (j * 6) = .string n.name
  c1 : f (j * 6 + 1) = .int .i64 n.validity
  c2 : f (j * 6 + 2) = .int .i64 n.nextUid
  c3 : f (j * 6 + 3) = .int .i64 n.topMod
  c4 : f (j * 6 + 4) = v4
  c5 : f (j * 6 + 5) = v5
def GMailboxSet (w : World) (g k : Nat) (n : GMailbox) (v4 v5 : Value) : World := ((((((w.setCell ⟨g, k * 6, none⟩ (.string n.name)).setCell ⟨g, k * 6 + 1, none⟩ (.int .i64 n.validity)).setCell ⟨g, k * 6 + 2, none⟩ (.int .i64 n.nextUid)).setCell ⟨g, k * 6 + 3, none⟩ (.int .i64 n.topMod)).setCell ⟨g, k * 6 + 4, none⟩ (v4)).setCell ⟨g, k * 6 + 5, none⟩ (v5))
theorem GMailboxRow {w : World} {g t N : Nat} {f : Nat → Value} (h : w.rowIs g t N f) (k : Nat) (n : GMailbox) (v4 v5 : Value) :
    ∃ f', (GMailboxSet w g k n v4 v5).rowIs g t N f' ∧ GMailboxL f' k n v4 v5 ∧ ∀ (j : Nat) (m : GMailbox) (q4 q5 : Value), j ≠ k → GMailboxL f j m q4 q5 → GMailboxL f' j m q4 q5 := by
  refine ⟨_, ((((((h.set _ _).set _ _).set _ _).set _ _).set _ _).set _ _), ?_, ?_⟩
  · constructor <;> simp
  · intro j m q4 q5 hj hl
    obtain ⟨c0, c1, c2, c3, c4, c5⟩ := hl
    constructor <;> rw [if_neg (by omega), if_neg (by omega), if_neg (by omega), if_neg (by omega), if_neg (by omega), if_neg (by omega)] <;> assumption
theorem GMailboxGr (w : World) (g k : Nat) (n : GMailbox) (v4 v5 : Value) : w.grownBy (GMailboxSet w g k n v4 v5) (some g) := grG_trans (grG_trans (grG_trans (grG_trans (grG_trans (grG_set _ _ _ _) (grG_set _ _ _ _)) (grG_set _ _ _ _)) (grG_set _ _ _ _)) (grG_set _ _ _ _)) (grG_set _ _ _ _)
theorem Try.infoGMailbox : (Try.prog.info? 34).map (fun i => (i.zero, i.size, i.bytes)) = some (some (.agg #[.string ⟨#[]⟩, .int .i64 0, .int .i64 0, .int .i64 0, .slice none 0 0, .slice none 0 0]), 6, 88) := by kernel_rfl
set_option maxHeartbeats 1000000 in
theorem lawEqMailbox (n : GMailbox) (v4 v5 : Value) (u4 u5 : Value) (lo lo' : Nat) (w : World) (hI : GMailboxIn lo w.heap.size w n v4 v5) (hJ : GMailboxIn lo' w.heap.size w n u4 u5) (hf : n.fits 1048576) :
    Calls Try.prog 9 #[GMailboxV n v4 v5, GMailboxV n u4 u5] w fun e w' => e = .returned (.bool true) ∧ Below w.heap.size w w' := by
  obtain ⟨⟨a4, c4, rfl, t4⟩, ⟨a5, c5, rfl, t5⟩⟩ := hI
  obtain ⟨⟨b4, d4, rfl, s4⟩, ⟨b5, d5, rfl, s5⟩⟩ := hJ
  obtain ⟨f0_0, f4_0, f4_1, f5_0, f5_1⟩ := hf
  have H4 := mkHid fun (w' : World) (hb : Below w.heap.size w w') => lawEqSMail a4 b4 n.mails c4 d4 lo lo' w' ((t4.below hb (Nat.le_refl _)).mono (Nat.le_refl _) hb.size) ((s4.below hb (Nat.le_refl _)).mono (Nat.le_refl _) hb.size) f4_0 f4_1
  have H5 := mkHid fun (w' : World) (hb : Below w.heap.size w w') => lawEqSGone a5 b5 n.gones c5 d5 lo lo' w' ((t5.below hb (Nat.le_refl _)).mono (Nat.le_refl _) hb.size) ((s5.below hb (Nat.le_refl _)).mono (Nat.le_refl _) hb.size) f5_0 f5_1
  clear f0_0 f4_0 f4_1 f5_0 f5_1 t4 s4 t5 s5
  unfold GMailboxV
  obtain ⟨W0, hW⟩ : ∃ W, W = (w.alloc (.cells #[.string n.name, .int .i64 n.validity, .int .i64 n.nextUid, .int .i64 n.topMod, .slice a4 n.mails.length c4, .slice a5 n.gones.length c5] 34)).alloc (.cells #[.string n.name, .int .i64 n.validity, .int .i64 n.nextUid, .int .i64 n.topMod, .slice b4 n.mails.length d4, .slice b5 n.gones.length d5] 34) := ⟨_, rfl⟩
  obtain ⟨hb0, hs0, hA0, hB0⟩ := two_blocks hW
  have HW := mkHid hW
  clear hW
  go_enter Try.func9, Try.ntmps9
  go_wp2_with fail
  rw [← HW.out]
  refine (H4.out W0 hb0).mono ?_
  rintro e W1 ⟨rfl, hw1⟩
  have hw1s := hw1.size
  have hA1 := (hw1.block w.heap.size (by omega)).trans hA0
  have hB1 := (hw1.block (w.heap.size + 1) (by omega)).trans hB0
  have hb1 := hb0.trans (hw1.mono (by omega))
  have hs1 : w.heap.size + 2 ≤ W1.heap.size := Nat.le_trans hs0 hw1s
  have p1_5 : W1.cell? ⟨w.heap.size, 5, none⟩ = some (.slice a5 n.gones.length c5) := by simp [World.cell?, hA1]
  have q1_5 : W1.cell? ⟨w.heap.size + 1, 5, none⟩ = some (.slice b5 n.gones.length d5) := by simp [World.cell?, hB1]
  clear hA0 hB0 hw1 hs0 hb0 hw1s HW
  go_wp2_with fail
  refine (H5.out W1 hb1).mono ?_
  rintro e W2 ⟨rfl, hw2⟩
  have hw2s := hw2.size
  have hA2 := (hw2.block w.heap.size (by omega)).trans hA1
  have hB2 := (hw2.block (w.heap.size + 1) (by omega)).trans hB1
  have hb2 := hb1.trans (hw2.mono (by omega))
  have hs2 : w.heap.size + 2 ≤ W2.heap.size := Nat.le_trans hs1 hw2s
  clear hA1 hB1 hw2 hs1 hb1 hw2s
  clear hA2 hB2 hs2
  clear p1_5 q1_5
  go_wp2
  go_ret
  exact ⟨rfl, hb2⟩
end Go.Proofs.Ytkklaiphpccldaa
