
/- QueryNode: as the law has it and as the program has it; handed in, made anew, held against one another. (By tools/gen/structs.py.) -/
import Derived.Test.YtfaeckaeaeadeaaGreatDoorGenRange
namespace Go.Proofs.YtfaeckaeaeadeaaGreatDoor
open Go.RowKit Go.Lib Go.Maps
structure GQueryNode where
  kind : Int
  name : ByteArray
  text : ByteArray
  num : Int
  uids : List GRange
  kids : List Int
def GQueryNodeV (n : GQueryNode) (v4 v5 : Value) : Value := .agg #[.int .i64 n.kind, .string n.name, .string n.text, .int .i64 n.num, v4, v5]
def GQueryNode.fits (n : GQueryNode) (m : Nat) : Prop := n.name.size ≤ m ∧ n.text.size ≤ m ∧ n.uids.length ≤ m ∧ (∀ x ∈ n.uids, x.fits m) ∧ n.kids.length ≤ m
structure GQueryNodeIn (lo hi : Nat) (w : World) (n : GQueryNode) (v4 v5 : Value) : Prop where
  s4 : ∃ a c, v4 = .slice a n.uids.length c ∧ GRangesL lo hi w a n.uids
  s5 : ∃ a c, v5 = .slice a n.kids.length c ∧ InL lo hi w a n.kids
set_option maxRecDepth 20000 in
theorem GQueryNodeIn.same {lo hi : Nat} {w w' : World} {n : GQueryNode} {v4 v5 : Value} (h : GQueryNodeIn lo hi w n v4 v5) (hs : Same lo hi w w') : GQueryNodeIn lo hi w' n v4 v5 := by
  obtain ⟨⟨a4, c4, e4, t4⟩, ⟨a5, c5, e5, t5⟩⟩ := h
  exact ⟨⟨a4, c4, e4, t4.same hs⟩, ⟨a5, c5, e5, t5.same hs⟩⟩
set_option maxRecDepth 20000 in
theorem GQueryNodeIn.mono {lo lo' hi hi' : Nat} {w : World} {n : GQueryNode} {v4 v5 : Value} (h : GQueryNodeIn lo hi w n v4 v5) (hl : lo' ≤ lo) (hh : hi ≤ hi') : GQueryNodeIn lo' hi' w n v4 v5 := by
  obtain ⟨⟨a4, c4, e4, t4⟩, ⟨a5, c5, e5, t5⟩⟩ := h
  exact ⟨⟨a4, c4, e4, t4.mono hl hh⟩, ⟨a5, c5, e5, t5.mono hl hh⟩⟩
structure GQueryNodeAt (w : World) (A : Addr) (n : GQueryNode) (v4 v5 : Value) : Prop where
  c0 : w.cell? A = some (.int .i64 n.kind)
  c1 : w.cell? ⟨A.block, A.off + 1, none⟩ = some (.string n.name)
  c2 : w.cell? ⟨A.block, A.off + 2, none⟩ = some (.string n.text)
  c3 : w.cell? ⟨A.block, A.off + 3, none⟩ = some (.int .i64 n.num)
  c4 : w.cell? ⟨A.block, A.off + 4, none⟩ = some (v4)
  c5 : w.cell? ⟨A.block, A.off + 5, none⟩ = some (v5)
set_option maxRecDepth 20000 in
theorem GQueryNodeAt.same {lo hi : Nat} {w w' : World} {A : Addr} {n : GQueryNode} {v4 v5 : Value} (h : GQueryNodeAt w A n v4 v5) (hs : Same lo hi w w') (h1 : lo ≤ A.block) (h2 : A.block < hi) : GQueryNodeAt w' A n v4 v5 :=
  ⟨(hs.cell h1 h2).trans h.c0, (hs.cell (p := ⟨A.block, A.off + 1, none⟩) h1 h2).trans h.c1, (hs.cell (p := ⟨A.block, A.off + 2, none⟩) h1 h2).trans h.c2, (hs.cell (p := ⟨A.block, A.off + 3, none⟩) h1 h2).trans h.c3, (hs.cell (p := ⟨A.block, A.off + 4, none⟩) h1 h2).trans h.c4, (hs.cell (p := ⟨A.block, A.off + 5, none⟩) h1 h2).trans h.c5⟩
def GQueryNodesL (lo hi : Nat) (w : World) (o : Option Addr) (F : List GQueryNode) : Prop := ∀ i (h : i < F.length), ∃ a v4 v5, o = some a ∧ lo ≤ a.block ∧ a.block < hi ∧ GQueryNodeAt w (a.add (i * 6)) F[i] v4 v5 ∧ GQueryNodeIn lo hi w F[i] v4 v5
set_option maxRecDepth 20000 in
theorem GQueryNodesL.same {lo hi : Nat} {w w' : World} {o : Option Addr} {F : List GQueryNode} (h : GQueryNodesL lo hi w o F) (hs : Same lo hi w w') : GQueryNodesL lo hi w' o F := by
  intro i hi
  obtain ⟨a, v4, v5, ho, h1, h2, h3, h4⟩ := h i hi
  exact ⟨a, v4, v5, ho, h1, h2, h3.same hs (by rw [add_blockG]; exact h1) (by rw [add_blockG]; exact h2), h4.same hs⟩
set_option maxRecDepth 20000 in
theorem GQueryNodesL.mono {lo lo' hi hi' : Nat} {w : World} {o : Option Addr} {F : List GQueryNode} (h : GQueryNodesL lo hi w o F) (hl : lo' ≤ lo) (hh : hi ≤ hi') : GQueryNodesL lo' hi' w o F := by
  intro i hi
  obtain ⟨a, v4, v5, ho, h1, h2, h3, h4⟩ := h i hi
  exact ⟨a, v4, v5, ho, Nat.le_trans hl h1, Nat.lt_of_lt_of_le h2 hh, h3, h4.mono hl hh⟩
set_option maxRecDepth 20000 in
theorem GQueryNodesL.below {lo hi B : Nat} {w w' : World} {o : Option Addr} {F : List GQueryNode} (h : GQueryNodesL lo hi w o F) (hb : Below B w w') (hB : hi ≤ B) : GQueryNodesL lo hi w' o F := h.same (Same.of_below hb hB)
set_option maxRecDepth 20000 in
set_option maxHeartbeats 1000000 in
theorem lawSzQueryNode (n : GQueryNode) (v4 v5 : Value) (left lo : Nat) (w : World) (hI : GQueryNodeIn lo w.heap.size w n v4 v5) (hf : n.fits maxLen) (hl : left ≤ 1048576) :
    Calls Tryz.prog 9 #[GQueryNodeV n v4 v5, .int .i64 left] w fun e w' => ∃ r : Int, e = .returned (.int .i64 r) ∧ Hid (r = -1 ∨ ∃ m : Nat, r = m ∧ m ≤ left ∧ n.fits 1048576) ∧ Below w.heap.size w w' := by
  obtain ⟨⟨a4, c4, rfl, t4⟩, ⟨a5, c5, rfl, t5⟩⟩ := hI
  obtain ⟨f1_0, f2_0, f4_0, f4_1, f5_0⟩ := hf
  have H4 := mkHid fun (w' : World) (hb : Below w.heap.size w w') (m : Nat) (hm : m ≤ 1048576) => lawSzSRange a4 n.uids c4 m lo w' ((t4.below hb (Nat.le_refl _)).mono (Nat.le_refl _) hb.size) f4_0 f4_1 hm
  have H5 := mkHid fun (w' : World) (_ : Below w.heap.size w w') (m : Nat) (hm : m ≤ 1048576) => lawSzSInt a5 n.kids c5 m w' f5_0 hm
  unfold GQueryNodeV
  unfold maxLen at f1_0
  unfold maxLen at f2_0
  clear f4_0 f4_1 t4 f5_0 t5
  obtain ⟨W, hW⟩ : ∃ W, W = w.alloc (.cells #[.int .i64 n.kind, .string n.name, .string n.text, .int .i64 n.num, .slice a4 n.uids.length c4, .slice a5 n.kids.length c5] 33) := ⟨_, rfl⟩
  have hbW : Below w.heap.size w W := by rw [hW]; exact (Below.refl _ _).alloc (Nat.le_refl _) _
  have hWs : w.heap.size < W.heap.size := by rw [hW]; simp
  have q0_5 : W.cell? ⟨w.heap.size, 5, none⟩ = some (.slice a5 n.kids.length c5) := by rw [hW]; simp
  have HW := mkHid hW
  clear hW
  by_cases h1 : left < n.name.size
  · go_enter Tryz.func9, Tryz.ntmps9
    go_wp2
    go_ret
    first | rw [← HW.out] | skip
    exact ⟨-1, rfl, .inl rfl, hbW⟩
  · obtain ⟨l1, h1a⟩ : ∃ l : Nat, left - n.name.size = l := ⟨_, rfl⟩
    have h1b : (left : Int) - (n.name.size : Int) = (l1 : Int) := by omega
    have h1c : l1 ≤ left := by omega
    have g1 : Hid (n.name.size ≤ 1048576) := by show _ ≤ _; omega
    clear h1a
    by_cases h2 : l1 < n.text.size
    · go_enter Tryz.func9, Tryz.ntmps9
      go_wp2
      go_ret
      first | rw [← HW.out] | skip
      exact ⟨-1, rfl, .inl rfl, hbW⟩
    · obtain ⟨l2, h2a⟩ : ∃ l : Nat, l1 - n.text.size = l := ⟨_, rfl⟩
      have h2b : (l1 : Int) - (n.text.size : Int) = (l2 : Int) := by omega
      have h2c : l2 ≤ l1 := by omega
      have g2 : Hid (n.text.size ≤ 1048576) := by show _ ≤ _; omega
      clear h2a
      go_enter Tryz.func9, Tryz.ntmps9
      go_wp2_with fail
      rw [← HW.out]
      refine (H4.out W hbW l2 (by omega)).mono ?_
      rintro e w1 ⟨r1, rfl, hr1, hb1⟩
      have q1_5 := (hb1.cell (p := ⟨w.heap.size, 5, none⟩) hWs).trans q0_5
      have hz1 : w.heap.size < w1.heap.size := Nat.lt_of_lt_of_le hWs hb1.size
      have hbw1 := hbW.trans (hb1.mono (Nat.le_of_lt hWs))
      clear hb1 HW q0_5
      rcases hr1.out with rfl | ⟨m1, rfl, hm1, hf1⟩
      · clear hr1
        go_wp2
        go_ret
        exact ⟨-1, rfl, .inl rfl, hbw1⟩
      · replace hf1 := mkHid hf1
        clear hr1
        go_wp2_with fail
        refine (H5.out w1 hbw1 m1 (by omega)).mono ?_
        rintro e w2 ⟨r2, rfl, hr2, hb2⟩
        have hz2 : w.heap.size < w2.heap.size := Nat.lt_of_lt_of_le hz1 hb2.size
        have hbw2 := hbw1.trans (hb2.mono (Nat.le_of_lt hz1))
        clear hb2 q1_5
        rcases hr2.out with rfl | ⟨m2, rfl, hm2, hf2⟩
        · clear hr2
          go_wp2
          go_ret
          exact ⟨-1, rfl, .inl rfl, hbw2⟩
        · replace hf2 := mkHid hf2
          clear hr2
          go_wp2
          go_ret
          exact ⟨_, rfl, .inr ⟨m2, rfl, by omega, g1.out, g2.out, hf1.out.1, hf1.out.2, hf2.out⟩, hbw2⟩
set_option maxRecDepth 20000 in
set_option maxHeartbeats 1000000 in
theorem lawSzSQueryNode (o : Option Addr) (F : List GQueryNode) (cap left lo : Nat) (w : World) (hF : GQueryNodesL lo w.heap.size w o F) (hlen : F.length ≤ maxLen) (hsz : ∀ f ∈ F, f.fits maxLen) (hl : left ≤ 1048576) :
    Calls Tryz.prog 4 #[.slice o F.length cap, .int .i64 left] w fun e w' => ∃ r : Int, e = .returned (.int .i64 r) ∧ Hid (r = -1 ∨ ∃ m : Nat, r = m ∧ m ≤ left ∧ F.length ≤ 1048576 ∧ ∀ f ∈ F, f.fits 1048576) ∧ Below w.heap.size w w' := by
  unfold maxLen at hlen
  by_cases hn : left < F.length
  · clear hF hsz
    go_enter Tryz.func4, Tryz.ntmps4
    go_wp2
    go_ret
    exact ⟨-1, rfl, Or.inl rfl, Below.refl _ _⟩
  · obtain ⟨l0, hl0⟩ : ∃ l : Nat, left - F.length = l := ⟨_, rfl⟩
    have hl1 : (left : Int) - (F.length : Int) = (l0 : Int) := by omega
    have hl2 : l0 ≤ left := by omega
    have hl3 : F.length ≤ 1048576 := by omega
    have HF := mkHid hF
    have Hsz := mkHid hsz
    clear hF hsz hl0
    go_enter Tryz.func4, Tryz.ntmps4
    go_wp2
    clear hl1
    go_loopw [1, 5] (fun l i wr => ∃ (k m : Nat), k ≤ F.length ∧ i = .int .i64 k ∧ m ≤ left ∧ l = .int .i64 m ∧ Hid (∀ j (h : j < F.length), j < k → F[j].fits 1048576) ∧ Below w.heap.size w wr) (fun _ i _ => F.length - (Lib.intOf i).toNat)
    case atStart => exact ⟨0, l0, Nat.zero_le _, rfl, hl2, rfl, fun j h h0 => absurd h0 (Nat.not_lt_zero _), Below.refl _ _⟩
    case round =>
      obtain ⟨k, m, hk, rfl, hm, rfl, hall, hb⟩ := hrel
      by_cases hlt : k < F.length
      · obtain ⟨a, v4, v5, rfl, ha1, ha2, hA, hI⟩ := (HF.out.below hb (Nat.le_refl _)) k hlt
        have hS := mkHid (lawSzQueryNode F[k] v4 v5 m lo wr (hI.mono (Nat.le_refl _) hb.size) (Hsz.out _ (List.getElem_mem hlt)) (by omega))
        have c0 := hA.c0
        have c1 := hA.c1
        have c2 := hA.c2
        have c3 := hA.c3
        have c4 := hA.c4
        have c5 := hA.c5
        clear hA hI
        unfold GQueryNodeV at hS
        generalize hf : F[k] = f at *
        have Hf := mkHid hf
        clear hf
        go_wp2_with fail
        refine hS.out.mono ?_
        rintro e w1 ⟨r1, rfl, hr1, hb1⟩
        have hb2 := mkHid (hb.trans (hb1.mono hb.size))
        clear hS c0 c1 c2 c3 c4 c5 hb1 hb
        rcases hr1.out with rfl | ⟨m1, rfl, hm1, hft⟩
        · clear hr1
          go_wp2
          go_ret
          exact ⟨-1, rfl, Or.inl rfl, hb2.out⟩
        · replace hft := mkHid hft
          clear hr1
          go_wp2
          go_roundw
          case rel =>
            refine ⟨k + 1, m1, by omega, by go_num, by omega, rfl, ?_, hb2.out⟩
            intro j h hj
            by_cases hjk : j < k
            · exact hall.out j h hjk
            · have : j = k := by omega
              subst this
              rw [Hf.out]; exact hft.out
          case measure => simp [Lib.intOf]; omega
      · have Hall : Hid (∀ f ∈ F, f.fits 1048576) := by
          intro t ht
          obtain ⟨j, hj, rfl⟩ := List.getElem_of_mem ht
          exact hall.out j hj (by omega)
        go_wp2
        go_ret
        exact ⟨_, rfl, Or.inr ⟨m, rfl, hm, hl3, Hall.out⟩, hb⟩
set_option maxHeartbeats 4000000 in
set_option maxRecDepth 20000 in
theorem lawToXQueryNode (n : GQueryNode) (u4 : Value) (u5 : Value) (lo : Nat) (w : World) (hI : GQueryNodeIn lo w.heap.size w n u4 u5) (hf : n.fits 1048576) :
    Calls Tryz.prog 12 #[GQueryNodeV n u4 u5] w fun e w' => ∃ v4 v5 : Value, e = .returned (GQueryNodeV n v4 v5) ∧ Hid (GQueryNodeIn w.heap.size w'.heap.size w' n v4 v5) ∧ Below w.heap.size w w' ∧ Hid (Soft w.heap.size w') := by
  obtain ⟨⟨a4, c4, rfl, t4⟩, ⟨a5, c5, rfl, t5⟩⟩ := hI
  obtain ⟨f1_0, f2_0, f4_0, f4_1, f5_0⟩ := hf
  have H4 := mkHid fun (w' : World) (hb : Below w.heap.size w w') => lawToSXRange a4 n.uids c4 lo w' ((t4.below hb (Nat.le_refl _)).mono (Nat.le_refl _) hb.size) f4_0 f4_1
  have H5 := mkHid fun (w' : World) (hb : Below w.heap.size w w') => lawToSXInt a5 n.kids c5 lo w' ((t5.below hb (Nat.le_refl _)).mono (Nat.le_refl _) hb.size) f5_0
  clear f1_0 f2_0 f4_0 f4_1 f5_0 t4 t5
  obtain ⟨G, hG⟩ : ∃ G, w.heap.size = G := ⟨_, rfl⟩
  obtain ⟨V0, hV0⟩ : ∃ W, W = ((w.alloc (.cells #[.int .i64 n.kind, .string n.name, .string n.text, .int .i64 n.num, .slice a4 n.uids.length c4, .slice a5 n.kids.length c5] 33)).alloc (.cells #[.int .i64 0, .string ⟨#[]⟩, .string ⟨#[]⟩, .int .i64 0, .slice none 0 0, .slice none 0 0] 38)).alloc (.cells #[.int .i64 n.kind, .string n.name, .string n.text, .int .i64 n.num, .slice none 0 0, .slice none 0 0] 38) := ⟨_, rfl⟩
  obtain ⟨hb0, hs0, hP0, hR0, hO0⟩ := three_blocks hG hV0
  have hSf := mkHid (show Soft G V0 by rw [hV0, ← hG]; exact (((Soft.refl _).alloc _ _).alloc _ _).alloc _ _)
  have HV0 := mkHid hV0
  clear hV0
  have hG' := mkHid hG
  unfold GQueryNodeV
  go_enter Tryz.func12, Tryz.ntmps12
  go_wp2_with fail
  rw [← HV0.out]
  refine (H4.out V0 (by rw [hG]; exact hb0)).mono ?_
  rintro e w1 ⟨rfl, hT4, hw1, hsf1⟩
  replace hSf := mkHid (hSf.out.call hw1 hsf1.out)
  obtain ⟨g4, hg4⟩ : ∃ g, V0.heap.size = g := ⟨_, rfl⟩
  rw [hg4] at hT4 hw1 hs0 ⊢
  have hw1s := hw1.size
  rw [hg4] at hw1s
  have hP1a := (hw1.block G (by omega)).trans hP0
  have hR1a := (hw1.block (G + 1) (by omega)).trans hR0
  have hO1a := (hw1.block (G + 1 + 1) (by omega)).trans hO0
  have p1_5 : w1.cell? ⟨G, 5, none⟩ = some (.slice a5 n.kids.length c5) := by simp [World.cell?, hP1a]
  have x1_4 : w1.cell? ⟨G + 1 + 1, 4, none⟩ = some (.slice none 0 0) := by simp [World.cell?, hO1a]
  have z1_4 : w1.frozen? ⟨G + 1 + 1, 4, none⟩ = false := by simp [World.frozen?, hO1a]
  obtain ⟨V1, hV1⟩ : ∃ V, V = w1.setCell ⟨G + 1 + 1, 4, none⟩ (.slice (some ⟨g4, 0, none⟩) n.uids.length n.uids.length) := ⟨_, rfl⟩
  replace hSf := mkHid (show Soft G V1 by rw [hV1]; exact (hSf.out.set _ _ _))
  have hgr1 : w1.grownBy V1 (some (G + 1 + 1)) := by rw [hV1]; exact grG_set _ _ _ _
  have hP1 := (hgr1.block G (by omega) (by simp; omega)).trans hP1a
  have hR1 := (hgr1.block (G + 1) (by omega) (by simp)).trans hR1a
  have hO1 : V1.heap[G + 1 + 1]? = some (.cells #[.int .i64 n.kind, .string n.name, .string n.text, .int .i64 n.num, .slice (some ⟨g4, 0, none⟩) n.uids.length n.uids.length, .slice none 0 0] 38 (0, 0)) := by rw [hV1]; simp [World.setCell, Array.getElem?_modify, hO1a]
  have hs1 : G + 3 ≤ V1.heap.size := Nat.le_trans (Nat.le_trans hs0 hw1s) hgr1.size
  have hb1 : Below G w V1 := (hb0.trans (hw1.mono (by omega))).grown hgr1 (by omega) (fun k hk => by cases hk; omega)
  replace hT4 := mkHid ((hT4.out.same (Same.gr hgr1 (by omega) (Nat.le_refl _))).mono (show G + 3 ≤ _ by omega) hgr1.size)
  replace hV1 := mkHid hV1
  have HV1 := hV1
  clear hP1a hR1a hO1a hP0 hR0 hO0 hw1 HV0 hgr1 hb0
  clear hs0 hg4 hw1s
  go_wp2_with fail
  rw [← HV1.out]
  refine (H5.out V1 (by rw [hG]; exact hb1)).mono ?_
  rintro e w2 ⟨rfl, hT5, hw2, hsf2⟩
  clear x1_4 z1_4 p1_5
  replace hSf := mkHid (hSf.out.call hw2 hsf2.out)
  obtain ⟨g5, hg5⟩ : ∃ g, V1.heap.size = g := ⟨_, rfl⟩
  rw [hg5] at hT5 hw2 hs1 ⊢
  rw [hg5] at hT4
  have hw2s := hw2.size
  rw [hg5] at hw2s
  have hP2a := (hw2.block G (by omega)).trans hP1
  have hR2a := (hw2.block (G + 1) (by omega)).trans hR1
  have hO2a := (hw2.block (G + 1 + 1) (by omega)).trans hO1
  have x2_5 : w2.cell? ⟨G + 1 + 1, 5, none⟩ = some (.slice none 0 0) := by simp [World.cell?, hO2a]
  have z2_5 : w2.frozen? ⟨G + 1 + 1, 5, none⟩ = false := by simp [World.frozen?, hO2a]
  obtain ⟨V2, hV2⟩ : ∃ V, V = w2.setCell ⟨G + 1 + 1, 5, none⟩ (.slice (some ⟨g5, 0, none⟩) n.kids.length n.kids.length) := ⟨_, rfl⟩
  replace hSf := mkHid (show Soft G V2 by rw [hV2]; exact (hSf.out.set _ _ _))
  have hgr2 : w2.grownBy V2 (some (G + 1 + 1)) := by rw [hV2]; exact grG_set _ _ _ _
  have hP2 := (hgr2.block G (by omega) (by simp; omega)).trans hP2a
  have hR2 := (hgr2.block (G + 1) (by omega) (by simp)).trans hR2a
  have hO2 : V2.heap[G + 1 + 1]? = some (.cells #[.int .i64 n.kind, .string n.name, .string n.text, .int .i64 n.num, .slice (some ⟨g4, 0, none⟩) n.uids.length n.uids.length, .slice (some ⟨g5, 0, none⟩) n.kids.length n.kids.length] 38 (0, 0)) := by rw [hV2]; simp [World.setCell, Array.getElem?_modify, hO2a]
  have hs2 : G + 3 ≤ V2.heap.size := Nat.le_trans (Nat.le_trans hs1 hw2s) hgr2.size
  have hb2 : Below G w V2 := (hb1.trans (hw2.mono (by omega))).grown hgr2 (by omega) (fun k hk => by cases hk; omega)
  have hT4 := mkHid (((hT4.out.below hw2 (Nat.le_refl _)).mono (Nat.le_refl _) hw2s |>.same (Same.gr hgr2 (by omega) (Nat.le_refl _))).mono (Nat.le_refl _) hgr2.size)
  replace hT5 := mkHid ((hT5.out.same (Same.gr hgr2 (by omega) (Nat.le_refl _))).mono (show G + 3 ≤ _ by omega) hgr2.size)
  replace hV2 := mkHid hV2
  have HV2 := hV2
  clear hP2a hR2a hO2a hP1 hR1 hO1 hw2 HV1 hgr2 hb1
  clear hs1 hg5 hw2s
  have hgz := grown_setRow V2 (G + 1) #[.int .i64 n.kind, .string n.name, .string n.text, .int .i64 n.num, .slice (some ⟨g4, 0, none⟩) n.uids.length n.uids.length, .slice (some ⟨g5, 0, none⟩) n.kids.length n.kids.length]
  have hSz := mkHid (hSf.out.setRow (G + 1) #[.int .i64 n.kind, .string n.name, .string n.text, .int .i64 n.num, .slice (some ⟨g4, 0, none⟩) n.uids.length n.uids.length, .slice (some ⟨g5, 0, none⟩) n.kids.length n.kids.length])
  clear hSf
  have hbz := mkHid (hb2.grown hgz (by omega) (fun k hk => by cases hk; omega))
  replace hT4 := mkHid ((hT4.out.same (Same.gr hgz (by omega) (Nat.le_refl _))).mono (show G ≤ _ by omega) hgz.size)
  replace hT5 := mkHid ((hT5.out.same (Same.gr hgz (by omega) (Nat.le_refl _))).mono (show G ≤ _ by omega) hgz.size)
  rw [HV2.out] at hT4 hT5 hbz hSz hO2 hR2
  clear hgz HV2 hV2 hb2 hP2 hs2
  go_wp2_with (first | (refine wpL_load_row rfl 38 _ rfl (G + 1 + 1) _ 38 (0, 0) _ rfl hO2 Tryz.underlying38 rfl (by kernel_rfl) ?_) | (refine wpL_store_row rfl 38 _ _ rfl (G + 1) _ rfl rfl 38 _ hR2 (by kernel_rfl) rfl (by simp [Value.oneCell']) ?_) | go_in)
  refine bodyPost_ret (v := .agg #[.int .i64 n.kind, .string n.name, .string n.text, .int .i64 n.num, .slice (some ⟨g4, 0, none⟩) n.uids.length n.uids.length, .slice (some ⟨g5, 0, none⟩) n.kids.length n.kids.length]) (results_cell_row Tryz.results12 _ _ (G + 1) 38 _ (0, 0) _ rfl (setRow_heap _ _ _ _ _ _ hR2) Tryz.underlying38 rfl (by kernel_rfl)) rfl ?_
  rw [hG]
  exact ⟨_, _, rfl, ⟨⟨_, _, rfl, hT4.out⟩, ⟨_, _, rfl, hT5.out⟩⟩, hbz.out, hSz⟩
set_option maxRecDepth 20000 in
theorem lawToQueryNode (n : GQueryNode) (u4 : Value) (u5 : Value) (lo : Nat) (w : World) (hI : GQueryNodeIn lo w.heap.size w n u4 u5) (hf : n.fits 1048576) :
    Calls Tryz.prog 12 #[GQueryNodeV n u4 u5] w fun e w' => ∃ v4 v5 : Value, e = .returned (GQueryNodeV n v4 v5) ∧ Hid (GQueryNodeIn w.heap.size w'.heap.size w' n v4 v5) ∧ Below w.heap.size w w' :=
  (lawToXQueryNode n u4 u5 lo w hI hf).mono fun _ _ ⟨v4, v5, h1, h2, h3, _⟩ => ⟨v4, v5, h1, h2, h3⟩
structure GQueryNodeL (f : Nat → Value) (j : Nat) (n : GQueryNode) (v4 v5 : Value) : Prop where
  c0 : f (j * 6) = .int .i64 n.kind
  c1 : f (j * 6 + 1) = .string n.name
  c2 : f (j * 6 + 2) = .string n.text
  c3 : f (j * 6 + 3) = .int .i64 n.num
  c4 : f (j * 6 + 4) = v4
  c5 : f (j * 6 + 5) = v5
def GQueryNodeSet (w : World) (g k : Nat) (n : GQueryNode) (v4 v5 : Value) : World := ((((((w.setCell ⟨g, k * 6, none⟩ (.int .i64 n.kind)).setCell ⟨g, k * 6 + 1, none⟩ (.string n.name)).setCell ⟨g, k * 6 + 2, none⟩ (.string n.text)).setCell ⟨g, k * 6 + 3, none⟩ (.int .i64 n.num)).setCell ⟨g, k * 6 + 4, none⟩ (v4)).setCell ⟨g, k * 6 + 5, none⟩ (v5))
set_option maxRecDepth 20000 in
theorem GQueryNodeRow {w : World} {g t N : Nat} {f : Nat → Value} (h : w.rowIs g t N f) (k : Nat) (n : GQueryNode) (v4 v5 : Value) :
    ∃ f', (GQueryNodeSet w g k n v4 v5).rowIs g t N f' ∧ GQueryNodeL f' k n v4 v5 ∧ ∀ (j : Nat) (m : GQueryNode) (q4 q5 : Value), j ≠ k → GQueryNodeL f j m q4 q5 → GQueryNodeL f' j m q4 q5 := by
  refine ⟨_, ((((((h.set _ _).set _ _).set _ _).set _ _).set _ _).set _ _), ?_, ?_⟩
  · constructor <;> simp
  · intro j m q4 q5 hj hl
    obtain ⟨c0, c1, c2, c3, c4, c5⟩ := hl
    constructor <;> rw [if_neg (by omega), if_neg (by omega), if_neg (by omega), if_neg (by omega), if_neg (by omega), if_neg (by omega)] <;> assumption
set_option maxRecDepth 20000 in
theorem GQueryNodeGr (w : World) (g k : Nat) (n : GQueryNode) (v4 v5 : Value) : w.grownBy (GQueryNodeSet w g k n v4 v5) (some g) := grG_trans (grG_trans (grG_trans (grG_trans (grG_trans (grG_set _ _ _ _) (grG_set _ _ _ _)) (grG_set _ _ _ _)) (grG_set _ _ _ _)) (grG_set _ _ _ _)) (grG_set _ _ _ _)
set_option maxRecDepth 20000 in
theorem Tryz.infoGQueryNode : (Tryz.prog.info? 38).map (fun i => (i.zero, i.size, i.bytes)) = some (some (.agg #[.int .i64 0, .string ⟨#[]⟩, .string ⟨#[]⟩, .int .i64 0, .slice none 0 0, .slice none 0 0]), 6, 96) := by kernel_rfl
set_option maxHeartbeats 4000000 in
set_option maxRecDepth 20000 in
theorem lawToSXQueryNode (o : Option Addr) (F : List GQueryNode) (cap lo : Nat) (w : World) (hF : GQueryNodesL lo w.heap.size w o F) (hlen : F.length ≤ 1048576) (hfit : ∀ f ∈ F, f.fits 1048576) :
    Calls Tryz.prog 6 #[.slice o F.length cap] w fun e w' => e = .returned (.slice (some ⟨w.heap.size, 0, none⟩) F.length F.length) ∧ Hid (GQueryNodesL w.heap.size w'.heap.size w' (some ⟨w.heap.size, 0, none⟩) F) ∧ Below w.heap.size w w' ∧ Hid (Soft w.heap.size w') := by
  obtain ⟨i0, hi, hy0, hy1, hy2⟩ := info_parts Tryz.infoGQueryNode
  have hmk := run_make (P := Tryz.prog) w 25 38 i0 _ Tryz.underlying25 hi hy0 .i64 .i64 F.length F.length (by omega) (Int.le_refl _) (by rw [hy2]; omega) (by omega)
  simp only [Int.toNat_natCast, hy1] at hmk
  have HF := mkHid hF
  have Hfit := mkHid hfit
  clear hF hfit
  obtain ⟨c0, hc0⟩ : ∃ c0, c0 = madeCells (Value.cells (.agg #[.int .i64 0, .string ⟨#[]⟩, .string ⟨#[]⟩, .int .i64 0, .slice none 0 0, .slice none 0 0])) (F.length * 6) := ⟨_, rfl⟩
  have hcs : c0.size = F.length * 6 := by rw [hc0]; exact size_madeCells _ _
  rw [← hc0] at hmk
  have Hrow0 : Hid (∃ f, (w.alloc (.cells c0 38)).rowIs w.heap.size 38 (F.length * 6) f) := by
    refine ⟨fun j => c0[j]!, ?_⟩
    have := World.rowIs_alloc w c0 38 (fun j => c0[j]!) (fun i hi => by simp [hi])
    rw [hcs] at this
    exact this
  clear hc0 hcs
  go_enter Tryz.func6, Tryz.ntmps6
  go_wp2
  clear hmk
  generalize hG : w.heap.size = G at *
  go_loopw [4] (fun i wr => ∃ (k : Nat) (f : Nat → Value), k ≤ F.length ∧ i = .int .i64 k ∧ wr.rowIs G 38 (F.length * 6) f ∧ Hid (∀ j (h : j < F.length), j < k → ∃ v4 v5, GQueryNodeL f j F[j] v4 v5 ∧ GQueryNodeIn (G + 1) wr.heap.size wr F[j] v4 v5) ∧ Below G w wr ∧ Hid (Soft G wr)) (fun i _ => F.length - (Lib.intOf i).toNat)
  case atStart =>
    obtain ⟨f, hx⟩ := Hrow0.out
    exact ⟨0, f, Nat.zero_le _, rfl, hx, fun j h h0 => absurd h0 (Nat.not_lt_zero _), (Below.refl _ _).alloc (by omega) _, by rw [← hG]; exact (Soft.refl _).alloc _ _⟩
  case round =>
    clear Hrow0
    obtain ⟨k, f, hk, rfl, hrow, hall, hb, hSf⟩ := hrel
    by_cases hlt : k < F.length
    · obtain ⟨a, u4, u5, rfl, ha1, ha2, hA, hI⟩ := (HF.out.below hb (Nat.le_refl _)) k hlt
      have hGl := hrow.lt
      have hT := mkHid (lawToXQueryNode F[k] u4 u5 lo wr (hI.mono (Nat.le_refl _) (by omega)) (Hfit.out _ (List.getElem_mem hlt)))
      have c0 := hA.c0
      have c1 := hA.c1
      have c2 := hA.c2
      have c3 := hA.c3
      have c4 := hA.c4
      have c5 := hA.c5
      obtain ⟨⟨a4, k4, rfl, -⟩, ⟨a5, k5, rfl, -⟩⟩ := hI
      clear hA
      generalize hf : F[k] = n at *
      have Hf := mkHid hf
      clear hf
      unfold GQueryNodeV at hT
      go_wp2_with fail
      refine hT.out.mono ?_
      rintro e w1 ⟨v4, v5, rfl, hTx, hb1, hsf1⟩
      have hTx1 := hTx.out
      obtain ⟨⟨b4, m4, rfl, -⟩, ⟨b5, m5, rfl, -⟩⟩ := hTx1
      have hrow1 : w1.rowIs G 38 (F.length * 6) f := hrow.of_block (hb1.block G hGl)
      have hgr := GQueryNodeGr w1 G k n (.slice b4 n.uids.length m4) (.slice b5 n.kids.length m5)
      obtain ⟨f', hrow2, hL, hLo⟩ := GQueryNodeRow hrow1 k n (.slice b4 n.uids.length m4) (.slice b5 n.kids.length m5)
      have hb1s := hb1.size
      have hS2 : Hid (Soft G (GQueryNodeSet w1 G k n (.slice b4 n.uids.length m4) (.slice b5 n.kids.length m5))) := (((((((hSf.out.call hb1 hsf1.out).set _ _ _).set _ _ _).set _ _ _).set _ _ _).set _ _ _).set _ _ _)
      have hb2 : Below G w (GQueryNodeSet w1 G k n (.slice b4 n.uids.length m4) (.slice b5 n.kids.length m5)) := (hb.trans (hb1.mono (by omega))).grown hgr (by omega) (fun j hj => by cases hj; exact Nat.le_refl _)
      have hIn2 := (hTx.out.mono (show G + 1 ≤ _ by omega) (Nat.le_refl _) |>.same (Same.gr hgr (by omega) (Nat.le_refl _))).mono (Nat.le_refl _) hgr.size
      have Hall : Hid (∀ j (h : j < F.length), j < k + 1 → ∃ v4 v5, GQueryNodeL f' j F[j] v4 v5 ∧ GQueryNodeIn (G + 1) (GQueryNodeSet w1 G k n (.slice b4 n.uids.length m4) (.slice b5 n.kids.length m5)).heap.size (GQueryNodeSet w1 G k n (.slice b4 n.uids.length m4) (.slice b5 n.kids.length m5)) F[j] v4 v5) := by
        intro j h hj
        by_cases hjk : j = k
        · subst hjk
          rw [Hf.out]
          exact ⟨_, _, hL, hIn2⟩
        · obtain ⟨h4, h5, hl, hm⟩ := hall.out j h (by omega)
          exact ⟨h4, h5, hLo j _ _ _ hjk hl, (((hm.same (Same.of_below hb1 (Nat.le_refl _))).mono (Nat.le_refl _) hb1s).same (Same.gr hgr (by omega) (Nat.le_refl _))).mono (Nat.le_refl _) hgr.size⟩
      have hd := fun (j : Nat) (hj : j < 6) => hrow1.cell (i := k * 6 + j) (by omega)
      have d0 := hd 0 (by omega)
      have d1 := hd 1 (by omega)
      have d2 := hd 2 (by omega)
      have d3 := hd 3 (by omega)
      have d4 := hd 4 (by omega)
      have d5 := hd 5 (by omega)
      have z0 := hrow1.frozen (k * 6)
      have z1 := hrow1.frozen (k * 6 + 1)
      have z2 := hrow1.frozen (k * 6 + 2)
      have z3 := hrow1.frozen (k * 6 + 3)
      have z4 := hrow1.frozen (k * 6 + 4)
      have z5 := hrow1.frozen (k * 6 + 5)
      rw [Nat.add_zero] at d0
      have hadd := add_off G (k * 6)
      replace hrow2 := mkHid hrow2
      replace hb2 := mkHid hb2
      clear hd hrow hrow1 hL hLo hgr hall hb hb1 hb1s hT c0 c1 c2 c3 c4 c5 hTx hIn2
      unfold GQueryNodeSet at hrow2 hb2 hS2 Hall
      go_wp2
      go_roundw
      case rel => exact ⟨k + 1, f', by omega, by go_num, hrow2.out, Hall.out, hb2.out, hS2⟩
      case measure => simp [Lib.intOf]; omega
    · go_wp2
      go_ret
      refine ⟨by rw [hG]; rfl, ?_, by rw [hG]; exact hb, by rw [hG]; exact hSf⟩
      intro i hi
      obtain ⟨v4, v5, hl, hm⟩ := hall.out i hi (by omega)
      refine ⟨⟨w.heap.size, 0, none⟩, v4, v5, rfl, Nat.le_refl _, by rw [hG]; exact hrow.lt, ?_, hm.mono (by rw [hG]; omega) (Nat.le_refl _)⟩
      rw [add_off, hG]
      have hd := fun (j : Nat) (hj : j < 6) => hrow.cell (i := i * 6 + j) (by omega)
      refine ⟨?_, ?_, ?_, ?_, ?_, ?_⟩
      · have := hd 0 (by omega); rw [Nat.add_zero, hl.c0] at this; exact this
      · have := hd 1 (by omega); rw [hl.c1] at this; exact this
      · have := hd 2 (by omega); rw [hl.c2] at this; exact this
      · have := hd 3 (by omega); rw [hl.c3] at this; exact this
      · have := hd 4 (by omega); rw [hl.c4] at this; exact this
      · have := hd 5 (by omega); rw [hl.c5] at this; exact this
set_option maxRecDepth 20000 in
theorem lawToSQueryNode (o : Option Addr) (F : List GQueryNode) (cap lo : Nat) (w : World) (hF : GQueryNodesL lo w.heap.size w o F) (hlen : F.length ≤ 1048576) (hfit : ∀ f ∈ F, f.fits 1048576) :
    Calls Tryz.prog 6 #[.slice o F.length cap] w fun e w' => e = .returned (.slice (some ⟨w.heap.size, 0, none⟩) F.length F.length) ∧ Hid (GQueryNodesL w.heap.size w'.heap.size w' (some ⟨w.heap.size, 0, none⟩) F) ∧ Below w.heap.size w w' :=
  (lawToSXQueryNode o F cap lo w hF hlen hfit).mono fun _ _ ⟨h1, h2, h3, _⟩ => ⟨h1, h2, h3⟩
set_option maxRecDepth 20000 in
set_option maxHeartbeats 1000000 in
theorem lawEqQueryNode (n : GQueryNode) (v4 v5 : Value) (u4 u5 : Value) (lo lo' : Nat) (w : World) (hI : GQueryNodeIn lo w.heap.size w n v4 v5) (hJ : GQueryNodeIn lo' w.heap.size w n u4 u5) (hf : n.fits 1048576) :
    Calls Tryz.prog 17 #[GQueryNodeV n v4 v5, GQueryNodeV n u4 u5] w fun e w' => e = .returned (.bool true) ∧ Below w.heap.size w w' := by
  obtain ⟨⟨a4, c4, rfl, t4⟩, ⟨a5, c5, rfl, t5⟩⟩ := hI
  obtain ⟨⟨b4, d4, rfl, s4⟩, ⟨b5, d5, rfl, s5⟩⟩ := hJ
  obtain ⟨f1_0, f2_0, f4_0, f4_1, f5_0⟩ := hf
  have H4 := mkHid fun (w' : World) (hb : Below w.heap.size w w') => lawEqSRange a4 b4 n.uids c4 d4 lo lo' w' ((t4.below hb (Nat.le_refl _)).mono (Nat.le_refl _) hb.size) ((s4.below hb (Nat.le_refl _)).mono (Nat.le_refl _) hb.size) f4_0 f4_1
  have H5 := mkHid fun (w' : World) (hb : Below w.heap.size w w') => lawEqSInt a5 b5 n.kids c5 d5 lo lo' w' ((t5.below hb (Nat.le_refl _)).mono (Nat.le_refl _) hb.size) ((s5.below hb (Nat.le_refl _)).mono (Nat.le_refl _) hb.size) f5_0
  clear f1_0 f2_0 f4_0 f4_1 f5_0 t4 s4 t5 s5
  unfold GQueryNodeV
  obtain ⟨W0, hW⟩ : ∃ W, W = (w.alloc (.cells #[.int .i64 n.kind, .string n.name, .string n.text, .int .i64 n.num, .slice a4 n.uids.length c4, .slice a5 n.kids.length c5] 38)).alloc (.cells #[.int .i64 n.kind, .string n.name, .string n.text, .int .i64 n.num, .slice b4 n.uids.length d4, .slice b5 n.kids.length d5] 38) := ⟨_, rfl⟩
  obtain ⟨hb0, hs0, hA0, hB0⟩ := two_blocks hW
  have HW := mkHid hW
  clear hW
  go_enter Tryz.func17, Tryz.ntmps17
  go_wp2_with fail
  rw [← HW.out]
  refine (H4.out W0 hb0).mono ?_
  rintro e W1 ⟨rfl, hw1⟩
  have hw1s := hw1.size
  have hA1 := (hw1.block w.heap.size (by omega)).trans hA0
  have hB1 := (hw1.block (w.heap.size + 1) (by omega)).trans hB0
  have hb1 := hb0.trans (hw1.mono (by omega))
  have hs1 : w.heap.size + 2 ≤ W1.heap.size := Nat.le_trans hs0 hw1s
  have p1_5 : W1.cell? ⟨w.heap.size, 5, none⟩ = some (.slice a5 n.kids.length c5) := by simp [World.cell?, hA1]
  have q1_5 : W1.cell? ⟨w.heap.size + 1, 5, none⟩ = some (.slice b5 n.kids.length d5) := by simp [World.cell?, hB1]
  clear hA0 hB0 hw1 hs0 hb0 hw1s HW
  go_wp2_with fail
  refine (H5.out W1 hb1).mono ?_
  rintro e W2 ⟨rfl, hw2⟩
  have hw2s := hw2.size
  have hA2 := (hw2.block w.heap.size (by omega)).trans hA1
  have hB2 := (hw2.block (w.heap.size + 1) (by omega)).trans hB1
  have hb2 := hb1.trans (hw2.mono (by omega))
  have hs2 : w.heap.size + 2 ≤ W2.heap.size := Nat.le_trans hs1 hw2s
  clear hA1 hB1 hw2 hs1 hb1 hw2s
  clear hA2 hB2 hs2
  clear p1_5 q1_5
  go_wp2
  go_ret
  exact ⟨rfl, hb2⟩
set_option maxHeartbeats 2000000 in
set_option maxRecDepth 10000 in
theorem lawEqSQueryNode (a b : Option Addr) (F : List GQueryNode) (cap cap' lo lo' : Nat) (w : World) (hF : GQueryNodesL lo w.heap.size w a F) (hG : GQueryNodesL lo' w.heap.size w b F) (hlen : F.length ≤ 1048576) (hfit : ∀ f ∈ F, f.fits 1048576) :
    Calls Tryz.prog 8 #[.slice a F.length cap, .slice b F.length cap'] w fun e w' => e = .returned (.bool true) ∧ Below w.heap.size w w' := by
  have HF := mkHid hF
  have HG := mkHid hG
  have Hfit := mkHid hfit
  clear hF hG hfit
  go_enter Tryz.func8, Tryz.ntmps8
  go_wp2
  go_loopw [5] (fun i wr => ∃ k : Nat, k ≤ F.length ∧ i = .int .i64 k ∧ Below w.heap.size w wr) (fun i _ => F.length - (Lib.intOf i).toNat)
  case atStart => exact ⟨0, Nat.zero_le _, rfl, Below.refl _ _⟩
  case round =>
    obtain ⟨k, hk, rfl, hb0⟩ := hrel
    by_cases hlt : k < F.length
    · obtain ⟨a', v4, v5, rfl, ha, ha', hA, hI⟩ := (HF.out.below hb0 (Nat.le_refl _)) k hlt
      obtain ⟨b', u4, u5, rfl, hb, hb', hB, hJ⟩ := (HG.out.below hb0 (Nat.le_refl _)) k hlt
      have hE := mkHid fun (w' : World) (hb' : Below wr.heap.size wr w') => lawEqQueryNode F[k] v4 v5 u4 u5 lo lo' w' ((hI.mono (Nat.le_refl _) hb0.size).same (Same.of_below hb' (Nat.le_refl _)) |>.mono (Nat.le_refl _) hb'.size) ((hJ.mono (Nat.le_refl _) hb0.size).same (Same.of_below hb' (Nat.le_refl _)) |>.mono (Nat.le_refl _) hb'.size) (Hfit.out _ (List.getElem_mem hlt))
      have c0 := hA.c0
      have c1 := hA.c1
      have c2 := hA.c2
      have c3 := hA.c3
      have c4 := hA.c4
      have c5 := hA.c5
      have d0 := hB.c0
      have d1 := hB.c1
      have d2 := hB.c2
      have d3 := hB.c3
      have d4 := hB.c4
      have d5 := hB.c5
      clear hA hB hI hJ
      generalize F[k] = n at *
      have cE : Hid (∀ d os, Calls Tryz.prog 17 #[GQueryNodeV n v4 v5, GQueryNodeV n u4 u5] (Go.Sort.grow (redrawn wr d) os) fun e w'' => e = .returned (.bool true) ∧ ∃ p : Regrown, w'' = Go.Sort.grow (redrawn wr p.d) p.os) := fun d os => Calls.regrown_of (hE.out _ (below_regrown wr d os))
      unfold GQueryNodeV at cE
      go_wp2
      have k0 := cell_regrown c0
      have l0 := cell_regrown d0
      have k1 := cell_regrown c1
      have l1 := cell_regrown d1
      have k2 := cell_regrown c2
      have l2 := cell_regrown d2
      have k3 := cell_regrown c3
      have l3 := cell_regrown d3
      have k4 := cell_regrown c4
      have l4 := cell_regrown d4
      have k5 := cell_regrown c5
      have l5 := cell_regrown d5
      clear hE c0 c1 c2 c3 c4 c5 d0 d1 d2 d3 d4 d5
      refine wp_region_quiet_below (by kernel_rfl) (by kernel_rfl) ?_
      repeat (go_big_quiet_step (exact cE.out _ _))
      refine wpQuiet_nil ?_
      intro _ hw'
      obtain ⟨⟨dq, osq⟩, hw''⟩ := hw'
      subst hw''
      have hbq := mkHid (hb0.trans ((below_regrown wr dq osq).mono hb0.size))
      generalize Go.Sort.grow (redrawn wr dq) osq = wq at *
      clear k0 k1 k2 k3 k4 k5 l0 l1 l2 l3 l4 l5 cE hb0
      go_wp2
      go_roundw
      case rel => exact ⟨k + 1, by omega, by go_num, hbq.out⟩
      case measure => simp [Lib.intOf]; omega
    · go_wp2
      go_ret
      exact ⟨rfl, hb0⟩
end Go.Proofs.YtfaeckaeaeadeaaGreatDoor
