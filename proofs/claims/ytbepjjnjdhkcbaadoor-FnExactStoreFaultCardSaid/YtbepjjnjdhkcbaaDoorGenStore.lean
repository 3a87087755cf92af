
/- Store: as the law has it and as the program has it; handed in, made anew, held against one another. (By tools/gen/structs.py.) -/
import Derived.Test.YtbepjjnjdhkcbaaDoorGenMailbox
namespace Go.Proofs.YtbepjjnjdhkcbaaDoor
open Go.RowKit Go.Lib Go.Maps
structure GStore where
  nextValidity : Int
  boxes : List GMailbox
def GStoreV (n : GStore) (v1 : Value) : Value := .agg #[.int .i64 n.nextValidity, v1]
def GStore.fits (n : GStore) (m : Nat) : Prop := n.boxes.length ≤ m ∧ (∀ x ∈ n.boxes, x.fits m)
structure GStoreIn (lo hi : Nat) (w : World) (n : GStore) (v1 : Value) : Prop where
  s1 : ∃ a c, v1 = .slice a n.boxes.length c ∧ GMailboxsL lo hi w a n.boxes
theorem GStoreIn.same {lo hi : Nat} {w w' : World} {n : GStore} {v1 : Value} (h : GStoreIn lo hi w n v1) (hs : Same lo hi w w') : GStoreIn lo hi w' n v1 := by
  obtain ⟨⟨a1, c1, e1, t1⟩⟩ := h
  exact ⟨⟨a1, c1, e1, t1.same hs⟩⟩
theorem GStoreIn.mono {lo lo' hi hi' : Nat} {w : World} {n : GStore} {v1 : Value} (h : GStoreIn lo hi w n v1) (hl : lo' ≤ lo) (hh : hi ≤ hi') : GStoreIn lo' hi' w n v1 := by
  obtain ⟨⟨a1, c1, e1, t1⟩⟩ := h
  exact ⟨⟨a1, c1, e1, t1.mono hl hh⟩⟩
structure GStoreAt (w : World) (A : Addr) (n : GStore) (v1 : Value) : Prop where
  c0 : w.cell? A = some (.int .i64 n.nextValidity)
  c1 : w.cell? ⟨A.block, A.off + 1, none⟩ = some (v1)
theorem GStoreAt.same {lo hi : Nat} {w w' : World} {A : Addr} {n : GStore} {v1 : Value} (h : GStoreAt w A n v1) (hs : Same lo hi w w') (h1 : lo ≤ A.block) (h2 : A.block < hi) : GStoreAt w' A n v1 :=
  ⟨(hs.cell h1 h2).trans h.c0, (hs.cell (p := ⟨A.block, A.off + 1, none⟩) h1 h2).trans h.c1⟩
def GStoresL (lo hi : Nat) (w : World) (o : Option Addr) (F : List GStore) : Prop := ∀ i (h : i < F.length), ∃ a v1, o = some a ∧ lo ≤ a.block ∧ a.block < hi ∧ GStoreAt w (a.add (i * 2)) F[i] v1 ∧ GStoreIn lo hi w F[i] v1
theorem GStoresL.same {lo hi : Nat} {w w' : World} {o : Option Addr} {F : List GStore} (h : GStoresL lo hi w o F) (hs : Same lo hi w w') : GStoresL lo hi w' o F := by
  intro i hi
  obtain ⟨a, v1, ho, h1, h2, h3, h4⟩ := h i hi
  exact ⟨a, v1, ho, h1, h2, h3.same hs (by rw [add_blockG]; exact h1) (by rw [add_blockG]; exact h2), h4.same hs⟩
theorem GStoresL.mono {lo lo' hi hi' : Nat} {w : World} {o : Option Addr} {F : List GStore} (h : GStoresL lo hi w o F) (hl : lo' ≤ lo) (hh : hi ≤ hi') : GStoresL lo' hi' w o F := by
  intro i hi
  obtain ⟨a, v1, ho, h1, h2, h3, h4⟩ := h i hi
  exact ⟨a, v1, ho, Nat.le_trans hl h1, Nat.lt_of_lt_of_le h2 hh, h3, h4.mono hl hh⟩
theorem GStoresL.below {lo hi B : Nat} {w w' : World} {o : Option Addr} {F : List GStore} (h : GStoresL lo hi w o F) (hb : Below B w w') (hB : hi ≤ B) : GStoresL lo hi w' o F := h.same (Same.of_below hb hB)
set_option maxHeartbeats 1000000 in
theorem lawSzStore (n : GStore) (v1 : Value) (left lo : Nat) (w : World) (hI : GStoreIn lo w.heap.size w n v1) (hf : n.fits maxLen) (hl : left ≤ 1048576) :
    Calls Tryd.prog 4 #[GStoreV n v1, .int .i64 left] w fun e w' => ∃ r : Int, e = .returned (.int .i64 r) ∧ Hid (r = -1 ∨ ∃ m : Nat, r = m ∧ m ≤ left ∧ n.fits 1048576) ∧ Below w.heap.size w w' := by
  obtain ⟨⟨a1, c1, rfl, t1⟩⟩ := hI
  obtain ⟨f1_0, f1_1⟩ := hf
  have H1 := mkHid fun (w' : World) (hb : Below w.heap.size w w') (m : Nat) (hm : m ≤ 1048576) => lawSzSMailbox a1 n.boxes c1 m lo w' ((t1.below hb (Nat.le_refl _)).mono (Nat.le_refl _) hb.size) f1_0 f1_1 hm
  unfold GStoreV
  clear f1_0 f1_1 t1
  obtain ⟨W, hW⟩ : ∃ W, W = w.alloc (.cells #[.int .i64 n.nextValidity, .slice a1 n.boxes.length c1] 24) := ⟨_, rfl⟩
  have hbW : Below w.heap.size w W := by rw [hW]; exact (Below.refl _ _).alloc (Nat.le_refl _) _
  have hWs : w.heap.size < W.heap.size := by rw [hW]; simp
  have HW := mkHid hW
  clear hW
  go_enter Tryd.func4, Tryd.ntmps4
  go_wp2_with fail
  rw [← HW.out]
  refine (H1.out W hbW left (by omega)).mono ?_
  rintro e w1 ⟨r1, rfl, hr1, hb1⟩
  have hz1 : w.heap.size < w1.heap.size := Nat.lt_of_lt_of_le hWs hb1.size
  have hbw1 := hbW.trans (hb1.mono (Nat.le_of_lt hWs))
  clear hb1 HW
  rcases hr1.out with rfl | ⟨m1, rfl, hm1, hf1⟩
  · clear hr1
    go_wp2
    go_ret
    exact ⟨-1, rfl, .inl rfl, hbw1⟩
  · replace hf1 := mkHid hf1
    clear hr1
    go_wp2
    go_ret
    exact ⟨_, rfl, .inr ⟨m1, rfl, by omega, hf1.out.1, hf1.out.2⟩, hbw1⟩
set_option maxHeartbeats 4000000 in
set_option maxRecDepth 20000 in
theorem lawToXStore (n : GStore) (u1 : Value) (lo : Nat) (w : World) (hI : GStoreIn lo w.heap.size w n u1) (hf : n.fits 1048576) :
    Calls Tryd.prog 6 #[GStoreV n u1] w fun e w' => ∃ v1 : Value, e = .returned (GStoreV n v1) ∧ Hid (GStoreIn w.heap.size w'.heap.size w' n v1) ∧ Below w.heap.size w w' ∧ Hid (Soft w.heap.size w') := by
  obtain ⟨⟨a1, c1, rfl, t1⟩⟩ := hI
  obtain ⟨f1_0, f1_1⟩ := hf
  have H1 := mkHid fun (w' : World) (hb : Below w.heap.size w w') => lawToSXMailbox a1 n.boxes c1 lo w' ((t1.below hb (Nat.le_refl _)).mono (Nat.le_refl _) hb.size) f1_0 f1_1
  clear f1_0 f1_1 t1
  obtain ⟨G, hG⟩ : ∃ G, w.heap.size = G := ⟨_, rfl⟩
  obtain ⟨V0, hV0⟩ : ∃ W, W = ((w.alloc (.cells #[.int .i64 n.nextValidity, .slice a1 n.boxes.length c1] 24)).alloc (.cells #[.int .i64 0, .slice none 0 0] 29)).alloc (.cells #[.int .i64 n.nextValidity, .slice none 0 0] 29) := ⟨_, rfl⟩
  obtain ⟨hb0, hs0, hP0, hR0, hO0⟩ := three_blocks hG hV0
  have hSf := mkHid (show Soft G V0 by rw [hV0, ← hG]; exact (((Soft.refl _).alloc _ _).alloc _ _).alloc _ _)
  have HV0 := mkHid hV0
  clear hV0
  have hG' := mkHid hG
  unfold GStoreV
  go_enter Tryd.func6, Tryd.ntmps6
  go_wp2_with fail
  rw [← HV0.out]
  refine (H1.out V0 (by rw [hG]; exact hb0)).mono ?_
  rintro e w1 ⟨rfl, hT1, hw1, hsf1⟩
  replace hSf := mkHid (hSf.out.call hw1 hsf1.out)
  obtain ⟨g1, hg1⟩ : ∃ g, V0.heap.size = g := ⟨_, rfl⟩
  rw [hg1] at hT1 hw1 hs0 ⊢
  have hw1s := hw1.size
  rw [hg1] at hw1s
  have hP1a := (hw1.block G (by omega)).trans hP0
  have hR1a := (hw1.block (G + 1) (by omega)).trans hR0
  have hO1a := (hw1.block (G + 1 + 1) (by omega)).trans hO0
  have x1_1 : w1.cell? ⟨G + 1 + 1, 1, none⟩ = some (.slice none 0 0) := by simp [World.cell?, hO1a]
  have z1_1 : w1.frozen? ⟨G + 1 + 1, 1, none⟩ = false := by simp [World.frozen?, hO1a]
  obtain ⟨V1, hV1⟩ : ∃ V, V = w1.setCell ⟨G + 1 + 1, 1, none⟩ (.slice (some ⟨g1, 0, none⟩) n.boxes.length n.boxes.length) := ⟨_, rfl⟩
  replace hSf := mkHid (show Soft G V1 by rw [hV1]; exact (hSf.out.set _ _ _))
  have hgr1 : w1.grownBy V1 (some (G + 1 + 1)) := by rw [hV1]; exact grG_set _ _ _ _
  have hP1 := (hgr1.block G (by omega) (by simp; omega)).trans hP1a
  have hR1 := (hgr1.block (G + 1) (by omega) (by simp)).trans hR1a
  have hO1 : V1.heap[G + 1 + 1]? = some (.cells #[.int .i64 n.nextValidity, .slice (some ⟨g1, 0, none⟩) n.boxes.length n.boxes.length] 29 (0, 0)) := by rw [hV1]; simp [World.setCell, Array.getElem?_modify, hO1a]
  have hs1 : G + 3 ≤ V1.heap.size := Nat.le_trans (Nat.le_trans hs0 hw1s) hgr1.size
  have hb1 : Below G w V1 := (hb0.trans (hw1.mono (by omega))).grown hgr1 (by omega) (fun k hk => by cases hk; omega)
  replace hT1 := mkHid ((hT1.out.same (Same.gr hgr1 (by omega) (Nat.le_refl _))).mono (show G + 3 ≤ _ by omega) hgr1.size)
  replace hV1 := mkHid hV1
  have HV1 := hV1
  clear hP1a hR1a hO1a hP0 hR0 hO0 hw1 HV0 hgr1 hb0
  clear hs0 hg1 hw1s
  have hgz := grown_setRow V1 (G + 1) #[.int .i64 n.nextValidity, .slice (some ⟨g1, 0, none⟩) n.boxes.length n.boxes.length]
  have hSz := mkHid (hSf.out.setRow (G + 1) #[.int .i64 n.nextValidity, .slice (some ⟨g1, 0, none⟩) n.boxes.length n.boxes.length])
  clear hSf
  have hbz := mkHid (hb1.grown hgz (by omega) (fun k hk => by cases hk; omega))
  replace hT1 := mkHid ((hT1.out.same (Same.gr hgz (by omega) (Nat.le_refl _))).mono (show G ≤ _ by omega) hgz.size)
  rw [HV1.out] at hT1 hbz hSz hO1 hR1
  clear hgz HV1 hV1 hb1 hP1 hs1
  go_wp2_with (first | (refine wpL_load_row rfl 29 _ rfl (G + 1 + 1) _ 29 (0, 0) _ rfl hO1 Tryd.underlying29 rfl (by kernel_rfl) ?_) | (refine wpL_store_row rfl 29 _ _ rfl (G + 1) _ rfl rfl 29 _ hR1 (by kernel_rfl) rfl (by simp [Value.oneCell']) ?_) | go_in)
  refine bodyPost_ret (v := .agg #[.int .i64 n.nextValidity, .slice (some ⟨g1, 0, none⟩) n.boxes.length n.boxes.length]) (results_cell_row Tryd.results6 _ _ (G + 1) 29 _ (0, 0) _ rfl (setRow_heap _ _ _ _ _ _ hR1) Tryd.underlying29 rfl (by kernel_rfl)) rfl ?_
  rw [hG]
  exact ⟨_, rfl, ⟨⟨_, _, rfl, hT1.out⟩⟩, hbz.out, hSz⟩
theorem lawToStore (n : GStore) (u1 : Value) (lo : Nat) (w : World) (hI : GStoreIn lo w.heap.size w n u1) (hf : n.fits 1048576) :
    Calls Tryd.prog 6 #[GStoreV n u1] w fun e w' => ∃ v1 : Value, e = .returned (GStoreV n v1) ∧ Hid (GStoreIn w.heap.size w'.heap.size w' n v1) ∧ Below w.heap.size w w' :=
  (lawToXStore n u1 lo w hI hf).mono fun _ _ ⟨v1, h1, h2, h3, _⟩ => ⟨v1, h1, h2, h3⟩
set_option maxHeartbeats 1000000 in
theorem lawEqStore (n : GStore) (v1 : Value) (u1 : Value) (lo lo' : Nat) (w : World) (hI : GStoreIn lo w.heap.size w n v1) (hJ : GStoreIn lo' w.heap.size w n u1) (hf : n.fits 1048576) :
    Calls Tryd.prog 8 #[GStoreV n v1, GStoreV n u1] w fun e w' => e = .returned (.bool true) ∧ Below w.heap.size w w' := by
  obtain ⟨⟨a1, c1, rfl, t1⟩⟩ := hI
  obtain ⟨⟨b1, d1, rfl, s1⟩⟩ := hJ
  obtain ⟨f1_0, f1_1⟩ := hf
  have H1 := mkHid fun (w' : World) (hb : Below w.heap.size w w') => lawEqSMailbox a1 b1 n.boxes c1 d1 lo lo' w' ((t1.below hb (Nat.le_refl _)).mono (Nat.le_refl _) hb.size) ((s1.below hb (Nat.le_refl _)).mono (Nat.le_refl _) hb.size) f1_0 f1_1
  clear f1_0 f1_1 t1 s1
  unfold GStoreV
  obtain ⟨W0, hW⟩ : ∃ W, W = (w.alloc (.cells #[.int .i64 n.nextValidity, .slice a1 n.boxes.length c1] 29)).alloc (.cells #[.int .i64 n.nextValidity, .slice b1 n.boxes.length d1] 29) := ⟨_, rfl⟩
  obtain ⟨hb0, hs0, hA0, hB0⟩ := two_blocks hW
  have HW := mkHid hW
  clear hW
  go_enter Tryd.func8, Tryd.ntmps8
  go_wp2_with fail
  rw [← HW.out]
  refine (H1.out W0 hb0).mono ?_
  rintro e W1 ⟨rfl, hw1⟩
  have hw1s := hw1.size
  have hA1 := (hw1.block w.heap.size (by omega)).trans hA0
  have hB1 := (hw1.block (w.heap.size + 1) (by omega)).trans hB0
  have hb1 := hb0.trans (hw1.mono (by omega))
  have hs1 : w.heap.size + 2 ≤ W1.heap.size := Nat.le_trans hs0 hw1s
  clear hA0 hB0 hw1 hs0 hb0 hw1s HW
  clear hA1 hB1 hs1
  go_wp2
  go_ret
  exact ⟨rfl, hb1⟩
end Go.Proofs.YtbepjjnjdhkcbaaDoor
