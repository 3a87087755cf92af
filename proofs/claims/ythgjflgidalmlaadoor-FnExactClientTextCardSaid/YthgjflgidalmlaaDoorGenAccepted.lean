
/- Accepted: as the law has it and as the program has it; handed in, made anew, held against one another. (By tools/gen/structs.py.) -/
import Derived.Test.YthgjflgidalmlaaDoorGenBase
namespace Go.Proofs.YthgjflgidalmlaaDoor
open Go.RowKit Go.Lib Go.Maps
structure GAccepted where
  fromF : ByteArray
  toF : List ByteArray
  user : ByteArray
  message : ByteArray
def GAcceptedV (n : GAccepted) (v1 : Value) : Value := .agg #[.string n.fromF, v1, .string n.user, .string n.message]
def GAccepted.fits (n : GAccepted) (m : Nat) : Prop := n.fromF.size ≤ m ∧ n.toF.length ≤ m ∧ (∀ t ∈ n.toF, t.size ≤ m) ∧ n.user.size ≤ m ∧ n.message.size ≤ m
structure GAcceptedIn (lo hi : Nat) (w : World) (n : GAccepted) (v1 : Value) : Prop where
  s1 : ∃ a c, v1 = .slice a n.toF.length c ∧ TxL lo hi w a n.toF
set_option maxRecDepth 20000 in
theorem GAcceptedIn.same {lo hi : Nat} {w w' : World} {n : GAccepted} {v1 : Value} (h : GAcceptedIn lo hi w n v1) (hs : Same lo hi w w') : GAcceptedIn lo hi w' n v1 := by
  obtain ⟨⟨a1, c1, e1, t1⟩⟩ := h
  exact ⟨⟨a1, c1, e1, t1.same hs⟩⟩
set_option maxRecDepth 20000 in
theorem GAcceptedIn.mono {lo lo' hi hi' : Nat} {w : World} {n : GAccepted} {v1 : Value} (h : GAcceptedIn lo hi w n v1) (hl : lo' ≤ lo) (hh : hi ≤ hi') : GAcceptedIn lo' hi' w n v1 := by
  obtain ⟨⟨a1, c1, e1, t1⟩⟩ := h
  exact ⟨⟨a1, c1, e1, t1.mono hl hh⟩⟩
structure GAcceptedAt (w : World) (A : Addr) (n : GAccepted) (v1 : Value) : Prop where
  c0 : w.cell? A = some (.string n.fromF)
  c1 : w.cell? ⟨A.block, A.off + 1, none⟩ = some (v1)
  c2 : w.cell? ⟨A.block, A.off + 2, none⟩ = some (.string n.user)
  c3 : w.cell? ⟨A.block, A.off + 3, none⟩ = some (.string n.message)
set_option maxRecDepth 20000 in
theorem GAcceptedAt.same {lo hi : Nat} {w w' : World} {A : Addr} {n : GAccepted} {v1 : Value} (h : GAcceptedAt w A n v1) (hs : Same lo hi w w') (h1 : lo ≤ A.block) (h2 : A.block < hi) : GAcceptedAt w' A n v1 :=
  ⟨(hs.cell h1 h2).trans h.c0, (hs.cell (p := ⟨A.block, A.off + 1, none⟩) h1 h2).trans h.c1, (hs.cell (p := ⟨A.block, A.off + 2, none⟩) h1 h2).trans h.c2, (hs.cell (p := ⟨A.block, A.off + 3, none⟩) h1 h2).trans h.c3⟩
def GAcceptedsL (lo hi : Nat) (w : World) (o : Option Addr) (F : List GAccepted) : Prop := ∀ i (h : i < F.length), ∃ a v1, o = some a ∧ lo ≤ a.block ∧ a.block < hi ∧ GAcceptedAt w (a.add (i * 4)) F[i] v1 ∧ GAcceptedIn lo hi w F[i] v1
set_option maxRecDepth 20000 in
theorem GAcceptedsL.same {lo hi : Nat} {w w' : World} {o : Option Addr} {F : List GAccepted} (h : GAcceptedsL lo hi w o F) (hs : Same lo hi w w') : GAcceptedsL lo hi w' o F := by
  intro i hi
  obtain ⟨a, v1, ho, h1, h2, h3, h4⟩ := h i hi
  exact ⟨a, v1, ho, h1, h2, h3.same hs (by rw [add_blockG]; exact h1) (by rw [add_blockG]; exact h2), h4.same hs⟩
set_option maxRecDepth 20000 in
theorem GAcceptedsL.mono {lo lo' hi hi' : Nat} {w : World} {o : Option Addr} {F : List GAccepted} (h : GAcceptedsL lo hi w o F) (hl : lo' ≤ lo) (hh : hi ≤ hi') : GAcceptedsL lo' hi' w o F := by
  intro i hi
  obtain ⟨a, v1, ho, h1, h2, h3, h4⟩ := h i hi
  exact ⟨a, v1, ho, Nat.le_trans hl h1, Nat.lt_of_lt_of_le h2 hh, h3, h4.mono hl hh⟩
set_option maxRecDepth 20000 in
theorem GAcceptedsL.below {lo hi B : Nat} {w w' : World} {o : Option Addr} {F : List GAccepted} (h : GAcceptedsL lo hi w o F) (hb : Below B w w') (hB : hi ≤ B) : GAcceptedsL lo hi w' o F := h.same (Same.of_below hb hB)
set_option maxRecDepth 20000 in
set_option maxHeartbeats 1000000 in
theorem lawSzAccepted (n : GAccepted) (v1 : Value) (left lo : Nat) (w : World) (hI : GAcceptedIn lo w.heap.size w n v1) (hf : n.fits maxLen) (hl : left ≤ 1048576) :
    Calls Tryd.prog 9 #[GAcceptedV n v1, .int .i64 left] w fun e w' => ∃ r : Int, e = .returned (.int .i64 r) ∧ Hid (r = -1 ∨ ∃ m : Nat, r = m ∧ m ≤ left ∧ n.fits 1048576) ∧ Below w.heap.size w w' := by
  obtain ⟨⟨a1, c1, rfl, t1⟩⟩ := hI
  obtain ⟨f0_0, f1_0, f1_1, f2_0, f3_0⟩ := hf
  have H1 := mkHid fun (w' : World) (hb : Below w.heap.size w w') (m : Nat) (hm : m ≤ 1048576) => lawSzSStr a1 n.toF c1 m lo w' ((t1.below hb (Nat.le_refl _)).mono (Nat.le_refl _) hb.size) f1_0 f1_1 hm
  unfold GAcceptedV
  unfold maxLen at f0_0
  unfold maxLen at f2_0
  unfold maxLen at f3_0
  clear f1_0 f1_1 t1
  obtain ⟨W, hW⟩ : ∃ W, W = w.alloc (.cells #[.string n.fromF, .slice a1 n.toF.length c1, .string n.user, .string n.message] 32) := ⟨_, rfl⟩
  have hbW : Below w.heap.size w W := by rw [hW]; exact (Below.refl _ _).alloc (Nat.le_refl _) _
  have hWs : w.heap.size < W.heap.size := by rw [hW]; simp
  have q0_2 : W.cell? ⟨w.heap.size, 2, none⟩ = some (.string n.user) := by rw [hW]; simp
  have q0_3 : W.cell? ⟨w.heap.size, 3, none⟩ = some (.string n.message) := by rw [hW]; simp
  have HW := mkHid hW
  clear hW
  by_cases h0 : left < n.fromF.size
  · go_enter Tryd.func9, Tryd.ntmps9
    go_wp2
    go_ret
    first | rw [← HW.out] | skip
    exact ⟨-1, rfl, .inl rfl, hbW⟩
  · obtain ⟨l0, h0a⟩ : ∃ l : Nat, left - n.fromF.size = l := ⟨_, rfl⟩
    have h0b : (left : Int) - (n.fromF.size : Int) = (l0 : Int) := by omega
    have h0c : l0 ≤ left := by omega
    have g0 : Hid (n.fromF.size ≤ 1048576) := by show _ ≤ _; omega
    clear h0a
    go_enter Tryd.func9, Tryd.ntmps9
    go_wp2_with fail
    rw [← HW.out]
    refine (H1.out W hbW l0 (by omega)).mono ?_
    rintro e w1 ⟨r1, rfl, hr1, hb1⟩
    have q1_2 := (hb1.cell (p := ⟨w.heap.size, 2, none⟩) hWs).trans q0_2
    have q1_3 := (hb1.cell (p := ⟨w.heap.size, 3, none⟩) hWs).trans q0_3
    have hz1 : w.heap.size < w1.heap.size := Nat.lt_of_lt_of_le hWs hb1.size
    have hbw1 := hbW.trans (hb1.mono (Nat.le_of_lt hWs))
    clear hb1 HW q0_2 q0_3
    rcases hr1.out with rfl | ⟨m1, rfl, hm1, hf1⟩
    · clear hr1
      go_wp2
      go_ret
      exact ⟨-1, rfl, .inl rfl, hbw1⟩
    · replace hf1 := mkHid hf1
      clear hr1
      by_cases h2 : m1 < n.user.size
      · go_wp2
        go_ret
        exact ⟨-1, rfl, .inl rfl, hbw1⟩
      · obtain ⟨l2, h2a⟩ : ∃ l : Nat, m1 - n.user.size = l := ⟨_, rfl⟩
        have h2b : (m1 : Int) - (n.user.size : Int) = (l2 : Int) := by omega
        have h2c : l2 ≤ m1 := by omega
        have g2 : Hid (n.user.size ≤ 1048576) := by show _ ≤ _; omega
        clear h2a
        by_cases h3 : l2 < n.message.size
        · go_wp2
          go_ret
          exact ⟨-1, rfl, .inl rfl, hbw1⟩
        · obtain ⟨l3, h3a⟩ : ∃ l : Nat, l2 - n.message.size = l := ⟨_, rfl⟩
          have h3b : (l2 : Int) - (n.message.size : Int) = (l3 : Int) := by omega
          have h3c : l3 ≤ l2 := by omega
          have g3 : Hid (n.message.size ≤ 1048576) := by show _ ≤ _; omega
          clear h3a
          go_wp2
          go_ret
          exact ⟨_, rfl, .inr ⟨l3, rfl, by omega, g0.out, hf1.out.1, hf1.out.2, g2.out, g3.out⟩, hbw1⟩
set_option maxRecDepth 20000 in
set_option maxHeartbeats 1000000 in
theorem lawSzSAccepted (o : Option Addr) (F : List GAccepted) (cap left lo : Nat) (w : World) (hF : GAcceptedsL lo w.heap.size w o F) (hlen : F.length ≤ maxLen) (hsz : ∀ f ∈ F, f.fits maxLen) (hl : left ≤ 1048576) :
    Calls Tryd.prog 4 #[.slice o F.length cap, .int .i64 left] w fun e w' => ∃ r : Int, e = .returned (.int .i64 r) ∧ Hid (r = -1 ∨ ∃ m : Nat, r = m ∧ m ≤ left ∧ F.length ≤ 1048576 ∧ ∀ f ∈ F, f.fits 1048576) ∧ Below w.heap.size w w' := by
  unfold maxLen at hlen
  by_cases hn : left < F.length
  · clear hF hsz
    go_enter Tryd.func4, Tryd.ntmps4
    go_wp2
    go_ret
    exact ⟨-1, rfl, Or.inl rfl, Below.refl _ _⟩
  · obtain ⟨l0, hl0⟩ : ∃ l : Nat, left - F.length = l := ⟨_, rfl⟩
    have hl1 : (left : Int) - (F.length : Int) = (l0 : Int) := by omega
    have hl2 : l0 ≤ left := by omega
    have hl3 : F.length ≤ 1048576 := by omega
    have HF := mkHid hF
    have Hsz := mkHid hsz
    clear hF hsz hl0
    go_enter Tryd.func4, Tryd.ntmps4
    go_wp2
    clear hl1
    go_loopw [1, 5] (fun l i wr => ∃ (k m : Nat), k ≤ F.length ∧ i = .int .i64 k ∧ m ≤ left ∧ l = .int .i64 m ∧ Hid (∀ j (h : j < F.length), j < k → F[j].fits 1048576) ∧ Below w.heap.size w wr) (fun _ i _ => F.length - (Lib.intOf i).toNat)
    case atStart => exact ⟨0, l0, Nat.zero_le _, rfl, hl2, rfl, fun j h h0 => absurd h0 (Nat.not_lt_zero _), Below.refl _ _⟩
    case round =>
      obtain ⟨k, m, hk, rfl, hm, rfl, hall, hb⟩ := hrel
      by_cases hlt : k < F.length
      · obtain ⟨a, v1, rfl, ha1, ha2, hA, hI⟩ := (HF.out.below hb (Nat.le_refl _)) k hlt
        have hS := mkHid (lawSzAccepted F[k] v1 m lo wr (hI.mono (Nat.le_refl _) hb.size) (Hsz.out _ (List.getElem_mem hlt)) (by omega))
        have c0 := hA.c0
        have c1 := hA.c1
        have c2 := hA.c2
        have c3 := hA.c3
        clear hA hI
        unfold GAcceptedV at hS
        generalize hf : F[k] = f at *
        have Hf := mkHid hf
        clear hf
        go_wp2_with fail
        refine hS.out.mono ?_
        rintro e w1 ⟨r1, rfl, hr1, hb1⟩
        have hb2 := mkHid (hb.trans (hb1.mono hb.size))
        clear hS c0 c1 c2 c3 hb1 hb
        rcases hr1.out with rfl | ⟨m1, rfl, hm1, hft⟩
        · clear hr1
          go_wp2
          go_ret
          exact ⟨-1, rfl, Or.inl rfl, hb2.out⟩
        · replace hft := mkHid hft
          clear hr1
          go_wp2
          go_roundw
          case rel =>
            refine ⟨k + 1, m1, by omega, by go_num, by omega, rfl, ?_, hb2.out⟩
            intro j h hj
            by_cases hjk : j < k
            · exact hall.out j h hjk
            · have : j = k := by omega
              subst this
              rw [Hf.out]; exact hft.out
          case measure => simp [Lib.intOf]; omega
      · have Hall : Hid (∀ f ∈ F, f.fits 1048576) := by
          intro t ht
          obtain ⟨j, hj, rfl⟩ := List.getElem_of_mem ht
          exact hall.out j hj (by omega)
        go_wp2
        go_ret
        exact ⟨_, rfl, Or.inr ⟨m, rfl, hm, hl3, Hall.out⟩, hb⟩
set_option maxHeartbeats 4000000 in
set_option maxRecDepth 20000 in
theorem lawToXAccepted (n : GAccepted) (u1 : Value) (lo : Nat) (w : World) (hI : GAcceptedIn lo w.heap.size w n u1) (hf : n.fits 1048576) :
    Calls Tryd.prog 14 #[GAcceptedV n u1] w fun e w' => ∃ v1 : Value, e = .returned (GAcceptedV n v1) ∧ Hid (GAcceptedIn w.heap.size w'.heap.size w' n v1) ∧ Below w.heap.size w w' ∧ Hid (Soft w.heap.size w') := by
  obtain ⟨⟨a1, c1, rfl, t1⟩⟩ := hI
  obtain ⟨f0_0, f1_0, f1_1, f2_0, f3_0⟩ := hf
  have H1 := mkHid fun (w' : World) (hb : Below w.heap.size w w') => lawToSXStr a1 n.toF c1 lo w' ((t1.below hb (Nat.le_refl _)).mono (Nat.le_refl _) hb.size) f1_0 f1_1
  clear f0_0 f1_0 f1_1 f2_0 f3_0 t1
  obtain ⟨G, hG⟩ : ∃ G, w.heap.size = G := ⟨_, rfl⟩
  obtain ⟨V0, hV0⟩ : ∃ W, W = ((w.alloc (.cells #[.string n.fromF, .slice a1 n.toF.length c1, .string n.user, .string n.message] 32)).alloc (.cells #[.string ⟨#[]⟩, .slice none 0 0, .string ⟨#[]⟩, .string ⟨#[]⟩] 34)).alloc (.cells #[.string n.fromF, .slice none 0 0, .string ⟨#[]⟩, .string ⟨#[]⟩] 34) := ⟨_, rfl⟩
  obtain ⟨hb0, hs0, hP0, hR0, hO0⟩ := three_blocks hG hV0
  have hSf := mkHid (show Soft G V0 by rw [hV0, ← hG]; exact (((Soft.refl _).alloc _ _).alloc _ _).alloc _ _)
  have HV0 := mkHid hV0
  clear hV0
  have hG' := mkHid hG
  unfold GAcceptedV
  go_enter Tryd.func14, Tryd.ntmps14
  go_wp2_with fail
  rw [← HV0.out]
  refine (H1.out V0 (by rw [hG]; exact hb0)).mono ?_
  rintro e w1 ⟨rfl, hT1, hw1, hsf1⟩
  replace hSf := mkHid (hSf.out.call hw1 hsf1.out)
  obtain ⟨g1, hg1⟩ : ∃ g, V0.heap.size = g := ⟨_, rfl⟩
  rw [hg1] at hT1 hw1 hs0 ⊢
  have hw1s := hw1.size
  rw [hg1] at hw1s
  have hP1a := (hw1.block G (by omega)).trans hP0
  have hR1a := (hw1.block (G + 1) (by omega)).trans hR0
  have hO1a := (hw1.block (G + 1 + 1) (by omega)).trans hO0
  have p1_2 : w1.cell? ⟨G, 2, none⟩ = some (.string n.user) := by simp [World.cell?, hP1a]
  have p1_3 : w1.cell? ⟨G, 3, none⟩ = some (.string n.message) := by simp [World.cell?, hP1a]
  have x1_1 : w1.cell? ⟨G + 1 + 1, 1, none⟩ = some (.slice none 0 0) := by simp [World.cell?, hO1a]
  have z1_1 : w1.frozen? ⟨G + 1 + 1, 1, none⟩ = false := by simp [World.frozen?, hO1a]
  have x1_2 : w1.cell? ⟨G + 1 + 1, 2, none⟩ = some (.string ⟨#[]⟩) := by simp [World.cell?, hO1a]
  have z1_2 : w1.frozen? ⟨G + 1 + 1, 2, none⟩ = false := by simp [World.frozen?, hO1a]
  have x1_3 : w1.cell? ⟨G + 1 + 1, 3, none⟩ = some (.string ⟨#[]⟩) := by simp [World.cell?, hO1a]
  have z1_3 : w1.frozen? ⟨G + 1 + 1, 3, none⟩ = false := by simp [World.frozen?, hO1a]
  obtain ⟨V1, hV1⟩ : ∃ V, V = ((w1.setCell ⟨G + 1 + 1, 1, none⟩ (.slice (some ⟨g1, 0, none⟩) n.toF.length n.toF.length)).setCell ⟨G + 1 + 1, 2, none⟩ (.string n.user)).setCell ⟨G + 1 + 1, 3, none⟩ (.string n.message) := ⟨_, rfl⟩
  replace hSf := mkHid (show Soft G V1 by rw [hV1]; exact (((hSf.out.set _ _ _).set _ _ _).set _ _ _))
  have hgr1 : w1.grownBy V1 (some (G + 1 + 1)) := by rw [hV1]; exact grG_trans (grG_trans (grG_set _ _ _ _) (grG_set _ _ _ _)) (grG_set _ _ _ _)
  have hP1 := (hgr1.block G (by omega) (by simp; omega)).trans hP1a
  have hR1 := (hgr1.block (G + 1) (by omega) (by simp)).trans hR1a
  have hO1 : V1.heap[G + 1 + 1]? = some (.cells #[.string n.fromF, .slice (some ⟨g1, 0, none⟩) n.toF.length n.toF.length, .string n.user, .string n.message] 34 (0, 0)) := by rw [hV1]; simp [World.setCell, Array.getElem?_modify, hO1a]
  have hs1 : G + 3 ≤ V1.heap.size := Nat.le_trans (Nat.le_trans hs0 hw1s) hgr1.size
  have hb1 : Below G w V1 := (hb0.trans (hw1.mono (by omega))).grown hgr1 (by omega) (fun k hk => by cases hk; omega)
  replace hT1 := mkHid ((hT1.out.same (Same.gr hgr1 (by omega) (Nat.le_refl _))).mono (show G + 3 ≤ _ by omega) hgr1.size)
  replace hV1 := mkHid hV1
  have HV1 := hV1
  clear hP1a hR1a hO1a hP0 hR0 hO0 hw1 HV0 hgr1 hb0
  clear hs0 hg1 hw1s
  have hgz := grown_setRow V1 (G + 1) #[.string n.fromF, .slice (some ⟨g1, 0, none⟩) n.toF.length n.toF.length, .string n.user, .string n.message]
  have hSz := mkHid (hSf.out.setRow (G + 1) #[.string n.fromF, .slice (some ⟨g1, 0, none⟩) n.toF.length n.toF.length, .string n.user, .string n.message])
  clear hSf
  have hbz := mkHid (hb1.grown hgz (by omega) (fun k hk => by cases hk; omega))
  replace hT1 := mkHid ((hT1.out.same (Same.gr hgz (by omega) (Nat.le_refl _))).mono (show G ≤ _ by omega) hgz.size)
  rw [HV1.out] at hT1 hbz hSz hO1 hR1
  clear hgz HV1 hV1 hb1 hP1 hs1
  go_wp2_with (first | (refine wpL_load_row rfl 34 _ rfl (G + 1 + 1) _ 34 (0, 0) _ rfl hO1 Tryd.underlying34 rfl (by kernel_rfl) ?_) | (refine wpL_store_row rfl 34 _ _ rfl (G + 1) _ rfl rfl 34 _ hR1 (by kernel_rfl) rfl (by simp [Value.oneCell']) ?_) | go_in)
  refine bodyPost_ret (v := .agg #[.string n.fromF, .slice (some ⟨g1, 0, none⟩) n.toF.length n.toF.length, .string n.user, .string n.message]) (results_cell_row Tryd.results14 _ _ (G + 1) 34 _ (0, 0) _ rfl (setRow_heap _ _ _ _ _ _ hR1) Tryd.underlying34 rfl (by kernel_rfl)) rfl ?_
  rw [hG]
  exact ⟨_, rfl, ⟨⟨_, _, rfl, hT1.out⟩⟩, hbz.out, hSz⟩
set_option maxRecDepth 20000 in
theorem lawToAccepted (n : GAccepted) (u1 : Value) (lo : Nat) (w : World) (hI : GAcceptedIn lo w.heap.size w n u1) (hf : n.fits 1048576) :
    Calls Tryd.prog 14 #[GAcceptedV n u1] w fun e w' => ∃ v1 : Value, e = .returned (GAcceptedV n v1) ∧ Hid (GAcceptedIn w.heap.size w'.heap.size w' n v1) ∧ Below w.heap.size w w' :=
  (lawToXAccepted n u1 lo w hI hf).mono fun _ _ ⟨v1, h1, h2, h3, _⟩ => ⟨v1, h1, h2, h3⟩
structure GAcceptedL (f : Nat → Value) (j : Nat) (n : GAccepted) (v1 : Value) : Prop where
  c0 : f (j * 4) = .string n.fromF
  c1 : f (j * 4 + 1) = v1
  c2 : f (j * 4 + 2) = .string n.user
  c3 : f (j * 4 + 3) = .string n.message
def GAcceptedSet (w : World) (g k : Nat) (n : GAccepted) (v1 : Value) : World := ((((w.setCell ⟨g, k * 4, none⟩ (.string n.fromF)).setCell ⟨g, k * 4 + 1, none⟩ (v1)).setCell ⟨g, k * 4 + 2, none⟩ (.string n.user)).setCell ⟨g, k * 4 + 3, none⟩ (.string n.message))
set_option maxRecDepth 20000 in
theorem GAcceptedRow {w : World} {g t N : Nat} {f : Nat → Value} (h : w.rowIs g t N f) (k : Nat) (n : GAccepted) (v1 : Value) :
    ∃ f', (GAcceptedSet w g k n v1).rowIs g t N f' ∧ GAcceptedL f' k n v1 ∧ ∀ (j : Nat) (m : GAccepted) (q1 : Value), j ≠ k → GAcceptedL f j m q1 → GAcceptedL f' j m q1 := by
  refine ⟨_, ((((h.set _ _).set _ _).set _ _).set _ _), ?_, ?_⟩
  · constructor <;> simp
  · intro j m q1 hj hl
    obtain ⟨c0, c1, c2, c3⟩ := hl
    constructor <;> rw [if_neg (by omega), if_neg (by omega), if_neg (by omega), if_neg (by omega)] <;> assumption
set_option maxRecDepth 20000 in
theorem GAcceptedGr (w : World) (g k : Nat) (n : GAccepted) (v1 : Value) : w.grownBy (GAcceptedSet w g k n v1) (some g) := grG_trans (grG_trans (grG_trans (grG_set _ _ _ _) (grG_set _ _ _ _)) (grG_set _ _ _ _)) (grG_set _ _ _ _)
set_option maxRecDepth 20000 in
theorem Tryd.infoGAccepted : (Tryd.prog.info? 34).map (fun i => (i.zero, i.size, i.bytes)) = some (some (.agg #[.string ⟨#[]⟩, .slice none 0 0, .string ⟨#[]⟩, .string ⟨#[]⟩]), 4, 72) := by kernel_rfl
set_option maxHeartbeats 4000000 in
set_option maxRecDepth 20000 in
theorem lawToSXAccepted (o : Option Addr) (F : List GAccepted) (cap lo : Nat) (w : World) (hF : GAcceptedsL lo w.heap.size w o F) (hlen : F.length ≤ 1048576) (hfit : ∀ f ∈ F, f.fits 1048576) :
    Calls Tryd.prog 6 #[.slice o F.length cap] w fun e w' => e = .returned (.slice (some ⟨w.heap.size, 0, none⟩) F.length F.length) ∧ Hid (GAcceptedsL w.heap.size w'.heap.size w' (some ⟨w.heap.size, 0, none⟩) F) ∧ Below w.heap.size w w' ∧ Hid (Soft w.heap.size w') := by
  obtain ⟨i0, hi, hy0, hy1, hy2⟩ := info_parts Tryd.infoGAccepted
  have hmk := run_make (P := Tryd.prog) w 25 34 i0 _ Tryd.underlying25 hi hy0 .i64 .i64 F.length F.length (by omega) (Int.le_refl _) (by rw [hy2]; omega) (by omega)
  simp only [Int.toNat_natCast, hy1] at hmk
  have HF := mkHid hF
  have Hfit := mkHid hfit
  clear hF hfit
  obtain ⟨c0, hc0⟩ : ∃ c0, c0 = madeCells (Value.cells (.agg #[.string ⟨#[]⟩, .slice none 0 0, .string ⟨#[]⟩, .string ⟨#[]⟩])) (F.length * 4) := ⟨_, rfl⟩
  have hcs : c0.size = F.length * 4 := by rw [hc0]; exact size_madeCells _ _
  rw [← hc0] at hmk
  have Hrow0 : Hid (∃ f, (w.alloc (.cells c0 34)).rowIs w.heap.size 34 (F.length * 4) f) := by
    refine ⟨fun j => c0[j]!, ?_⟩
    have := World.rowIs_alloc w c0 34 (fun j => c0[j]!) (fun i hi => by simp [hi])
    rw [hcs] at this
    exact this
  clear hc0 hcs
  go_enter Tryd.func6, Tryd.ntmps6
  go_wp2
  clear hmk
  generalize hG : w.heap.size = G at *
  go_loopw [4] (fun i wr => ∃ (k : Nat) (f : Nat → Value), k ≤ F.length ∧ i = .int .i64 k ∧ wr.rowIs G 34 (F.length * 4) f ∧ Hid (∀ j (h : j < F.length), j < k → ∃ v1, GAcceptedL f j F[j] v1 ∧ GAcceptedIn (G + 1) wr.heap.size wr F[j] v1) ∧ Below G w wr ∧ Hid (Soft G wr)) (fun i _ => F.length - (Lib.intOf i).toNat)
  case atStart =>
    obtain ⟨f, hx⟩ := Hrow0.out
    exact ⟨0, f, Nat.zero_le _, rfl, hx, fun j h h0 => absurd h0 (Nat.not_lt_zero _), (Below.refl _ _).alloc (by omega) _, by rw [← hG]; exact (Soft.refl _).alloc _ _⟩
  case round =>
    clear Hrow0
    obtain ⟨k, f, hk, rfl, hrow, hall, hb, hSf⟩ := hrel
    by_cases hlt : k < F.length
    · obtain ⟨a, u1, rfl, ha1, ha2, hA, hI⟩ := (HF.out.below hb (Nat.le_refl _)) k hlt
      have hGl := hrow.lt
      have hT := mkHid (lawToXAccepted F[k] u1 lo wr (hI.mono (Nat.le_refl _) (by omega)) (Hfit.out _ (List.getElem_mem hlt)))
      have c0 := hA.c0
      have c1 := hA.c1
      have c2 := hA.c2
      have c3 := hA.c3
      obtain ⟨⟨a1, k1, rfl, -⟩⟩ := hI
      clear hA
      generalize hf : F[k] = n at *
      have Hf := mkHid hf
      clear hf
      unfold GAcceptedV at hT
      go_wp2_with fail
      refine hT.out.mono ?_
      rintro e w1 ⟨v1, rfl, hTx, hb1, hsf1⟩
      have hTx1 := hTx.out
      obtain ⟨⟨b1, m1, rfl, -⟩⟩ := hTx1
      have hrow1 : w1.rowIs G 34 (F.length * 4) f := hrow.of_block (hb1.block G hGl)
      have hgr := GAcceptedGr w1 G k n (.slice b1 n.toF.length m1)
      obtain ⟨f', hrow2, hL, hLo⟩ := GAcceptedRow hrow1 k n (.slice b1 n.toF.length m1)
      have hb1s := hb1.size
      have hS2 : Hid (Soft G (GAcceptedSet w1 G k n (.slice b1 n.toF.length m1))) := (((((hSf.out.call hb1 hsf1.out).set _ _ _).set _ _ _).set _ _ _).set _ _ _)
      have hb2 : Below G w (GAcceptedSet w1 G k n (.slice b1 n.toF.length m1)) := (hb.trans (hb1.mono (by omega))).grown hgr (by omega) (fun j hj => by cases hj; exact Nat.le_refl _)
      have hIn2 := (hTx.out.mono (show G + 1 ≤ _ by omega) (Nat.le_refl _) |>.same (Same.gr hgr (by omega) (Nat.le_refl _))).mono (Nat.le_refl _) hgr.size
      have Hall : Hid (∀ j (h : j < F.length), j < k + 1 → ∃ v1, GAcceptedL f' j F[j] v1 ∧ GAcceptedIn (G + 1) (GAcceptedSet w1 G k n (.slice b1 n.toF.length m1)).heap.size (GAcceptedSet w1 G k n (.slice b1 n.toF.length m1)) F[j] v1) := by
        intro j h hj
        by_cases hjk : j = k
        · subst hjk
          rw [Hf.out]
          exact ⟨_, hL, hIn2⟩
        · obtain ⟨h1, hl, hm⟩ := hall.out j h (by omega)
          exact ⟨h1, hLo j _ _ hjk hl, (((hm.same (Same.of_below hb1 (Nat.le_refl _))).mono (Nat.le_refl _) hb1s).same (Same.gr hgr (by omega) (Nat.le_refl _))).mono (Nat.le_refl _) hgr.size⟩
      have hd := fun (j : Nat) (hj : j < 4) => hrow1.cell (i := k * 4 + j) (by omega)
      have d0 := hd 0 (by omega)
      have d1 := hd 1 (by omega)
      have d2 := hd 2 (by omega)
      have d3 := hd 3 (by omega)
      have z0 := hrow1.frozen (k * 4)
      have z1 := hrow1.frozen (k * 4 + 1)
      have z2 := hrow1.frozen (k * 4 + 2)
      have z3 := hrow1.frozen (k * 4 + 3)
      rw [Nat.add_zero] at d0
      have hadd := add_off G (k * 4)
      replace hrow2 := mkHid hrow2
      replace hb2 := mkHid hb2
      clear hd hrow hrow1 hL hLo hgr hall hb hb1 hb1s hT c0 c1 c2 c3 hTx hIn2
      unfold GAcceptedSet at hrow2 hb2 hS2 Hall
      go_wp2
      go_roundw
      case rel => exact ⟨k + 1, f', by omega, by go_num, hrow2.out, Hall.out, hb2.out, hS2⟩
      case measure => simp [Lib.intOf]; omega
    · go_wp2
      go_ret
      refine ⟨by rw [hG]; rfl, ?_, by rw [hG]; exact hb, by rw [hG]; exact hSf⟩
      intro i hi
      obtain ⟨v1, hl, hm⟩ := hall.out i hi (by omega)
      refine ⟨⟨w.heap.size, 0, none⟩, v1, rfl, Nat.le_refl _, by rw [hG]; exact hrow.lt, ?_, hm.mono (by rw [hG]; omega) (Nat.le_refl _)⟩
      rw [add_off, hG]
      have hd := fun (j : Nat) (hj : j < 4) => hrow.cell (i := i * 4 + j) (by omega)
      refine ⟨?_, ?_, ?_, ?_⟩
      · have := hd 0 (by omega); rw [Nat.add_zero, hl.c0] at this; exact this
      · have := hd 1 (by omega); rw [hl.c1] at this; exact this
      · have := hd 2 (by omega); rw [hl.c2] at this; exact this
      · have := hd 3 (by omega); rw [hl.c3] at this; exact this
set_option maxRecDepth 20000 in
theorem lawToSAccepted (o : Option Addr) (F : List GAccepted) (cap lo : Nat) (w : World) (hF : GAcceptedsL lo w.heap.size w o F) (hlen : F.length ≤ 1048576) (hfit : ∀ f ∈ F, f.fits 1048576) :
    Calls Tryd.prog 6 #[.slice o F.length cap] w fun e w' => e = .returned (.slice (some ⟨w.heap.size, 0, none⟩) F.length F.length) ∧ Hid (GAcceptedsL w.heap.size w'.heap.size w' (some ⟨w.heap.size, 0, none⟩) F) ∧ Below w.heap.size w w' :=
  (lawToSXAccepted o F cap lo w hF hlen hfit).mono fun _ _ ⟨h1, h2, h3, _⟩ => ⟨h1, h2, h3⟩
set_option maxRecDepth 20000 in
set_option maxHeartbeats 1000000 in
theorem lawEqAccepted (n : GAccepted) (v1 : Value) (u1 : Value) (lo lo' : Nat) (w : World) (hI : GAcceptedIn lo w.heap.size w n v1) (hJ : GAcceptedIn lo' w.heap.size w n u1) (hf : n.fits 1048576) :
    Calls Tryd.prog 21 #[GAcceptedV n v1, GAcceptedV n u1] w fun e w' => e = .returned (.bool true) ∧ Below w.heap.size w w' := by
  obtain ⟨⟨a1, c1, rfl, t1⟩⟩ := hI
  obtain ⟨⟨b1, d1, rfl, s1⟩⟩ := hJ
  obtain ⟨f0_0, f1_0, f1_1, f2_0, f3_0⟩ := hf
  have H1 := mkHid fun (w' : World) (hb : Below w.heap.size w w') => lawEqSStr a1 b1 n.toF c1 d1 lo lo' w' ((t1.below hb (Nat.le_refl _)).mono (Nat.le_refl _) hb.size) ((s1.below hb (Nat.le_refl _)).mono (Nat.le_refl _) hb.size) f1_0
  clear f0_0 f1_0 f1_1 f2_0 f3_0 t1 s1
  unfold GAcceptedV
  obtain ⟨W0, hW⟩ : ∃ W, W = (w.alloc (.cells #[.string n.fromF, .slice a1 n.toF.length c1, .string n.user, .string n.message] 34)).alloc (.cells #[.string n.fromF, .slice b1 n.toF.length d1, .string n.user, .string n.message] 34) := ⟨_, rfl⟩
  obtain ⟨hb0, hs0, hA0, hB0⟩ := two_blocks hW
  have HW := mkHid hW
  clear hW
  go_enter Tryd.func21, Tryd.ntmps21
  go_wp2_with fail
  rw [← HW.out]
  refine (H1.out W0 hb0).mono ?_
  rintro e W1 ⟨rfl, hw1⟩
  have hw1s := hw1.size
  have hA1 := (hw1.block w.heap.size (by omega)).trans hA0
  have hB1 := (hw1.block (w.heap.size + 1) (by omega)).trans hB0
  have hb1 := hb0.trans (hw1.mono (by omega))
  have hs1 : w.heap.size + 2 ≤ W1.heap.size := Nat.le_trans hs0 hw1s
  have p1_2 : W1.cell? ⟨w.heap.size, 2, none⟩ = some (.string n.user) := by simp [World.cell?, hA1]
  have q1_2 : W1.cell? ⟨w.heap.size + 1, 2, none⟩ = some (.string n.user) := by simp [World.cell?, hB1]
  have p1_3 : W1.cell? ⟨w.heap.size, 3, none⟩ = some (.string n.message) := by simp [World.cell?, hA1]
  have q1_3 : W1.cell? ⟨w.heap.size + 1, 3, none⟩ = some (.string n.message) := by simp [World.cell?, hB1]
  clear hA0 hB0 hw1 hs0 hb0 hw1s HW
  clear hA1 hB1 hs1
  go_wp2
  go_ret
  exact ⟨rfl, hb1⟩
set_option maxHeartbeats 2000000 in
set_option maxRecDepth 10000 in
theorem lawEqSAccepted (a b : Option Addr) (F : List GAccepted) (cap cap' lo lo' : Nat) (w : World) (hF : GAcceptedsL lo w.heap.size w a F) (hG : GAcceptedsL lo' w.heap.size w b F) (hlen : F.length ≤ 1048576) (hfit : ∀ f ∈ F, f.fits 1048576) :
    Calls Tryd.prog 8 #[.slice a F.length cap, .slice b F.length cap'] w fun e w' => e = .returned (.bool true) ∧ Below w.heap.size w w' := by
  have HF := mkHid hF
  have HG := mkHid hG
  have Hfit := mkHid hfit
  clear hF hG hfit
  go_enter Tryd.func8, Tryd.ntmps8
  go_wp2
  go_loopw [5] (fun i wr => ∃ k : Nat, k ≤ F.length ∧ i = .int .i64 k ∧ Below w.heap.size w wr) (fun i _ => F.length - (Lib.intOf i).toNat)
  case atStart => exact ⟨0, Nat.zero_le _, rfl, Below.refl _ _⟩
  case round =>
    obtain ⟨k, hk, rfl, hb0⟩ := hrel
    by_cases hlt : k < F.length
    · obtain ⟨a', v1, rfl, ha, ha', hA, hI⟩ := (HF.out.below hb0 (Nat.le_refl _)) k hlt
      obtain ⟨b', u1, rfl, hb, hb', hB, hJ⟩ := (HG.out.below hb0 (Nat.le_refl _)) k hlt
      have hE := mkHid fun (w' : World) (hb' : Below wr.heap.size wr w') => lawEqAccepted F[k] v1 u1 lo lo' w' ((hI.mono (Nat.le_refl _) hb0.size).same (Same.of_below hb' (Nat.le_refl _)) |>.mono (Nat.le_refl _) hb'.size) ((hJ.mono (Nat.le_refl _) hb0.size).same (Same.of_below hb' (Nat.le_refl _)) |>.mono (Nat.le_refl _) hb'.size) (Hfit.out _ (List.getElem_mem hlt))
      have c0 := hA.c0
      have c1 := hA.c1
      have c2 := hA.c2
      have c3 := hA.c3
      have d0 := hB.c0
      have d1 := hB.c1
      have d2 := hB.c2
      have d3 := hB.c3
      clear hA hB hI hJ
      generalize F[k] = n at *
      have cE : Hid (∀ d os, Calls Tryd.prog 21 #[GAcceptedV n v1, GAcceptedV n u1] (Go.Sort.grow (redrawn wr d) os) fun e w'' => e = .returned (.bool true) ∧ ∃ p : Regrown, w'' = Go.Sort.grow (redrawn wr p.d) p.os) := fun d os => Calls.regrown_of (hE.out _ (below_regrown wr d os))
      unfold GAcceptedV at cE
      go_wp2
      have k0 := cell_regrown c0
      have l0 := cell_regrown d0
      have k1 := cell_regrown c1
      have l1 := cell_regrown d1
      have k2 := cell_regrown c2
      have l2 := cell_regrown d2
      have k3 := cell_regrown c3
      have l3 := cell_regrown d3
      clear hE c0 c1 c2 c3 d0 d1 d2 d3
      refine wp_region_quiet_below (by kernel_rfl) (by kernel_rfl) ?_
      repeat (go_big_quiet_step (exact cE.out _ _))
      refine wpQuiet_nil ?_
      intro _ hw'
      obtain ⟨⟨dq, osq⟩, hw''⟩ := hw'
      subst hw''
      have hbq := mkHid (hb0.trans ((below_regrown wr dq osq).mono hb0.size))
      generalize Go.Sort.grow (redrawn wr dq) osq = wq at *
      clear k0 k1 k2 k3 l0 l1 l2 l3 cE hb0
      go_wp2
      go_roundw
      case rel => exact ⟨k + 1, by omega, by go_num, hbq.out⟩
      case measure => simp [Lib.intOf]; omega
    · go_wp2
      go_ret
      exact ⟨rfl, hb0⟩
end Go.Proofs.YthgjflgidalmlaaDoor
