
/- Lists of instructions in memory: handed in, made anew, held against one another. -/
import Derived.Test.YtopbokfloapbeaaNodes3
import Derived.Lib.QuietBelow
import Derived.Deep.QuietTactic
import Derived.BigQuiet
namespace Go.Proofs.Ytopbokfloapbeaa
open Go.RowKit Go.Lib Go.Maps
structure Cd where
  op : Int
  to : Int
  nd : Nd
def cdV (c : Cd) (vn vk vd : Value) : Value := .agg #[.int .i64 c.op, .int .i64 c.to, .int .i64 c.nd.kind, .int .i64 c.nd.num, .int .i64 c.nd.mat, .string c.nd.text, vn, vk, vd]
/-- The nine cells of an instruction. -/
structure CdAt (w : World) (A : Addr) (c : Cd) (vn vk vd : Value) : Prop where
  c0 : w.cell? A = some (.int .i64 c.op)
  c1 : w.cell? ⟨A.block, A.off + 1, none⟩ = some (.int .i64 c.to)
  c2 : w.cell? ⟨A.block, A.off + 2, none⟩ = some (.int .i64 c.nd.kind)
  c3 : w.cell? ⟨A.block, A.off + 3, none⟩ = some (.int .i64 c.nd.num)
  c4 : w.cell? ⟨A.block, A.off + 4, none⟩ = some (.int .i64 c.nd.mat)
  c5 : w.cell? ⟨A.block, A.off + 5, none⟩ = some (.string c.nd.text)
  c6 : w.cell? ⟨A.block, A.off + 6, none⟩ = some vn
  c7 : w.cell? ⟨A.block, A.off + 7, none⟩ = some vk
  c8 : w.cell? ⟨A.block, A.off + 8, none⟩ = some vd
theorem CdAt.below {B : Nat} {w w' : World} {A : Addr} {n : Cd} {vn vk vd : Value} (h : CdAt w A n vn vk vd) (hb : Below B w w') (hA : A.block < B) : CdAt w' A n vn vk vd :=
  ⟨(hb.cell hA).trans h.c0, (hb.cell (p := ⟨A.block, A.off + 1, none⟩) hA).trans h.c1, (hb.cell (p := ⟨A.block, A.off + 2, none⟩) hA).trans h.c2, (hb.cell (p := ⟨A.block, A.off + 3, none⟩) hA).trans h.c3, (hb.cell (p := ⟨A.block, A.off + 4, none⟩) hA).trans h.c4, (hb.cell (p := ⟨A.block, A.off + 5, none⟩) hA).trans h.c5, (hb.cell (p := ⟨A.block, A.off + 6, none⟩) hA).trans h.c6, (hb.cell (p := ⟨A.block, A.off + 7, none⟩) hA).trans h.c7, (hb.cell (p := ⟨A.block, A.off + 8, none⟩) hA).trans h.c8⟩
def Cds (B : Nat) (w : World) (o : Option Addr) (F : List Cd) : Prop :=
  ∀ i (h : i < F.length), ∃ a vn vk vd, o = some a ∧ a.block < B ∧ CdAt w (a.add (i * 9)) F[i] vn vk vd ∧ NdIn B w F[i].nd vn vk vd
theorem Cds.below {B : Nat} {w w' : World} {o : Option Addr} {F : List Cd} (h : Cds B w o F) (hb : Below B w w') : Cds B w' o F := by
  intro i hi
  obtain ⟨a, vn, vk, vd, ho, ha, h1, h2⟩ := h i hi
  exact ⟨a, vn, vk, vd, ho, ha, h1.below hb (by rw [add_blockN]; exact ha), h2.below hb⟩
theorem Cds.mono {B B' : Nat} {w : World} {o : Option Addr} {F : List Cd} (h : Cds B w o F) (hB : B ≤ B') : Cds B' w o F := by
  intro i hi
  obtain ⟨a, vn, vk, vd, ho, ha, h1, h2⟩ := h i hi
  exact ⟨a, vn, vk, vd, ho, by omega, h1, h2.mono hB⟩
set_option maxHeartbeats 1000000 in
theorem lawSzCode (c : Cd) (vn vk vd : Value) (left : Nat) (w : World) (hI : NdIn w.heap.size w c.nd vn vk vd) (hf : c.nd.fits maxLen) (hl : left ≤ 1048576) :
    Calls Try.prog 9 #[cdV c vn vk vd, .int .i64 left] w fun e w' => ∃ r : Int, e = .returned (.int .i64 r) ∧ Hid (r = -1 ∨ ∃ m : Nat, r = m ∧ m ≤ left ∧ c.nd.fits 1048576) ∧ Below w.heap.size w w' := by
  have hbA : Below w.heap.size w (w.alloc (.cells #[.int .i64 c.op, .int .i64 c.to, .int .i64 c.nd.kind, .int .i64 c.nd.num, .int .i64 c.nd.mat, .string c.nd.text, vn, vk, vd] 35)) := (Below.refl _ _).alloc (Nat.le_refl _) _
  have hS := mkHid (lawSzNode c.nd vn vk vd left _ ((hI.below hbA).mono hbA.size) hf hl)
  obtain ⟨⟨a1, c1, rfl, -⟩, ⟨a2, c2, rfl, -⟩, ⟨a3, c3, rfl, -⟩⟩ := hI
  replace hbA := mkHid hbA
  clear hf
  unfold ndV at hS
  unfold cdV
  go_enter Try.func9, Try.ntmps9
  go_wp2_with fail
  refine hS.out.mono ?_
  rintro e w1 ⟨r1, rfl, hr1, hb1⟩
  have hb2 := mkHid (hbA.out.trans (hb1.mono hbA.out.size))
  clear hS hb1 hbA
  rcases hr1.out with rfl | ⟨m1, rfl, hm1, hft⟩
  · go_wp2
    go_ret
    exact ⟨-1, rfl, .inl rfl, hb2.out⟩
  · replace hft := mkHid hft
    clear hr1
    go_wp2
    go_ret
    exact ⟨_, rfl, .inr ⟨m1, rfl, hm1, hft.out⟩, hb2.out⟩
set_option maxHeartbeats 1000000 in
theorem lawSzCodes (o : Option Addr) (F : List Cd) (cap : Nat) (w : World) (hF : Cds w.heap.size w o F) (hlen : F.length ≤ maxLen) (hsz : ∀ f ∈ F, f.nd.fits maxLen) :
    Calls Try.prog 4 #[.slice o F.length cap, .int .i64 1048576] w fun e w' => ∃ r : Int, e = .returned (.int .i64 r) ∧ Hid (r = -1 ∨ 0 ≤ r ∧ F.length ≤ 1048576 ∧ ∀ f ∈ F, f.nd.fits 1048576) ∧ Below w.heap.size w w' := by
  unfold maxLen at hlen
  by_cases hn : 1048576 < F.length
  · clear hF hsz
    go_enter Try.func4, Try.ntmps4
    go_wp2
    go_ret
    exact ⟨-1, rfl, Or.inl rfl, Below.refl _ _⟩
  · have HF : Hid (Cds w.heap.size w o F) := hF
    have Hsz : Hid (∀ f ∈ F, f.nd.fits maxLen) := hsz
    clear hF hsz
    go_enter Try.func4, Try.ntmps4
    go_wp2
    go_loopw [1, 5] (fun l i wr => ∃ (k m : Nat), k ≤ F.length ∧ i = .int .i64 k ∧ m ≤ 1048576 ∧ l = .int .i64 m ∧ Hid (∀ j (h : j < F.length), j < k → F[j].nd.fits 1048576) ∧ Below w.heap.size w wr) (fun _ i _ => F.length - (Lib.intOf i).toNat)
    case atStart => exact ⟨0, 1048576 - F.length, Nat.zero_le _, rfl, by omega, by go_num, fun j h h0 => absurd h0 (Nat.not_lt_zero _), Below.refl _ _⟩
    case round =>
      obtain ⟨k, m, hk, rfl, hm, rfl, hall, hb⟩ := hrel
      by_cases hlt : k < F.length
      · obtain ⟨a, vn, vk, vd, rfl, ha, hA, hI⟩ := (HF.out.below hb) k hlt
        have hS := mkHid fun (w' : World) (hb' : Below wr.heap.size wr w') => lawSzCode F[k] vn vk vd m w' (((hI.mono hb.size).below hb').mono hb'.size) (Hsz.out _ (List.getElem_mem hlt)) hm
        have c0 := hA.c0
        have c1 := hA.c1
        have c2 := hA.c2
        have c3 := hA.c3
        have c4 := hA.c4
        have c5 := hA.c5
        have c6 := hA.c6
        have c7 := hA.c7
        have c8 := hA.c8
        clear hA hI
        generalize hf : F[k] = f at *
        have Hf := mkHid hf
        clear hf
        go_wp2_with fail
        refine (hS.out wr (Below.refl _ _)).mono ?_
        rintro e w1 ⟨r1, rfl, hr1, hb1⟩
        have hb2 := mkHid (hb.trans (hb1.mono hb.size))
        clear hS c0 c1 c2 c3 c4 c5 c6 c7 c8 hb1 hb
        rcases hr1.out with rfl | ⟨m1, rfl, hm1, hft⟩
        · go_wp2
          go_ret
          exact ⟨-1, rfl, Or.inl rfl, hb2.out⟩
        · replace hft := mkHid hft
          clear hr1
          go_wp2
          go_roundw
          case rel =>
            refine ⟨k + 1, m1, by omega, by go_num, by omega, rfl, ?_, hb2.out⟩
            intro j h hj
            by_cases hjk : j < k
            · exact hall.out j h hjk
            · have : j = k := by omega
              subst this
              rw [Hf.out]; exact hft.out
          case measure => simp [Lib.intOf]; omega
      · have Hall : Hid (∀ f ∈ F, f.nd.fits 1048576) := by
          intro t ht
          obtain ⟨j, hj, rfl⟩ := List.getElem_of_mem ht
          exact hall.out j hj (by omega)
        go_wp2
        go_ret
        exact ⟨_, rfl, Or.inr ⟨by omega, by omega, Hall.out⟩, hb⟩
set_option maxHeartbeats 2000000 in
set_option maxRecDepth 20000 in
theorem lawToCode (c : Cd) (vn vk vd : Value) (w : World) (hI : NdIn w.heap.size w c.nd vn vk vd) (hf : c.nd.fits 1048576) :
    Calls Try.prog 11 #[cdV c vn vk vd] w fun e w' => ∃ g1 g2 g3 : Nat, e = .returned (cdV c (vN c.nd g1) (vK c.nd g2) (vD c.nd g3)) ∧ Hid (Md w.heap.size w'.heap.size w' c.nd g1 g2 g3) ∧ Below w.heap.size w w' := by
  have hT := mkHid fun (w' : World) (hb : Below w.heap.size w w') => lawToNode c.nd vn vk vd w' ((hI.below hb).mono hb.size) hf
  obtain ⟨⟨a1, c1, rfl, -⟩, ⟨a2, c2, rfl, -⟩, ⟨a3, c3, rfl, -⟩⟩ := hI
  clear hf
  obtain ⟨G, hG⟩ : ∃ G, w.heap.size = G := ⟨_, rfl⟩
  obtain ⟨W, hW⟩ : ∃ W, W = ((w.alloc (.cells #[.int .i64 c.op, .int .i64 c.to, .int .i64 c.nd.kind, .int .i64 c.nd.num, .int .i64 c.nd.mat, .string c.nd.text, .slice a1 c.nd.names.length c1, .slice a2 c.nd.keys.length c2, .slice a3 c.nd.kids.length c3] 35)).alloc (.cells #[.int .i64 0, .int .i64 0, .int .i64 0, .int .i64 0, .int .i64 0, .string ⟨#[]⟩, .slice none 0 0, .slice none 0 0, .slice none 0 0] 39)).alloc (.cells #[Value.int .i64 c.op, .int .i64 c.to, .int .i64 0, .int .i64 0, .int .i64 0, .string ⟨#[]⟩, .slice none 0 0, .slice none 0 0, .slice none 0 0] 39) := ⟨_, rfl⟩
  have hbW : Below w.heap.size w W := by rw [hW]; exact (((Below.refl _ _).alloc (Nat.le_refl _) _).alloc (by simp) _).alloc (by simp; omega) _
  have hWs : W.heap.size = G + 3 := by rw [hW, ← hG]; simp
  have hR : W.heap[G + 1]? = some (.cells #[.int .i64 0, .int .i64 0, .int .i64 0, .int .i64 0, .int .i64 0, .string ⟨#[]⟩, .slice none 0 0, .slice none 0 0, .slice none 0 0] 39 (0, 0)) := by
    rw [hW]
    refine (Below.heap_alloc _ _ _ (by simp; omega)).trans ?_
    rw [show G + 1 = (w.alloc (.cells #[.int .i64 c.op, .int .i64 c.to, .int .i64 c.nd.kind, .int .i64 c.nd.num, .int .i64 c.nd.mat, .string c.nd.text, .slice a1 c.nd.names.length c1, .slice a2 c.nd.keys.length c2, .slice a3 c.nd.kids.length c3] 35)).heap.size by simp; omega]
    exact hp_allocN _ _
  have hO : W.heap[G + 1 + 1]? = some (.cells #[Value.int .i64 c.op, .int .i64 c.to, .int .i64 0, .int .i64 0, .int .i64 0, .string ⟨#[]⟩, .slice none 0 0, .slice none 0 0, .slice none 0 0] 39 (0, 0)) := by
    rw [hW]
    rw [show G + 1 + 1 = ((w.alloc (.cells #[.int .i64 c.op, .int .i64 c.to, .int .i64 c.nd.kind, .int .i64 c.nd.num, .int .i64 c.nd.mat, .string c.nd.text, .slice a1 c.nd.names.length c1, .slice a2 c.nd.keys.length c2, .slice a3 c.nd.kids.length c3] 35)).alloc (.cells #[.int .i64 0, .int .i64 0, .int .i64 0, .int .i64 0, .int .i64 0, .string ⟨#[]⟩, .slice none 0 0, .slice none 0 0, .slice none 0 0] 39)).heap.size by simp; omega]
    exact hp_allocN _ _
  have HW := mkHid hW
  clear hW
  have hG' := mkHid hG
  have e1 : w.heap.size + 1 = G + 1 := by omega
  have e2 : w.heap.size + 1 + 1 = G + 2 := by omega
  unfold ndV at hT
  unfold cdV vN vK vD
  go_enter Try.func11, Try.ntmps11
  go_wp2_with fail
  rw [← HW.out]
  refine (hT.out W hbW).mono ?_
  rintro e w1 ⟨g1, g2, g3, rfl, hTx, hb1⟩
  obtain ⟨⟨l1, l2, l3⟩, t1, t2, t3⟩ := hTx.out
  rw [hWs] at hb1 l1 l2 l3
  have hs1 := hb1.size
  rw [hWs] at hs1
  have hR1 : w1.heap[G + 1]? = some (.cells #[.int .i64 0, .int .i64 0, .int .i64 0, .int .i64 0, .int .i64 0, .string ⟨#[]⟩, .slice none 0 0, .slice none 0 0, .slice none 0 0] 39 (0, 0)) := (hb1.block (G + 1) (by omega)).trans hR
  have hO1 : w1.heap[G + 1 + 1]? = some (.cells #[Value.int .i64 c.op, .int .i64 c.to, .int .i64 0, .int .i64 0, .int .i64 0, .string ⟨#[]⟩, .slice none 0 0, .slice none 0 0, .slice none 0 0] 39 (0, 0)) := (hb1.block (G + 1 + 1) (by omega)).trans hO
  have x2 : w1.cell? ⟨G + 1 + 1, 2, none⟩ = some (.int .i64 0) := by simp [World.cell?, hO1]
  have z2 : w1.frozen? ⟨G + 1 + 1, 2, none⟩ = false := by simp [World.frozen?, hO1]
  have x3 : w1.cell? ⟨G + 1 + 1, 3, none⟩ = some (.int .i64 0) := by simp [World.cell?, hO1]
  have z3 : w1.frozen? ⟨G + 1 + 1, 3, none⟩ = false := by simp [World.frozen?, hO1]
  have x4 : w1.cell? ⟨G + 1 + 1, 4, none⟩ = some (.int .i64 0) := by simp [World.cell?, hO1]
  have z4 : w1.frozen? ⟨G + 1 + 1, 4, none⟩ = false := by simp [World.frozen?, hO1]
  have x5 : w1.cell? ⟨G + 1 + 1, 5, none⟩ = some (.string ⟨#[]⟩) := by simp [World.cell?, hO1]
  have z5 : w1.frozen? ⟨G + 1 + 1, 5, none⟩ = false := by simp [World.frozen?, hO1]
  have x6 : w1.cell? ⟨G + 1 + 1, 6, none⟩ = some (.slice none 0 0) := by simp [World.cell?, hO1]
  have z6 : w1.frozen? ⟨G + 1 + 1, 6, none⟩ = false := by simp [World.frozen?, hO1]
  have x7 : w1.cell? ⟨G + 1 + 1, 7, none⟩ = some (.slice none 0 0) := by simp [World.cell?, hO1]
  have z7 : w1.frozen? ⟨G + 1 + 1, 7, none⟩ = false := by simp [World.frozen?, hO1]
  have x8 : w1.cell? ⟨G + 1 + 1, 8, none⟩ = some (.slice none 0 0) := by simp [World.cell?, hO1]
  have z8 : w1.frozen? ⟨G + 1 + 1, 8, none⟩ = false := by simp [World.frozen?, hO1]
  obtain ⟨V, hV⟩ : ∃ V, V = (((((((w1.setCell ⟨G + 1 + 1, 2, none⟩ (.int .i64 c.nd.kind)).setCell ⟨G + 1 + 1, 3, none⟩ (.int .i64 c.nd.num)).setCell ⟨G + 1 + 1, 4, none⟩ (.int .i64 c.nd.mat)).setCell ⟨G + 1 + 1, 5, none⟩ (.string c.nd.text)).setCell ⟨G + 1 + 1, 6, none⟩ (.slice (some ⟨g1, 0, none⟩) c.nd.names.length c.nd.names.length)).setCell ⟨G + 1 + 1, 7, none⟩ (.slice (some ⟨g2, 0, none⟩) c.nd.keys.length c.nd.keys.length)).setCell ⟨G + 1 + 1, 8, none⟩ (.slice (some ⟨g3, 0, none⟩) c.nd.kids.length c.nd.kids.length)) := ⟨_, rfl⟩
  have hRb : V.heap[G + 1]? = some (.cells #[.int .i64 0, .int .i64 0, .int .i64 0, .int .i64 0, .int .i64 0, .string ⟨#[]⟩, .slice none 0 0, .slice none 0 0, .slice none 0 0] 39 (0, 0)) := by rw [hV]; simp [World.setCell, Array.getElem?_modify, hR1]
  have hOb : V.heap[G + 1 + 1]? = some (.cells #[Value.int .i64 c.op, .int .i64 c.to, .int .i64 c.nd.kind, .int .i64 c.nd.num, .int .i64 c.nd.mat, .string c.nd.text, .slice (some ⟨g1, 0, none⟩) c.nd.names.length c.nd.names.length, .slice (some ⟨g2, 0, none⟩) c.nd.keys.length c.nd.keys.length, .slice (some ⟨g3, 0, none⟩) c.nd.kids.length c.nd.kids.length] 39 (0, 0)) := by rw [hV]; simp [World.setCell, Array.getElem?_modify, hO1]
  have hgV : w1.grownBy V (some (G + 1 + 1)) := by rw [hV]; exact grN_trans (grN_trans (grN_trans (grN_trans (grN_trans (grN_trans (grN_set _ _ _ _) (grN_set _ _ _ _)) (grN_set _ _ _ _)) (grN_set _ _ _ _)) (grN_set _ _ _ _)) (grN_set _ _ _ _)) (grN_set _ _ _ _)
  have hbV : Below w.heap.size w V := by rw [hV]; exact ((((((((hbW.trans (hb1.mono (by omega))).setCell (p := ⟨G + 1 + 1, 2, none⟩) (by show w.heap.size ≤ G + 1 + 1; omega) _).setCell (p := ⟨G + 1 + 1, 3, none⟩) (by show w.heap.size ≤ G + 1 + 1; omega) _).setCell (p := ⟨G + 1 + 1, 4, none⟩) (by show w.heap.size ≤ G + 1 + 1; omega) _).setCell (p := ⟨G + 1 + 1, 5, none⟩) (by show w.heap.size ≤ G + 1 + 1; omega) _).setCell (p := ⟨G + 1 + 1, 6, none⟩) (by show w.heap.size ≤ G + 1 + 1; omega) _).setCell (p := ⟨G + 1 + 1, 7, none⟩) (by show w.heap.size ≤ G + 1 + 1; omega) _).setCell (p := ⟨G + 1 + 1, 8, none⟩) (by show w.heap.size ≤ G + 1 + 1; omega) _)
  have hMd : Md (G + 1 + 1) w1.heap.size w1 c.nd g1 g2 g3 := ⟨by omega, by omega, by omega, t1, t2, t3⟩
  have hMdV := (hMd.gr hgV).mono hgV.size
  have hMdV' : Md (G + 1) V.heap.size V c.nd g1 g2 g3 := ⟨by have := hMdV.n1; omega, by have := hMdV.n2; omega, by have := hMdV.n3; omega, hMdV.t1, hMdV.t2, hMdV.t3⟩
  have hgr := grown_setRow V (G + 1) #[Value.int .i64 c.op, .int .i64 c.to, .int .i64 c.nd.kind, .int .i64 c.nd.num, .int .i64 c.nd.mat, .string c.nd.text, .slice (some ⟨g1, 0, none⟩) c.nd.names.length c.nd.names.length, .slice (some ⟨g2, 0, none⟩) c.nd.keys.length c.nd.keys.length, .slice (some ⟨g3, 0, none⟩) c.nd.kids.length c.nd.kids.length]
  have hMdW := (hMdV'.gr hgr).mono hgr.size
  have hMdF : Hid (Md w.heap.size _ _ c.nd g1 g2 g3) := (⟨by have := hMdW.n1; omega, by have := hMdW.n2; omega, by have := hMdW.n3; omega, hMdW.t1, hMdW.t2, hMdW.t3⟩ : Md w.heap.size (V.setRow (G + 1) #[Value.int .i64 c.op, .int .i64 c.to, .int .i64 c.nd.kind, .int .i64 c.nd.num, .int .i64 c.nd.mat, .string c.nd.text, .slice (some ⟨g1, 0, none⟩) c.nd.names.length c.nd.names.length, .slice (some ⟨g2, 0, none⟩) c.nd.keys.length c.nd.keys.length, .slice (some ⟨g3, 0, none⟩) c.nd.kids.length c.nd.kids.length]).heap.size (V.setRow (G + 1) #[Value.int .i64 c.op, .int .i64 c.to, .int .i64 c.nd.kind, .int .i64 c.nd.num, .int .i64 c.nd.mat, .string c.nd.text, .slice (some ⟨g1, 0, none⟩) c.nd.names.length c.nd.names.length, .slice (some ⟨g2, 0, none⟩) c.nd.keys.length c.nd.keys.length, .slice (some ⟨g3, 0, none⟩) c.nd.kids.length c.nd.kids.length]) c.nd g1 g2 g3)
  have hbw4 := mkHid (hbV.grown hgr hbV.size (fun j hj => by cases hj; omega))
  replace hV := mkHid hV
  clear hTx t1 t2 t3 hR hO hR1 hO1 hgV hbV hMd hMdV hMdV' hgr hMdW hb1 hbW HW hT
  go_wp2_with (first | (rw [← hV.out]; refine wpL_load_row rfl 39 _ rfl (G + 1 + 1) _ 39 (0, 0) _ rfl hOb Try.underlying39 rfl (by kernel_rfl) ?_) | (refine wpL_store_row rfl 39 _ _ rfl (G + 1) _ rfl rfl 39 _ hRb (by kernel_rfl) rfl (by simp [Value.oneCell']) ?_) | go_in)
  refine bodyPost_ret (v := .agg #[Value.int .i64 c.op, .int .i64 c.to, .int .i64 c.nd.kind, .int .i64 c.nd.num, .int .i64 c.nd.mat, .string c.nd.text, .slice (some ⟨g1, 0, none⟩) c.nd.names.length c.nd.names.length, .slice (some ⟨g2, 0, none⟩) c.nd.keys.length c.nd.keys.length, .slice (some ⟨g3, 0, none⟩) c.nd.kids.length c.nd.kids.length]) (results_cell_row Try.results11 _ _ (G + 1) 39 _ (0, 0) _ rfl (setRow_heap _ _ _ _ _ _ hRb) Try.underlying39 rfl (by kernel_rfl)) rfl ⟨g1, g2, g3, rfl, hMdF, hbw4.out⟩
end Go.Proofs.Ytopbokfloapbeaa
