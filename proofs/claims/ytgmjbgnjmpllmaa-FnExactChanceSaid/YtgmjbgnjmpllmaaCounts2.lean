
/- Tables of words: made anew, held against one another, as an argument. -/
import Derived.Test.YtgmjbgnjmpllmaaCounts
import Derived.Deep.Slices
import Derived.SliceStrings
import Derived.ChangeSlices
import Derived.ChangeMaps5
import Derived.Carry
import Derived.ChangeOld
import Derived.Lib.SmallJoins
namespace Go.Proofs.Ytgmjbgnjmpllmaa
open Go.RowKit Go.Lib Go.Maps
theorem hp_allocW (w : World) (o : Obj) : (w.alloc o).heap[w.heap.size]? = some o := by
  show (w.heap.push o)[w.heap.size]? = some o
  simp
set_option maxHeartbeats 400000 in
theorem lawEqCount (c : Wc) (w : World) : Calls Try.prog 26 #[wcV c, wcV c] w fun e w' => e = .returned (.bool true) ∧ Below w.heap.size w w' := by
  unfold wcV
  go_enter Try.func26, Try.ntmps26
  go_wp2
  go_ret
  exact ⟨rfl, ((Below.refl _ _).alloc (Nat.le_refl _) _).alloc (by simp) _⟩
set_option maxHeartbeats 1000000 in
set_option maxRecDepth 10000 in
theorem lawEqCounts (a b : Option Addr) (F : List Wc) (cap cap' : Nat) (w : World) (hF : Wcs w.heap.size w a F) (hG : Wcs w.heap.size w b F) (hlen : F.length ≤ 1048576) :
    Calls Try.prog 16 #[.slice a F.length cap, .slice b F.length cap'] w fun e w' => e = .returned (.bool true) ∧ Below w.heap.size w w' := by
  have HF := mkHw hF
  have HG := mkHw hG
  clear hF hG
  go_enter Try.func16, Try.ntmps16
  go_wp2
  go_loopw [5] (fun i wr => ∃ k : Nat, k ≤ F.length ∧ i = .int .i64 k ∧ Below w.heap.size w wr) (fun i _ => F.length - (Lib.intOf i).toNat)
  case atStart => exact ⟨0, Nat.zero_le _, rfl, Below.refl _ _⟩
  case round =>
    obtain ⟨k, hk, rfl, hb0⟩ := hrel
    by_cases hlt : k < F.length
    · obtain ⟨a', rfl, ha, hA⟩ := (HF.out.below hb0) k hlt
      obtain ⟨b', rfl, hb, hB⟩ := (HG.out.below hb0) k hlt
      have c0 := hA.c0
      have c1 := hA.c1
      have c2 := hA.c2
      have d0 := hB.c0
      have d1 := hB.c1
      have d2 := hB.c2
      clear hA hB
      generalize F[k] = n at *
      have cE : Hid (∀ d os, Calls Try.prog 26 #[wcV n, wcV n] (Go.Sort.grow (redrawn wr d) os) fun e w'' => e = .returned (.bool true) ∧ ∃ p : Regrown, w'' = Go.Sort.grow (redrawn wr p.d) p.os) := fun d os => Calls.regrown_of (lawEqCount n _)
      unfold wcV at cE
      go_wp2
      have k0 := cell_regrown c0
      have l0 := cell_regrown d0
      have k1 := cell_regrown c1
      have l1 := cell_regrown d1
      have k2 := cell_regrown c2
      have l2 := cell_regrown d2
      clear c0 c1 c2 d0 d1 d2
      refine wp_region_quiet_below (by kernel_rfl) (by kernel_rfl) ?_
      iterate 8 (quiet_step (fail))
      quiet_step (exact cE.out _ _)
      repeat (quiet_step (fail))
      refine wpQuiet_nil ?_
      intro _ hw'
      obtain ⟨⟨dq, osq⟩, hw''⟩ := hw'
      subst hw''
      have hbq := mkHw (hb0.trans ((below_regrown wr dq osq).mono hb0.size))
      generalize Go.Sort.grow (redrawn wr dq) osq = wq at *
      clear k0 k1 k2 l0 l1 l2 cE hb0
      go_wp2
      go_roundw
      case rel => exact ⟨k + 1, by omega, by go_num, hbq.out⟩
      case measure => simp [Lib.intOf]; omega
    · go_wp2
      go_ret
      exact ⟨rfl, hb0⟩
set_option maxHeartbeats 1000000 in
theorem lawEqTable (g b : Int) (o1 o2 : Option Addr) (F : List Wc) (p1 p2 : Nat) (w : World) (hF : Wcs w.heap.size w o1 F) (hG : Wcs w.heap.size w o2 F) (hlen : F.length ≤ 1048576) :
    Calls Try.prog 8 #[tbV g b (.slice o1 F.length p1), tbV g b (.slice o2 F.length p2)] w fun e w' => e = .returned (.bool true) ∧ Below w.heap.size w w' := by
  have hbA : Below w.heap.size w ((w.alloc (.cells #[.int .i64 g, .int .i64 b, .slice o1 F.length p1] 29)).alloc (.cells #[.int .i64 g, .int .i64 b, .slice o2 F.length p2] 29)) := ((Below.refl _ _).alloc (Nat.le_refl _) _).alloc (by simp) _
  have hE := mkHw (lawEqCounts o1 o2 F p1 p2 _ ((hF.below hbA).mono hbA.size) ((hG.below hbA).mono hbA.size) hlen)
  replace hbA := mkHw hbA
  clear hF hG
  unfold tbV
  go_enter Try.func8, Try.ntmps8
  go_wp2_with fail
  refine hE.out.mono ?_
  rintro e w1 ⟨rfl, hb1⟩
  have hb2 := mkHw (hbA.out.trans (hb1.mono hbA.out.size))
  clear hE hb1 hbA
  go_wp2
  go_ret
  exact ⟨rfl, hb2.out⟩
set_option maxHeartbeats 2000000 in
set_option maxRecDepth 20000 in
theorem lawToTable (g b : Int) (o : Option Addr) (F : List Wc) (cap : Nat) (w : World) (hF : Wcs w.heap.size w o F) (hlen : F.length ≤ 1048576) :
    Calls Try.prog 6 #[tbV g b (.slice o F.length cap)] w fun e w' => ∃ k : Nat, e = .returned (tbV g b (.slice (some ⟨k, 0, none⟩) F.length F.length)) ∧ Hid (Wcs w'.heap.size w' (some ⟨k, 0, none⟩) F) ∧ Below w.heap.size w w' := by
  have hT := mkHw fun (w' : World) (hb : Below w.heap.size w w') => lawToCounts o F cap w' ((hF.below hb).mono hb.size) hlen
  clear hF
  obtain ⟨G, hG⟩ : ∃ G, w.heap.size = G := ⟨_, rfl⟩
  obtain ⟨W, hW⟩ : ∃ W, W = ((w.alloc (.cells #[.int .i64 g, .int .i64 b, .slice o F.length cap] 24)).alloc (.cells #[.int .i64 0, .int .i64 0, .slice none 0 0] 29)).alloc (.cells #[Value.int .i64 g, .int .i64 b, .slice none 0 0] 29) := ⟨_, rfl⟩
  have hbW : Below w.heap.size w W := by rw [hW]; exact (((Below.refl _ _).alloc (Nat.le_refl _) _).alloc (by simp) _).alloc (by simp; omega) _
  have hWs : W.heap.size = G + 3 := by rw [hW, ← hG]; simp
  have hR : W.heap[G + 1]? = some (.cells #[.int .i64 0, .int .i64 0, .slice none 0 0] 29 (0, 0)) := by
    rw [hW]
    refine (Below.heap_alloc _ _ _ (by simp; omega)).trans ?_
    rw [show G + 1 = (w.alloc (.cells #[.int .i64 g, .int .i64 b, .slice o F.length cap] 24)).heap.size by simp; omega]
    exact hp_allocW _ _
  have hO : W.heap[G + 1 + 1]? = some (.cells #[Value.int .i64 g, .int .i64 b, .slice none 0 0] 29 (0, 0)) := by
    rw [hW]
    rw [show G + 1 + 1 = ((w.alloc (.cells #[.int .i64 g, .int .i64 b, .slice o F.length cap] 24)).alloc (.cells #[.int .i64 0, .int .i64 0, .slice none 0 0] 29)).heap.size by simp; omega]
    exact hp_allocW _ _
  have HW := mkHw hW
  clear hW
  have hG' := mkHw hG
  have e1 : w.heap.size + 1 = G + 1 := by omega
  have e2 : w.heap.size + 1 + 1 = G + 2 := by omega
  unfold tbV
  go_enter Try.func6, Try.ntmps6
  go_wp2_with fail
  rw [← HW.out]
  refine (hT.out W hbW).mono ?_
  rintro e w1 ⟨rfl, hTx, hb1⟩
  rw [hWs] at hTx hb1 ⊢
  have hs1 := hb1.size
  rw [hWs] at hs1
  have hR1 : w1.heap[G + 1]? = some (.cells #[.int .i64 0, .int .i64 0, .slice none 0 0] 29 (0, 0)) := (hb1.block (G + 1) (by omega)).trans hR
  have hO1 : w1.heap[G + 1 + 1]? = some (.cells #[Value.int .i64 g, .int .i64 b, .slice none 0 0] 29 (0, 0)) := (hb1.block (G + 1 + 1) (by omega)).trans hO
  have x2 : w1.cell? ⟨G + 1 + 1, 2, none⟩ = some (.slice none 0 0) := by simp [World.cell?, hO1]
  have z2 : w1.frozen? ⟨G + 1 + 1, 2, none⟩ = false := by simp [World.frozen?, hO1]
  obtain ⟨V, hV⟩ : ∃ V, V = w1.setCell ⟨G + 1 + 1, 2, none⟩ (.slice (some ⟨G + 3, 0, none⟩) F.length F.length) := ⟨_, rfl⟩
  have hRb : V.heap[G + 1]? = some (.cells #[.int .i64 0, .int .i64 0, .slice none 0 0] 29 (0, 0)) := by rw [hV]; simp [World.setCell, Array.getElem?_modify, hR1]
  have hOb : V.heap[G + 1 + 1]? = some (.cells #[Value.int .i64 g, .int .i64 b, .slice (some ⟨G + 3, 0, none⟩) F.length F.length] 29 (0, 0)) := by rw [hV]; simp [World.setCell, Array.getElem?_modify, hO1]
  have hbV : Below w.heap.size w V := by rw [hV]; exact (hbW.trans (hb1.mono (by omega))).setCell (p := ⟨G + 1 + 1, 2, none⟩) (by show w.heap.size ≤ G + 1 + 1; omega) _
  have hgr := grown_setRow V (G + 1) #[Value.int .i64 g, .int .i64 b, .slice (some ⟨G + 3, 0, none⟩) F.length F.length]
  have hbF : Below (G + 3) w1 w1 := Below.refl _ _
  have hkeep : ∀ j, G + 3 ≤ j → j < w1.heap.size → (V.setRow (G + 1) #[Value.int .i64 g, .int .i64 b, .slice (some ⟨G + 3, 0, none⟩) F.length F.length]).heap[j]? = w1.heap[j]? := by
    intro j hj hjw
    have h1 : V.heap[j]? = w1.heap[j]? := by
      rw [hV]
      simp [World.setCell, Array.getElem?_modify]
      intro h
      omega
    rw [← h1]
    exact hgr.block j (by rw [hV]; simp [World.setCell]; omega) (by intro e; cases e; omega)
  have hsV : w1.heap.size ≤ (V.setRow (G + 1) #[Value.int .i64 g, .int .i64 b, .slice (some ⟨G + 3, 0, none⟩) F.length F.length]).heap.size := by
    have := hgr.size
    have h2 : V.heap.size = w1.heap.size := by rw [hV]; simp [World.setCell]
    omega
  have hTF : Hid (Wcs (V.setRow (G + 1) #[Value.int .i64 g, .int .i64 b, .slice (some ⟨G + 3, 0, none⟩) F.length F.length]).heap.size (V.setRow (G + 1) #[Value.int .i64 g, .int .i64 b, .slice (some ⟨G + 3, 0, none⟩) F.length F.length]) (some ⟨G + 3, 0, none⟩) F) := by
    intro i hi
    obtain ⟨a, ea, ha, hA⟩ := hTx.out i hi
    cases ea
    have hblk : ∀ (q : Addr), q.block = G + 3 → (V.setRow (G + 1) #[Value.int .i64 g, .int .i64 b, .slice (some ⟨G + 3, 0, none⟩) F.length F.length]).cell? q = w1.cell? q := by
      intro q hq
      exact World.cell?_of_block (w := w1) (by rw [hq]; exact hkeep (G + 3) (Nat.le_refl _) ha)
    refine ⟨⟨G + 3, 0, none⟩, rfl, Nat.lt_of_lt_of_le ha hsV, ?_⟩
    exact ⟨(hblk _ (by rw [add_blockW])).trans hA.c0, (hblk _ (by show ((⟨G + 3, 0, none⟩ : Addr).add (i * 3)).block = _; rw [add_blockW])).trans hA.c1, (hblk _ (by show ((⟨G + 3, 0, none⟩ : Addr).add (i * 3)).block = _; rw [add_blockW])).trans hA.c2⟩
  have hbw4 := mkHw (hbV.grown hgr hbV.size (fun j hj => by cases hj; omega))
  replace hV := mkHw hV
  clear hTx hR hO hR1 hO1 hbV hgr hb1 hbW HW hT hkeep hsV hbF
  go_wp2_with (first | (rw [← hV.out]; refine wpL_load_row rfl 29 _ rfl (G + 1 + 1) _ 29 (0, 0) _ rfl hOb Try.underlying29 rfl (by kernel_rfl) ?_) | (refine wpL_store_row rfl 29 _ _ rfl (G + 1) _ rfl rfl 29 _ hRb (by kernel_rfl) rfl (by simp [Value.oneCell']) ?_) | go_in)
  refine bodyPost_ret (v := .agg #[Value.int .i64 g, .int .i64 b, .slice (some ⟨G + 3, 0, none⟩) F.length F.length]) (results_cell_row Try.results6 _ _ (G + 1) 29 _ (0, 0) _ rfl (setRow_heap _ _ _ _ _ _ hRb) Try.underlying29 rfl (by kernel_rfl)) rfl ⟨G + 3, rfl, hTF, hbw4.out⟩
end Go.Proofs.Ytgmjbgnjmpllmaa
