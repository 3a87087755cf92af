/- The program's tally of a table: a map of its words. -/
import Derived.Test.YtgmjbgnjmpllmaaScoreSeen
import Derived.Test.YtgmjbgnjmpllmaaScoreTableImpl
namespace Go.Proofs.Ytgmjbgnjmpllmaa
open Go.RowKit Go.Lib Go.Maps
def tlV (g b : Int) (m : Nat) : Value := .agg #[.int .i64 g, .int .i64 b, .map (some m)]
theorem heap_new (w : World) (o : Obj) : (w.alloc o).heap[w.heap.size]? = some o := by
  show (w.heap.push o)[w.heap.size]? = some o
  simp
theorem heap_old (w : World) (o : Obj) (g : Nat) (h : g < w.heap.size) : (w.alloc o).heap[g]? = w.heap[g]? := by
  show (w.heap.push o)[g]? = w.heap[g]?
  simp [Array.getElem?_push]
  omega
set_option maxHeartbeats 4000000 in
set_option maxRecDepth 20000 in
theorem implTally (g b : Int) (o : Option Addr) (F : List Wc) (cap : Nat) (w : World) (hF : Wcs w.heap.size w o F) (hlF : F.length ≤ 1048576) (hfit : ∀ c ∈ F, c.word.size ≤ 1048576) :
    Calls Try.prog 14 #[tbV g b (.slice o F.length cap)] w fun e w' => ∃ m, e = .returned (tlV g b m) ∧ Tal w' m F.length F ∧ Below w.heap.size w w' := by
  have HF := mkHw hF
  have Hfit := mkHw hfit
  clear hF hfit
  unfold tbV tlV
  have hmm := @run_makeMap Try.prog
  obtain ⟨G, hG⟩ : ∃ G, w.heap.size = G := ⟨_, rfl⟩
  obtain ⟨W, hW⟩ : ∃ W, W = ((w.alloc (.cells #[.int .i64 g, .int .i64 b, .slice o F.length cap] 29)).alloc (.cells #[.int .i64 0, .int .i64 0, .map none] 40)).alloc (.map #[] 0) := ⟨_, rfl⟩
  have hT0 : Hid (Tal W (G + 2) 0 (F.take 0)) := by
    have := Tal.made ((w.alloc (.cells #[.int .i64 g, .int .i64 b, .slice o F.length cap] 29)).alloc (.cells #[.int .i64 0, .int .i64 0, .map none] 40)) F
    rw [← hW, World.size_alloc, World.size_alloc, hG] at this
    exact this
  obtain ⟨A1, hA1⟩ : ∃ A1, A1 = w.alloc (.cells #[.int .i64 g, .int .i64 b, .slice o F.length cap] 29) := ⟨_, rfl⟩
  rw [← hA1] at hW
  have b1 : Below G w A1 := by rw [hA1, ← hG]; exact (Below.refl _ _).alloc (Nat.le_refl _) _
  have z1 : A1.heap.size = G + 1 := by rw [hA1, World.size_alloc, hG]
  have b2 : Below (G + 1) A1 W := by rw [hW, ← z1]; exact ((Below.refl _ _).alloc (Nat.le_refl _) _).alloc (by simp) _
  have hbA : Below G w W := b1.trans (b2.mono (by omega))
  have t0 : W.cell? ⟨G, 0, none⟩ = some (.int .i64 g) := (b2.cell (p := ⟨G, 0, none⟩) (Nat.lt_succ_self _)).trans (by rw [hA1, ← hG]; simp)
  have t1 : W.cell? ⟨G, 1, none⟩ = some (.int .i64 b) := (b2.cell (p := ⟨G, 1, none⟩) (Nat.lt_succ_self _)).trans (by rw [hA1, ← hG]; simp)
  have t2 : W.cell? ⟨G, 2, none⟩ = some (.slice o F.length cap) := (b2.cell (p := ⟨G, 2, none⟩) (Nat.lt_succ_self _)).trans (by rw [hA1, ← hG]; simp)
  have hr0 : W.heap[G + 1]? = some (.cells #[.int .i64 0, .int .i64 0, .map none] 40 (0, 0)) := by
    rw [hW, heap_old _ _ _ (by rw [World.size_alloc, z1]; omega), ← z1]
    exact heap_new _ _
  have hWs : W.heap.size = G + 3 := by rw [hW, World.size_alloc, World.size_alloc, z1]
  have HW := mkHw hW
  have Hr0 := mkHw hr0
  have HWs := mkHw hWs
  rw [hA1] at HW
  clear hW hr0 hWs hA1 b1 b2 z1
  go_enter Try.func14, Try.ntmps14
  go_wp2
  rw [← HW.out]
  clear HW
  rw [hG] at HF
  go_loopw [10] (fun iv wr => ∃ (i : Nat), i ≤ F.length ∧ iv = .int .i64 i ∧ Hid (Tal wr (G + 2) i (F.take i)) ∧ Below (G + 2) W wr) (fun iv _ => F.length - (Lib.intOf iv).toNat)
  case atStart => exact ⟨0, Nat.zero_le _, rfl, hT0, Below.refl _ _⟩
  case round =>
    clear hT0
    obtain ⟨i, hi, rfl, hT, hb⟩ := hrel
    have hbB := hbA.trans (hb.mono (by omega))
    have hsz : Hid (G + 3 ≤ wr.heap.size) := by have := hb.size; rw [HWs.out] at this; exact this
    by_cases hlt : i < F.length
    · obtain ⟨a, rfl, ha, hA⟩ := (HF.out.below hbB) i hlt
      have c0 := hA.c0
      have c1 := hA.c1
      have c2 := hA.c2
      have hnf := mkHw (Hfit.out F[i] (List.getElem_mem hlt))
      have hput := mkHw (fun (w' : World) (h : Tal w' (G + 2) i (F.take i)) => h.put hlt (by unfold maxLen; have := hnf.out; omega) (by unfold maxLen; omega))
      obtain ⟨n, hn⟩ : ∃ n, F[i] = n := ⟨_, rfl⟩
      rw [hn] at c0 c1 c2 hput hnf
      obtain ⟨V, hV⟩ : ∃ V, V = wr.alloc (.cells #[.string n.word, .int .i64 n.good, .int .i64 n.bad] 47) := ⟨_, rfl⟩
      have q0 : V.cell? ⟨wr.heap.size, 0, none⟩ = some (.string n.word) := by rw [hV]; simp
      have q1 : V.cell? ⟨wr.heap.size, 1, none⟩ = some (.int .i64 n.good) := by rw [hV]; simp
      have q2 : V.cell? ⟨wr.heap.size, 2, none⟩ = some (.int .i64 n.bad) := by rw [hV]; simp
      have hbV : Below wr.heap.size wr V := by rw [hV]; exact (Below.refl _ _).alloc (Nat.le_refl _) _
      have hVs : Hid (wr.heap.size < V.heap.size) := by rw [hV]; simp [Hid]
      have HV := mkHw hV
      clear hV hn hA
      go_wp2
      rw [← HV.out]
      clear c0 c1 c2 HV
      have cC : Hid (∀ W' : World, Below V.heap.size V W' → Calls Try.prog 24 #[.agg #[.string n.word, .int .i64 n.good, .int .i64 n.bad]] W' fun e w'' => e = .returned (.agg #[.int .i64 n.good, .int .i64 n.bad]) ∧ Below V.heap.size V w'') := fun W' hb' =>
        (implWordCounts n W').mono fun e w'' ⟨e1, e2⟩ => ⟨e1, hb'.trans (e2.mono hb'.size)⟩
      have hb0 : Below V.heap.size V V := Below.refl _ _
      have hTV : Hid (Tal V (G + 2) i (F.take i)) := hT.out.below hbV hT.out.lt
      have hmV : Hid (G + 2 < V.heap.size) := hTV.out.lt
      have hGV : Hid (G + 2 ≤ V.heap.size) := Nat.le_of_lt hmV.out
      have hbW : Hid (Below (G + 2) W V) := hb.trans (hbV.mono (by have := hsz.out; omega))
      refine wp_region_any (by kernel_rfl) ?_
      refine wpAny_take (i := 0) (v := .map (some (G + 2))) rfl (by kernel_rfl) (by kernel_rfl) (by kernel_rfl) (fun _ _ _ h => h) (Or.inl ⟨by rfl, ?_⟩) ?_
      · intro w
        go_simp
      go_simp
      refine wpAny_take (i := 1) (v := .pointer (some ⟨wr.heap.size, 0, none⟩)) rfl (by kernel_rfl) (by kernel_rfl) (by kernel_rfl) (fun _ _ _ h => h) (Or.inl ⟨by rfl, ?_⟩) ?_
      · intro w
        go_simp
      go_simp
      refine wpAny_ready (rs := [2, 3]) (by kernel_rfl) (by simp) ?_
      refine AllReady.cons rfl (fun K hK => ?_) (AllReady.cons rfl (fun K hK => ?_) AllReady.nil)
      · go_simp
        refine hK _ _ ?_
        clear hK K
        go_simp
        refine wpAny_ready (rs := [3]) (by kernel_rfl) (by simp) ?_
        refine AllReady.cons rfl (fun K hK => ?_) AllReady.nil
        go_simp
        refine hK _ _ ?_
        clear hK K
        go_simp
        refine wpAny_ready (rs := [4]) (by kernel_rfl) (by simp) ?_
        refine AllReady.cons rfl (fun K hK => ?_) AllReady.nil
        go_simp
        go_wp2_with fail
        refine (cC.out _ (by first | exact hb0 | exact hb0.drew | exact hb0.drew.drew)).mono ?_
        rintro e w4 ⟨rfl, hb4⟩
        show K _ w4
        refine hK _ _ ?_
        clear hK K
        go_simp
        refine wpAny_ready (rs := [5]) (by kernel_rfl) (by simp) ?_
        refine AllReady.cons rfl (fun K hK => ?_) AllReady.nil
        obtain ⟨w5, hrun, hT5, hg5⟩ := hput.out w4 (hTV.out.below hb4 hmV.out)
        go_simp
        refine hK _ _ ?_
        clear hK K
        go_simp
        refine wpAny_done (by kernel_rfl) ?_ _
        have hbe : Hid (Below (G + 2) W w5) := ((hbW.out.trans (hb4.mono hGV.out)).grown hg5 (by have := hb4.size; have := hGV.out; omega) (fun k hk => by cases hk; exact Nat.le_refl _))
        clear hrun q0 q1 q2
        go_wp2
        go_roundw
        case rel => exact ⟨i + 1, by omega, by go_num, hT5, hbe.out⟩
        case measure => simp [Lib.intOf]; omega
      · go_simp
        refine hK _ _ ?_
        clear hK K
        go_simp
        refine wpAny_ready (rs := [2, 4]) (by kernel_rfl) (by simp) ?_
        refine AllReady.cons rfl (fun K hK => ?_) (AllReady.cons rfl (fun K hK => ?_) AllReady.nil)
        · go_simp
          refine hK _ _ ?_
          clear hK K
          go_simp
          refine wpAny_ready (rs := [4]) (by kernel_rfl) (by simp) ?_
          refine AllReady.cons rfl (fun K hK => ?_) AllReady.nil
          go_simp
          go_wp2_with fail
          refine (cC.out _ (by first | exact hb0 | exact hb0.drew | exact hb0.drew.drew)).mono ?_
          rintro e w4 ⟨rfl, hb4⟩
          show K _ w4
          refine hK _ _ ?_
          clear hK K
          go_simp
          refine wpAny_ready (rs := [5]) (by kernel_rfl) (by simp) ?_
          refine AllReady.cons rfl (fun K hK => ?_) AllReady.nil
          obtain ⟨w5, hrun, hT5, hg5⟩ := hput.out w4 (hTV.out.below hb4 hmV.out)
          go_simp
          refine hK _ _ ?_
          clear hK K
          go_simp
          refine wpAny_done (by kernel_rfl) ?_ _
          have hbe : Hid (Below (G + 2) W w5) := ((hbW.out.trans (hb4.mono hGV.out)).grown hg5 (by have := hb4.size; have := hGV.out; omega) (fun k hk => by cases hk; exact Nat.le_refl _))
          clear hrun q0 q1 q2
          go_wp2
          go_roundw
          case rel => exact ⟨i + 1, by omega, by go_num, hT5, hbe.out⟩
          case measure => simp [Lib.intOf]; omega
        · go_simp
          go_wp2_with fail
          refine (cC.out _ (by first | exact hb0 | exact hb0.drew | exact hb0.drew.drew)).mono ?_
          rintro e w4 ⟨rfl, hb4⟩
          show K _ w4
          refine hK _ _ ?_
          clear hK K
          go_simp
          have v0 : w4.cell? ⟨wr.heap.size, 0, none⟩ = some (.string n.word) := (hb4.cell (p := ⟨wr.heap.size, 0, none⟩) hVs.out).trans q0
          refine wpAny_ready (rs := [2]) (by kernel_rfl) (by simp) ?_
          refine AllReady.cons rfl (fun K hK => ?_) AllReady.nil
          go_simp
          refine hK _ _ ?_
          clear hK K
          go_simp
          refine wpAny_ready (rs := [5]) (by kernel_rfl) (by simp) ?_
          refine AllReady.cons rfl (fun K hK => ?_) AllReady.nil
          obtain ⟨w5, hrun, hT5, hg5⟩ := hput.out w4 (hTV.out.below hb4 hmV.out)
          go_simp
          refine hK _ _ ?_
          clear hK K
          go_simp
          refine wpAny_done (by kernel_rfl) ?_ _
          have hbe : Hid (Below (G + 2) W w5) := ((hbW.out.trans (hb4.mono hGV.out)).grown hg5 (by have := hb4.size; have := hGV.out; omega) (fun k hk => by cases hk; exact Nat.le_refl _))
          clear hrun q0 q1 q2
          go_wp2
          go_roundw
          case rel => exact ⟨i + 1, by omega, by go_num, hT5, hbe.out⟩
          case measure => simp [Lib.intOf]; omega
    · have r0 := (hb.cell (p := ⟨G, 0, none⟩) (Nat.lt_add_of_pos_right (by decide))).trans t0
      have r1 := (hb.cell (p := ⟨G, 1, none⟩) (Nat.lt_add_of_pos_right (by decide))).trans t1
      have r2 := (hb.cell (p := ⟨G, 2, none⟩) (Nat.lt_add_of_pos_right (by decide))).trans t2
      have rr := (hb.block (G + 1) (by omega)).trans Hr0.out
      have hiF : Hid (i = F.length) := Nat.le_antisymm hi (by omega)
      have cC := mkHw (implTabCounts g b (.slice o F.length cap) wr)
      unfold tbV ctV at cC
      go_wp2_with fail
      refine cC.out.mono ?_
      rintro e w6 ⟨rfl, hb6⟩
      have rr6 : w6.heap[G + 1]? = some (.cells #[.int .i64 0, .int .i64 0, .map none] 40 (0, 0)) := (hb6.block (G + 1) (by have := hsz.out; omega)).trans rr
      have hT6 : Hid (Tal w6 (G + 2) F.length F) := by
        have h1 := hT.out.below hb6 hT.out.lt
        rw [hiF.out, List.take_length] at h1
        exact h1
      have hb7 := mkHw (hbB.trans (hb6.mono (by have := hsz.out; omega)))
      have hs6 : Hid (G + 3 ≤ w6.heap.size) := Nat.le_trans hsz.out hb6.size
      clear cC r0 r1 r2 rr hb6
      go_wp2_with (first
        | (refine wpL_store_row rfl 40 _ _ rfl (G + 1) #[.int .i64 g, .int .i64 b, .map (some (G + 2))] rfl rfl 40 _ rr6 (by kernel_rfl) rfl (by simp [Value.oneCell']) ?_)
        | go_in)
      refine bodyPost_ret (v := .agg #[.int .i64 g, .int .i64 b, .map (some (G + 2))]) (results_cell_row Try.results14 _ _ (G + 1) 40 _ (0, 0) _ rfl (setRow_heap _ _ _ _ _ _ rr6) Try.underlying40 rfl (by kernel_rfl)) rfl ?_
      have hgs := grown_setRow w6 (G + 1) #[.int .i64 g, .int .i64 b, .map (some (G + 2))]
      refine ⟨G + 2, rfl, hT6.out.kept hgs (by simp), ?_⟩
      rw [hG]
      exact hb7.out.grown hgs (by have := hs6.out; omega) (fun j hj => by cases hj; omega)
end Go.Proofs.Ytgmjbgnjmpllmaa
