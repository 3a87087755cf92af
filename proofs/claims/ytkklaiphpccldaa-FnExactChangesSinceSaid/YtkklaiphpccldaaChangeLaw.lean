/- The law's helpers on lists of changes: held against one another, marked, the marks asked for. -/
import Derived.Test.YtkklaiphpccldaaSpecChanges
namespace Go.Proofs.Ytkklaiphpccldaa
open Go.RowKit Go.Lib Go.Maps
set_option maxHeartbeats 1000000 in
theorem lawEqChanges (o1 o2 p1 p2 : Option Addr) (C D : List Int) (k1 k2 l1 l2 lo lo' : Nat) (w : World) (h1 : InL lo w.heap.size w o1 C) (h2 : InL lo w.heap.size w o2 D) (h3 : InL lo' w.heap.size w p1 C) (h4 : InL lo' w.heap.size w p2 D) (hc : C.length ≤ 1048576) (hd : D.length ≤ 1048576) :
    Calls Try.prog 8 #[.agg #[.slice o1 C.length k1, .slice o2 D.length k2], .agg #[.slice p1 C.length l1, .slice p2 D.length l2]] w fun e w' => e = .returned (.bool true) ∧ Below w.heap.size w w' := by
  have H1 := mkHid fun (w' : World) (hb : Below w.heap.size w w') => lawEqSInt o1 p1 C k1 l1 lo lo' w' ((h1.below hb (Nat.le_refl _)).mono (Nat.le_refl _) hb.size) ((h3.below hb (Nat.le_refl _)).mono (Nat.le_refl _) hb.size) hc
  have H2 := mkHid fun (w' : World) (hb : Below w.heap.size w w') => lawEqSInt o2 p2 D k2 l2 lo lo' w' ((h2.below hb (Nat.le_refl _)).mono (Nat.le_refl _) hb.size) ((h4.below hb (Nat.le_refl _)).mono (Nat.le_refl _) hb.size) hd
  clear h1 h2 h3 h4
  obtain ⟨W0, hW⟩ : ∃ W, W = (w.alloc (.cells #[.slice o1 C.length k1, .slice o2 D.length k2] 29)).alloc (.cells #[.slice p1 C.length l1, .slice p2 D.length l2] 29) := ⟨_, rfl⟩
  obtain ⟨hb0, hs0, hA0, hB0⟩ := two_blocks hW
  have HW := mkHid hW
  clear hW
  go_enter Try.func8, Try.ntmps8
  go_wp2_with fail
  rw [← HW.out]
  refine (H1.out W0 hb0).mono ?_
  rintro e W1 ⟨rfl, hw1⟩
  have hw1s := hw1.size
  have hA1 := (hw1.block w.heap.size (by omega)).trans hA0
  have hB1 := (hw1.block (w.heap.size + 1) (by omega)).trans hB0
  have hb1 := hb0.trans (hw1.mono (by omega))
  have p1_1 := (two_cellsN hA1).2
  have q1_1 := (two_cellsN hB1).2
  clear hA0 hB0 hw1 hs0 hb0 hw1s HW hA1 hB1
  go_wp2_with fail
  refine (H2.out W1 hb1).mono ?_
  rintro e W2 ⟨rfl, hw2⟩
  have hb2 := mkHid (hb1.trans (hw2.mono hb1.size))
  clear p1_1 q1_1 hw2
  go_wp2
  go_ret
  exact ⟨rfl, hb2.out⟩
set_option maxHeartbeats 1000000 in
theorem lawMarkChanges (o1 o2 : Option Addr) (C D : List Int) (k1 k2 B : Nat) (w : World) (h : TwoN B w (.slice o1 C.length k1) (.slice o2 D.length k2) C D) (hB : B ≤ w.heap.size) (hc : C.length ≤ 1048576) (hd : D.length ≤ 1048576) :
    Calls Try.prog 11 #[.agg #[.slice o1 C.length k1, .slice o2 D.length k2], .int .i64 1] w fun e w' => e = .returned (.int .i64 ((1 + C.length + D.length : Nat) : Int)) ∧ Hid (TwoN B w' (.slice o1 C.length k1) (.slice o2 D.length k2) (numsFrom 1 C.length) (numsFrom (1 + C.length) D.length)) ∧ Below B w w' ∧ Hid (∀ k, k < w.heap.size → (Value.slice o1 C.length k1).ownBlock ≠ some k → (Value.slice o2 D.length k2).ownBlock ≠ some k → w'.heap[k]? = w.heap[k]?) := by
  obtain ⟨g1, g2, g3⟩ := h
  obtain ⟨W0, hW⟩ : ∃ W, W = w.alloc (.cells #[.slice o1 C.length k1, .slice o2 D.length k2] 29) := ⟨_, rfl⟩
  have hb0 : Below w.heap.size w W0 := by rw [hW]; exact (Below.refl _ _).alloc (Nat.le_refl _) _
  have hA0 : W0.heap[w.heap.size]? = some (.cells #[.slice o1 C.length k1, .slice o2 D.length k2] 29 (0, 0)) := by rw [hW]; exact heap_alloc_at _ _
  have hs0 : w.heap.size < W0.heap.size := by rw [hW]; simp
  have HW := mkHid hW
  have G1 := g1.below hb0
  have G2 := g2.below hb0
  have H1 := mkHid (lawMarkInts o1 C k1 B 1 W0 hc (by omega) G1)
  have hne : ∀ k, (Value.slice o1 C.length k1).ownBlock = some k → k < w.heap.size := fun k hk => (World.ownsRow.lt g1 k hk).2
  clear hW
  go_enter Try.func11, Try.ntmps11
  go_wp2_with fail
  rw [← HW.out]
  refine H1.out.mono ?_
  rintro e W1 ⟨rfl, hm1, hg1⟩
  have hA1 : W1.heap[w.heap.size]? = some (.cells #[.slice o1 C.length k1, .slice o2 D.length k2] 29 (0, 0)) := (hg1.out.block w.heap.size hs0 (by intro e; have := hne _ e.symm; omega)).trans hA0
  have p1 := (two_cellsN hA1).2
  have G2' : OwnN B (.slice o2 D.length k2) D W1 := G2.keep hg1.out (by
    rcases g3 with g3 | g3
    · rw [g3]
      cases ho : (Value.slice o2 D.length k2).ownBlock with
      | none => exact .inl rfl
      | some k => exact .inr (by simp)
    · exact .inr (fun e => g3 e.symm))
  have M1 : OwnN B (.slice o1 C.length k1) (numsFrom 1 C.length) W1 := hm1.out
  have hs1 : w.heap.size < W1.heap.size := Nat.lt_of_lt_of_le hs0 hg1.out.size
  have hbe1 : Below B w W1 := (hb0.mono hB).grown hg1.out (by omega) (fun k hk => (World.ownsRow.lt g1 k hk).1)
  have hap2 : Hid ((Value.slice o1 C.length k1).ownBlock = none ∨ (Value.slice o1 C.length k1).ownBlock ≠ (Value.slice o2 D.length k2).ownBlock) := g3
  obtain ⟨q, hq⟩ : ∃ q, 1 + C.length = q := ⟨_, rfl⟩
  have hqb : q ≤ 2000000 := by omega
  have Hq := mkHid hq
  rw [hq]
  have H2 := mkHid (lawMarkInts o2 D k2 B q W1 hd (by omega) G2')
  have hlt2 : ∀ k, (Value.slice o2 D.length k2).ownBlock = some k → B ≤ k := fun k hk => (World.ownsRow.lt G2' k hk).1
  have Hlt2 := mkHid hlt2
  replace M1 := mkHid M1
  replace hbe1 := mkHid hbe1
  replace hs1 := mkHid (show B ≤ W1.heap.size by omega)
  have hst1 : Hid (∀ k, k < w.heap.size → (Value.slice o1 C.length k1).ownBlock ≠ some k → k < W1.heap.size ∧ W1.heap[k]? = w.heap[k]?) := fun k hk hn => ⟨by have := hb0.size; have := hg1.out.size; omega, (hg1.out.block k (by have := hb0.size; omega) (fun e => hn e.symm)).trans (hb0.block k hk)⟩
  clear H1 g1 g2 g3 G1 G2 G2' hne hA0 hA1 hb0 hs0 HW hm1 hg1 hlt2 hq
  go_wp2_with fail
  refine H2.out.mono ?_
  rintro e W2 ⟨rfl, hm2, hg2⟩
  have hTwo : Hid (TwoN B W2 (.slice o1 C.length k1) (.slice o2 D.length k2) (numsFrom 1 C.length) (numsFrom q D.length)) := ⟨M1.out.keep hg2.out hap2.out, hm2.out, hap2.out⟩
  have hbe2 := mkHid (hbe1.out.grown hg2.out hs1.out (fun k hk => Hlt2.out k hk))
  have hst2 : Hid (∀ k, k < w.heap.size → (Value.slice o1 C.length k1).ownBlock ≠ some k → (Value.slice o2 D.length k2).ownBlock ≠ some k → W2.heap[k]? = w.heap[k]?) := fun k hk h1 h2 => (hg2.out.block k (hst1.out k hk h1).1 (fun e => h2 e.symm)).trans (hst1.out k hk h1).2
  clear H2 p1
  go_wp2
  go_ret
  rw [Hq.out]
  exact ⟨by rw [Int.natCast_add]; rfl, hTwo, hbe2.out, hst2⟩
set_option maxHeartbeats 1000000 in
theorem lawHeldChanges (o1 o2 : Option Addr) (c d k1 k2 lo : Nat) (w : World) (h1 : InL lo w.heap.size w o1 (numsFrom 1 c)) (h2 : InL lo w.heap.size w o2 (numsFrom (1 + c) d)) (hc : c ≤ 1048576) (hd : d ≤ 1048576) :
    Calls Try.prog 12 #[.agg #[.slice o1 c k1, .slice o2 d k2], .int .i64 1] w fun e w' => e = .returned (.int .i64 ((1 + c + d : Nat) : Int)) ∧ Below w.heap.size w w' := by
  obtain ⟨W0, hW⟩ : ∃ W, W = w.alloc (.cells #[.slice o1 c k1, .slice o2 d k2] 29) := ⟨_, rfl⟩
  have hb0 : Below w.heap.size w W0 := by rw [hW]; exact (Below.refl _ _).alloc (Nat.le_refl _) _
  have hA0 : W0.heap[w.heap.size]? = some (.cells #[.slice o1 c k1, .slice o2 d k2] 29 (0, 0)) := by rw [hW]; exact heap_alloc_at _ _
  have p1 := (two_cellsN hA0).2
  have HW := mkHid hW
  have H1 := mkHid (lawHeldInts o1 c k1 lo 1 W0 hc (by omega) ((h1.below hb0 (Nat.le_refl _)).mono (Nat.le_refl _) hb0.size))
  obtain ⟨q, hq⟩ : ∃ q, 1 + c = q := ⟨_, rfl⟩
  rw [hq] at h2
  have hqb : q ≤ 2000000 := by omega
  have H2 := mkHid (lawHeldInts o2 d k2 lo q W0 hd (by omega) ((h2.below hb0 (Nat.le_refl _)).mono (Nat.le_refl _) hb0.size))
  have Hq := mkHid hq
  rw [hq] at H1
  clear hW hq hA0 h1 h2
  go_enter Try.func12, Try.ntmps12
  go_wp2_with fail
  rw [← HW.out]
  refine H1.out.mono ?_
  rintro e W1 ⟨rfl, rfl⟩
  clear H1 HW
  go_wp2_with fail
  refine H2.out.mono ?_
  rintro e W2 ⟨rfl, rfl⟩
  clear H2 p1
  go_wp2
  go_ret
  rw [Hq.out]
  exact ⟨by rw [Int.natCast_add]; rfl, hb0⟩
end Go.Proofs.Ytkklaiphpccldaa
