
/- The law's marks on a list of texts that was answered, and on what Expand answers. -/
import Derived.Test.YtfkjbamjppnohaaDoorWeakAlias
import Derived.Test.YtfkjbamjppnohaaDoorExSpec4
namespace Go.Proofs.YtfkjbamjppnohaaDoor
open Go.RowKit Go.Lib Go.Maps
def markX (n : Nat) : ByteArray := ⟨(Pl.mark n).toArray⟩
/-- The first n marks. -/
def marksX (n : Nat) : List ByteArray := (List.range n).map fun j => markX (j + 1)
set_option maxRecDepth 20000 in
theorem marksX_len (n : Nat) : (marksX n).length = n := by simp [marksX]
set_option maxRecDepth 20000 in
theorem marksX_get (n j : Nat) (h : j < (marksX n).length) : (marksX n)[j] = markX (j + 1) := by simp [marksX]
set_option maxRecDepth 20000 in
theorem marksX_set (P : List ByteArray) (i : Nat) (h : i < P.length) : (marksX i ++ P.drop i).set i (markX (i + 1)) = marksX (i + 1) ++ P.drop (i + 1) := by
  rw [List.drop_eq_getElem_cons h]
  have e : marksX (i + 1) = marksX i ++ [markX (i + 1)] := by simp [marksX, List.range_succ]
  rw [e, List.set_append, if_neg (by rw [marksX_len]; omega), marksX_len, Nat.sub_self, List.set_cons_zero, List.append_assoc]
  rfl
set_option maxRecDepth 20000 in
theorem grown_below {w w' : World} {r : Option Nat} (hb : Below w.heap.size w w') : w.grownBy w' r := ⟨hb.os, hb.tape, hb.output, hb.size, fun k hk _ => hb.block k hk⟩
set_option maxRecDepth 20000 in
set_option maxHeartbeats 1000000 in
theorem lawMarkX (o : Option Addr) (P : List ByteArray) (cap B : Nat) (w : World) (hl : P.length ≤ 900000) (h : OwnX B (.slice o P.length cap) P w) :
    Calls Tryd.prog 25 #[.slice o P.length cap, .int .i64 1] w fun e w' => e = .returned (.int .i64 ((1 + P.length : Nat) : Int)) ∧ Hid (OwnX B (.slice o P.length cap) (marksX P.length) w') ∧ Hid (w.grownBy w' (Value.slice o P.length cap).ownBlock) := by
  have H := mkHid h
  clear h
  go_enter Tryd.func25, Tryd.ntmps25
  go_wp2
  go_loopw [1, 5] (fun m i wr => ∃ k q : Nat, k ≤ P.length ∧ i = .int .i64 k ∧ m = .int .i64 (q : Int) ∧ Hid (q = 1 + k) ∧ Hid (OwnX B (.slice o P.length cap) (marksX k ++ P.drop k) wr) ∧ Hid (w.grownBy wr (Value.slice o P.length cap).ownBlock)) (fun _ i _ => P.length - (Lib.intOf i).toNat)
  case atStart => exact ⟨0, 1, Nat.zero_le _, rfl, rfl, rfl, H, ⟨rfl, rfl, rfl, Nat.le_refl _, fun _ _ _ => rfl⟩⟩
  case round =>
    clear H
    obtain ⟨k, q, hk, rfl, rfl, hq, hown, hg⟩ := hrel
    have hqb : q ≤ 900001 := by have := hq.out; omega
    have hq0 : 0 < q := by have := hq.out; omega
    by_cases hlt : k < P.length
    · have hlen : (marksX k ++ P.drop k).length = P.length := by simp [marksX_len]; omega
      have hset := mkHid (marksX_set P k hlt)
      rw [show k + 1 = q by have := hq.out; omega] at hset
      have hkq : marksX q ++ P.drop q = marksX (k + 1) ++ P.drop (k + 1) := by rw [show k + 1 = q by have := hq.out; omega]
      rw [hkq] at hset
      clear hkq
      have cT := mkHid (markText q wr hq0 (by omega))
      generalize marksX k ++ P.drop k = cur at *
      go_wp2_with fail
      refine cT.out.mono ?_
      rintro e w1 ⟨rfl, hb⟩
      have hown' := hown.out.below hb
      unfold OwnX at hown'
      rw [hlen] at hown'
      rcases hown'.2 with ⟨h1, h0⟩ | ⟨g, cap', cr, h1, hB, -⟩
      · omega
      · simp only [Value.slice.injEq] at h1
        obtain ⟨rfl, -, rfl⟩ := h1
        have hcl : k < (strCellsX cur).length := by simp [strCellsX]; omega
        have d0 : w1.cell? ⟨g, k, none⟩ = some ((strCellsX cur)[k]) := by rw [World.ownsRow.cellAt hown' k (by omega)]; exact List.getElem?_eq_getElem hcl
        have z0 := World.ownsRow.frozenAt hown' k
        have hst := World.ownsRow.stored hown' k (.string (markX q))
        have hn : Hid (OwnX B (.slice (some ⟨g, 0, none⟩) P.length cap) (marksX (k + 1) ++ P.drop (k + 1)) (w1.setCell ⟨g, k, none⟩ (.string (markX q)))) := by
          rw [← hset.out]
          show World.ownsRow _ _ _ _ _ _ _
          rw [List.length_set, hlen, strCellsX, List.map_set]
          exact hst.1
        have hg2 : Hid (w.grownBy (w1.setCell ⟨g, k, none⟩ (.string (markX q))) (Value.slice (some ⟨g, 0, none⟩) P.length cap).ownBlock) := grG_trans (grG_trans hg.out (grown_below hb)) hst.2
        have hadd := add_off g k
        generalize (strCellsX cur)[k] = y0 at d0
        unfold markX at hn hg2
        clear hown' hst hset hown hg hcl cT hb hlen hB
        go_wp2
        go_roundw
        case rel => exact ⟨k + 1, q + 1, by omega, by go_num, by go_num, by show _ = _; have := hq.out; omega, hn, hg2⟩
        case measure => simp [Lib.intOf]; omega
    · have hkl : Hid (k = P.length) := Nat.le_antisymm hk (by omega)
      have hn : Hid (OwnX B (.slice o P.length cap) (marksX P.length) wr) := by
        have := hown.out
        rw [hkl.out, List.drop_length, List.append_nil] at this
        exact this
      clear hown
      go_wp2
      go_ret
      exact ⟨by rw [hq.out, hkl.out]; rfl, hn, hg⟩
set_option maxRecDepth 20000 in
set_option maxHeartbeats 1000000 in
theorem lawHeldX (o : Option Addr) (n cap lo : Nat) (w : World) (hl : n ≤ 900000) (h : TxL lo w.heap.size w o (marksX n)) :
    Calls Tryd.prog 26 #[.slice o n cap, .int .i64 1] w fun e w' => e = .returned (.int .i64 ((1 + n : Nat) : Int)) ∧ Below w.heap.size w w' := by
  have H := mkHid h
  clear h
  go_enter Tryd.func26, Tryd.ntmps26
  go_wp2
  go_loopw [1, 5] (fun m i wr => ∃ k q : Nat, k ≤ n ∧ i = .int .i64 k ∧ m = .int .i64 (q : Int) ∧ Hid (q = 1 + k) ∧ Hid (Below w.heap.size w wr)) (fun _ i _ => n - (Lib.intOf i).toNat)
  case atStart => exact ⟨0, 1, Nat.zero_le _, rfl, rfl, rfl, Below.refl _ _⟩
  case round =>
    obtain ⟨k, q, hk, rfl, rfl, hq, hb⟩ := hrel
    have hqb : q ≤ 900001 := by have := hq.out; omega
    have hq0 : 0 < q := by have := hq.out; omega
    by_cases hlt : k < n
    · obtain ⟨a, rfl, -, hlta, hc1⟩ := (H.out.below hb.out (Nat.le_refl _)) k (by rw [marksX_len]; exact hlt)
      rw [marksX_get, show k + 1 = q by have := hq.out; omega] at hc1
      have hla : (a.add k).block < wr.heap.size := by rw [add_blockG]; exact Nat.lt_of_lt_of_le hlta hb.out.size
      have Hc := mkHid (fun (w2 : World) (hb2 : Below wr.heap.size wr w2) => (hb2.cell (p := a.add k) hla).trans hc1)
      have hmk := mkHid (fun W => markText q W hq0 (by omega))
      unfold markX at hc1 Hc
      have zq : ∀ x : ByteArray, (x.toList != x.toList) = false := fun x => by simp
      have zq2 := zq ⟨(Pl.mark q).toArray⟩
      generalize (⟨(Pl.mark q).toArray⟩ : ByteArray) = x at *
      have hbr : Below wr.heap.size wr wr := Below.refl _ _
      clear H zq
      go_wp2
      go_region_with (go_at_call 24; (refine (hmk.out _).mono ?_; rintro e w2 ⟨rfl, hb2⟩; have hr2 := Hc.out w2 (((Below.refl wr.heap.size wr).drew).trans hb2)))
      all_goals
        have hbw := mkHid (hb.out.drew.trans (hb2.mono hb.out.size))
        go_wp2
        go_roundw
        case rel => exact ⟨k + 1, q + 1, by omega, by go_num, by go_num, by show _ = _; have := hq.out; omega, hbw⟩
        case measure => simp [Lib.intOf]; omega
    · have hkl : Hid (k = n) := Nat.le_antisymm hk (by omega)
      go_wp2
      go_ret
      exact ⟨by rw [hq.out, hkl.out]; rfl, hb.out⟩
set_option maxRecDepth 20000 in
theorem two_cellsX {w : World} {g t : Nat} {z : Nat × Nat} {a b : Value} (h : w.heap[g]? = some (.cells #[a, b] t z)) : w.cell? ⟨g, 0, none⟩ = some a ∧ w.cell? ⟨g, 1, none⟩ = some b := by
  constructor <;> simp [World.cell?, h]
set_option maxRecDepth 20000 in
set_option maxHeartbeats 1000000 in
theorem lawEqExpanded (c : Int) (o1 p1 : Option Addr) (P : List ByteArray) (k1 l1 lo lo' : Nat) (w : World) (h1 : TxL lo w.heap.size w o1 P) (h3 : TxL lo' w.heap.size w p1 P) (hc : P.length ≤ 1048576) :
    Calls Tryd.prog 8 #[.agg #[.int .i64 c, .slice o1 P.length k1], .agg #[.int .i64 c, .slice p1 P.length l1]] w fun e w' => e = .returned (.bool true) ∧ Below w.heap.size w w' := by
  have H1 := mkHid fun (w' : World) (hb : Below w.heap.size w w') => lawEqSStr o1 p1 P k1 l1 lo lo' w' ((h1.below hb (Nat.le_refl _)).mono (Nat.le_refl _) hb.size) ((h3.below hb (Nat.le_refl _)).mono (Nat.le_refl _) hb.size) hc
  clear h1 h3
  obtain ⟨W0, hW⟩ : ∃ W, W = (w.alloc (.cells #[.int .i64 c, .slice o1 P.length k1] 26)).alloc (.cells #[.int .i64 c, .slice p1 P.length l1] 26) := ⟨_, rfl⟩
  obtain ⟨hb0, hs0, hA0, hB0⟩ := two_blocks hW
  obtain ⟨a0, a1⟩ := two_cellsX hA0
  obtain ⟨b0, b1⟩ := two_cellsX hB0
  have zc : (c != c) = false := by simp
  have HW := mkHid hW
  clear hW hA0 hB0
  go_enter Tryd.func8, Tryd.ntmps8
  go_wp2_with (first | (rw [← HW.out]; clear HW) | fail)
  refine (H1.out W0 hb0).mono ?_
  rintro e W1 ⟨rfl, hw1⟩
  have hb1 := mkHid (hb0.trans (hw1.mono (by omega)))
  clear hb0 hs0 a0 a1 b0 b1 hw1
  go_wp2
  go_ret
  exact ⟨rfl, hb1.out⟩
set_option maxRecDepth 20000 in
set_option maxHeartbeats 1000000 in
theorem lawMarkExpanded (c : Int) (o1 : Option Addr) (P : List ByteArray) (k1 B : Nat) (w : World) (h : OwnX B (.slice o1 P.length k1) P w) (hc : P.length ≤ 900000) :
    Calls Tryd.prog 11 #[.agg #[.int .i64 c, .slice o1 P.length k1], .int .i64 1] w fun e w' => e = .returned (.int .i64 ((1 + P.length : Nat) : Int)) ∧ Hid (OwnX B (.slice o1 P.length k1) (marksX P.length) w') ∧ Hid (w.grownBy w' (Value.slice o1 P.length k1).ownBlock) := by
  obtain ⟨W0, hW⟩ : ∃ W, W = w.alloc (.cells #[.int .i64 c, .slice o1 P.length k1] 26) := ⟨_, rfl⟩
  have hb0 : Below w.heap.size w W0 := by rw [hW]; exact (Below.refl _ _).alloc (Nat.le_refl _) _
  have hA0 : W0.heap[w.heap.size]? = some (.cells #[.int .i64 c, .slice o1 P.length k1] 26 (0, 0)) := by rw [hW]; exact heap_alloc_at _ _
  obtain ⟨-, a1⟩ := two_cellsX hA0
  have HW := mkHid hW
  have H1 := mkHid (lawMarkX o1 P k1 B W0 hc (h.below hb0))
  have Hb0 := mkHid hb0
  clear hW hA0 h hb0
  go_enter Tryd.func11, Tryd.ntmps11
  go_wp2_with (first | (rw [← HW.out]; clear HW) | fail)
  refine H1.out.mono ?_
  rintro e W1 ⟨rfl, hm1, hg1⟩
  have hg2 := mkHid (grG_trans (grown_below Hb0.out) hg1.out)
  clear H1 a1 hg1
  go_wp2
  go_ret
  exact ⟨rfl, hm1, hg2⟩
set_option maxRecDepth 20000 in
set_option maxHeartbeats 1000000 in
theorem lawHeldExpanded (c : Int) (o1 : Option Addr) (n k1 lo : Nat) (w : World) (h : TxL lo w.heap.size w o1 (marksX n)) (hn : n ≤ 900000) :
    Calls Tryd.prog 12 #[.agg #[.int .i64 c, .slice o1 n k1], .int .i64 1] w fun e w' => e = .returned (.int .i64 ((1 + n : Nat) : Int)) ∧ Below w.heap.size w w' := by
  obtain ⟨W0, hW⟩ : ∃ W, W = w.alloc (.cells #[.int .i64 c, .slice o1 n k1] 26) := ⟨_, rfl⟩
  have hb0 : Below w.heap.size w W0 := by rw [hW]; exact (Below.refl _ _).alloc (Nat.le_refl _) _
  have hA0 : W0.heap[w.heap.size]? = some (.cells #[.int .i64 c, .slice o1 n k1] 26 (0, 0)) := by rw [hW]; exact heap_alloc_at _ _
  obtain ⟨-, a1⟩ := two_cellsX hA0
  have HW := mkHid hW
  have H1 := mkHid (lawHeldX o1 n k1 lo W0 hn ((h.below hb0 (Nat.le_refl _)).mono (Nat.le_refl _) hb0.size))
  have hge : decide (((1 + n : Nat) : Int) < 0) = false := by simp; omega
  have Hb0 := mkHid hb0
  clear hW hA0 h hb0
  go_enter Tryd.func12, Tryd.ntmps12
  go_wp2_with (first | (rw [← HW.out]; clear HW) | fail)
  refine H1.out.mono ?_
  rintro e W1 ⟨rfl, hb1⟩
  have hb2 := mkHid (Hb0.out.trans (hb1.mono Hb0.out.size))
  clear H1 a1 hb1
  go_wp2
  go_ret
  exact ⟨rfl, hb2.out⟩
end Go.Proofs.YtfkjbamjppnohaaDoor
