
/- Draws of characters: a point, points. -/

/- A point put behind bytes, in each of the sets: the program's side. -/

/- Encode, the program's side: the loop over any set that puts points; each of the sets. -/
import Derived.Test.YtbppdfjigcelkaaGreatDoorNinePlain
import Derived.Test.YtbppdfjigcelkaaGreatDoorEncForm
import Derived.Test.YtbppdfjigcelkaaGreatDoorAnyPhase
namespace Go.Proofs.YtbppdfjigcelkaaGreatDoor
open Go.RowKit Go.Lib Go.Maps
/-- A call that has drawn points. -/
def PtsOut (w : World) (n A g : Nat) (o : Option Addr) (cl cp z : Nat) (e : Ending) (w' : World) : Prop := ∃ (v : Value) (P : List Int) (a' : Nat), e = .returned v ∧ P.length ≤ n ∧ OwnN w.heap.size v P w' ∧ a' ≤ A ∧ Src w' g o cl cp a' z ∧ w.grownBy w' (some g)
/-- A number of a table. -/
def numOkC (lo hi : Int) : Value → Bool
  | .int .i64 t => decide (lo ≤ t) && decide (t ≤ hi)
  | _ => false
set_option maxRecDepth 20000 in
theorem numTable_at {w w3 : World} {cs : Array Value} {g v : Nat} {lo hi : Int} (hg : (w.alloc (.cells cs 2)).grownBy w3 (some g)) (hgl : g < w.heap.size) (hv : v < cs.size) (hcs : cs.toList.all (numOkC lo hi) = true) :
    ∃ t : Int, w3.cell? ⟨w.heap.size, v, none⟩ = some (.int .i64 t) ∧ lo ≤ t ∧ t ≤ hi := by
  have hm : numOkC lo hi cs[v] = true := List.all_eq_true.1 hcs _ (Array.mem_toList_iff.2 (Array.getElem_mem hv))
  have hc : (w.alloc (.cells cs 2)).cell? ⟨w.heap.size, v, none⟩ = some cs[v] := by simp [hv]
  have h3 := gr_cell hg (show w.heap.size ≠ g by omega) hc
  cases hx : cs[v] with
  | int k t =>
    rw [hx] at h3 hm
    cases k
    all_goals first | (cases hm; done) | skip
    unfold numOkC at hm
    simp only [Bool.and_eq_true, decide_eq_true_eq] at hm
    exact ⟨t, h3, hm.1, hm.2⟩
  | _ => rw [hx] at hm; cases hm
set_option maxRecDepth 20000 in
set_option maxHeartbeats 4000000 in
theorem srcPoint (g : Nat) (o : Option Addr) (c : List UInt8) (cp a z : Nat) (w : World) (h : Src w g o c.length cp a z) (hc : Code g w o c) (ha : a ≤ 900000000000) (hl : c.length ≤ 1048576) :
    Calls Tryz.prog 37 #[.pointer (some ⟨g, 0, none⟩)] w fun e w' => ∃ (p : Int) (a' : Nat), e = .returned (.int .i64 p) ∧ 0 ≤ p ∧ p ≤ 1114111 ∧ a' ≤ a + 2 ∧ Src w' g o c.length cp a' z ∧ w.grownBy w' (some g) := by
  have HC : Hid (Code g w o c) := hc
  have hgl := h.lt
  have hN := mkHid (srcN g o c cp a z 8 w h hc (by omega) hl (by omega) (by omega))
  clear h hc
  go_enter Tryz.func37, Tryz.ntmps37
  go_wp2_with fail
  refine hN.out.mono ?_
  rintro e w1 ⟨v, rfl, hv, hs1, hg1⟩
  have Hs := mkHid hs1
  have Hg := mkHid hg1
  have hl1 : g < w1.heap.size := hs1.lt
  have hbA : ∀ cs, Below w1.heap.size w1 (w1.alloc (.cells cs 2)) := fun cs => (Below.refl _ _).alloc (Nat.le_refl _) _
  have hT := mkHid (fun most (h1 : 1 ≤ most) (h2 : most ≤ 4000000000) cs => srcN g o c cp (a + 1) z most (w1.alloc (.cells cs 2)) (Hs.out.below (hbA cs)) (HC.out.grown (gr_trans Hg.out (gr_below (hbA cs))) (Nat.le_refl _)) (by omega) hl h2 h1)
  have hM := mkHid (fun most (h1 : 1 ≤ most) (h2 : most ≤ 4000000000) => srcN g o c cp (a + 1) z most w1 Hs.out (HC.out.grown Hg.out (Nat.le_refl _)) (by omega) hl h2 h1)
  have HbA := mkHid hbA
  clear hN hs1 hg1 hbA
  rcases (show v = 0 ∨ v = 1 ∨ v = 2 ∨ v = 3 ∨ 4 ≤ v by omega) with h0 | h0 | h0 | h0 | h0
  · have b0 : ((v : Int) == 0) = true := by rw [beq_iff_eq]; omega
    clear h0
    go_wp2_with fail
    refine (hT.out 10 (by omega) (by omega) _).mono ?_
    rintro e w2 ⟨u, rfl, hu, hs2, hg2⟩
    obtain ⟨t, hct, ht1, ht2⟩ := numTable_at (lo := 0) (hi := 1114111) hg2 hl1 (show u < 10 by omega) (by decide)
    have hu10 : u < 10 := by omega
    have Hs2 := mkHid hs2
    have Hg2 := mkHid (gr_trans Hg.out (gr_trans (gr_below (HbA.out _)) hg2))
    clear hs2 hg2 hT hM HbA Hs Hg
    go_wp2
    go_ret
    exact ⟨t, a + 1 + 1, rfl, ht1, ht2, by omega, Hs2.out, Hg2.out⟩
  · have b0 : ((v : Int) == 0) = false := by rw [beq_eq_false_iff_ne]; omega
    have b1 : ((v : Int) == 1) = true := by rw [beq_iff_eq]; omega
    clear h0
    go_wp2_with fail
    refine (hM.out 1114112 (by omega) (by omega)).mono ?_
    rintro e w2 ⟨u, rfl, hu, hs2, hg2⟩
    have Hs2 := mkHid hs2
    have Hg2 := mkHid (gr_trans Hg.out hg2)
    clear hs2 hg2 hT hM HbA Hs Hg
    go_wp2
    go_ret
    exact ⟨u, a + 1 + 1, rfl, by omega, by omega, by omega, Hs2.out, Hg2.out⟩
  · have b0 : ((v : Int) == 0) = false := by rw [beq_eq_false_iff_ne]; omega
    have b1 : ((v : Int) == 1) = false := by rw [beq_eq_false_iff_ne]; omega
    have b2 : ((v : Int) == 2) = true := by rw [beq_iff_eq]; omega
    clear h0
    go_wp2_with fail
    refine (hM.out 96 (by omega) (by omega)).mono ?_
    rintro e w2 ⟨u, rfl, hu, hs2, hg2⟩
    have Hs2 := mkHid hs2
    have Hg2 := mkHid (gr_trans Hg.out hg2)
    clear hs2 hg2 hT hM HbA Hs Hg
    go_wp2
    go_ret
    exact ⟨160 + (u : Int), a + 1 + 1, rfl, by omega, by omega, by omega, Hs2.out, Hg2.out⟩
  · have b0 : ((v : Int) == 0) = false := by rw [beq_eq_false_iff_ne]; omega
    have b1 : ((v : Int) == 1) = false := by rw [beq_eq_false_iff_ne]; omega
    have b2 : ((v : Int) == 2) = false := by rw [beq_eq_false_iff_ne]; omega
    have b3 : ((v : Int) == 3) = true := by rw [beq_iff_eq]; omega
    clear h0
    go_wp2_with fail
    refine (hT.out 8 (by omega) (by omega) _).mono ?_
    rintro e w2 ⟨u, rfl, hu, hs2, hg2⟩
    obtain ⟨t, hct, ht1, ht2⟩ := numTable_at (lo := 0) (hi := 1114111) hg2 hl1 (show u < 8 by omega) (by decide)
    have hu10 : u < 8 := by omega
    have Hs2 := mkHid hs2
    have Hg2 := mkHid (gr_trans Hg.out (gr_trans (gr_below (HbA.out _)) hg2))
    clear hs2 hg2 hT hM HbA Hs Hg
    go_wp2
    go_ret
    exact ⟨t, a + 1 + 1, rfl, ht1, ht2, by omega, Hs2.out, Hg2.out⟩
  · have b0 : ((v : Int) == 0) = false := by rw [beq_eq_false_iff_ne]; omega
    have b1 : ((v : Int) == 1) = false := by rw [beq_eq_false_iff_ne]; omega
    have b2 : ((v : Int) == 2) = false := by rw [beq_eq_false_iff_ne]; omega
    have b3 : ((v : Int) == 3) = false := by rw [beq_eq_false_iff_ne]; omega
    clear h0
    go_wp2_with fail
    refine (hM.out 95 (by omega) (by omega)).mono ?_
    rintro e w2 ⟨u, rfl, hu, hs2, hg2⟩
    have Hs2 := mkHid hs2
    have Hg2 := mkHid (gr_trans Hg.out hg2)
    clear hs2 hg2 hT hM HbA Hs Hg
    go_wp2
    go_ret
    exact ⟨32 + (u : Int), a + 1 + 1, rfl, by omega, by omega, by omega, Hs2.out, Hg2.out⟩
set_option maxRecDepth 20000 in
set_option maxHeartbeats 8000000 in
theorem srcPoints (g : Nat) (o : Option Addr) (c : List UInt8) (cp a z n : Nat) (w : World) (h : Src w g o c.length cp a z) (hc : Code g w o c) (ha : a ≤ 800000000000) (hl : c.length ≤ 1048576) (hn : n ≤ 1000) :
    Calls Tryz.prog 16 #[.pointer (some ⟨g, 0, none⟩), .int .i64 n] w fun e w' => PtsOut w n (a + 1 + 3 * n) g o c.length cp z e w' := by
  have HC : Hid (Code g w o c) := hc
  have hgl := h.lt
  have Hs := mkHid h
  have Hg : Hid (w.grownBy w (some g)) := gr_refl _ _
  clear h hc
  go_enter Tryz.func16, Tryz.ntmps16
  obtain ⟨W1, hW1⟩ : ∃ W, w.alloc (.cells #[] 2) = W := ⟨_, rfl⟩
  have b1 : Below w.heap.size w W1 := by rw [← hW1]; exact (Below.refl _ _).alloc (Nat.le_refl _) _
  have O1 : OwnN w.heap.size (.slice (some ⟨w.heap.size, 0, none⟩) 0 0) [] W1 := by rw [← hW1]; exact OwnN.made _ w (Nat.le_refl _)
  have Hs0 := mkHid (Hs.out.below b1)
  have Hg0 : Hid (w.grownBy W1 (some g)) := gr_below b1
  have HO1 := mkHid O1
  have HW1 := mkHid hW1
  clear O1 b1 hW1 Hs Hg
  have hN := srcN g o c cp a z 4 W1 Hs0.out (HC.out.grown Hg0.out (Nat.le_refl _)) (by omega) hl (by omega) (by omega)
  go_wp2_with fail
  rw [HW1.out]
  refine hN.mono ?_
  rintro e w1 ⟨v, rfl, hv, hs1, hg1⟩
  have Hs1 := mkHid hs1
  have Hg1 := mkHid (gr_trans Hg0.out hg1)
  have HO2 := mkHid (HO1.out.grG hg1 hgl)
  clear hN hs1 hg1 Hs0 Hg0 HO1 HW1
  go_wp2
  go_loopw [5, 7] (fun ov iv wr => ∃ (k a' : Nat) (P : List Int), iv = .int .i64 k ∧ k ≤ n ∧ P.length ≤ k ∧ a' ≤ a + 1 + 3 * k ∧ Hid (Src wr g o c.length cp a' z) ∧ Hid (w.grownBy wr (some g)) ∧ Hid (OwnN w.heap.size ov P wr)) (fun _ iv _ => n - (Lib.intOf iv).toNat)
  case atStart => exact ⟨0, a + 1, [], by go_num, by omega, by simp, by omega, Hs1, Hg1, HO2⟩
  case round =>
    clear Hs1 Hg1 HO2
    obtain ⟨k, a', P, rfl, hk, hPk, hak, Hs, Hg, HO⟩ := hrel
    by_cases hkn : k < n
    · have hkI : (k : Int) < (n : Int) := by omega
      have hP := mkHid (srcPoint g o c cp a' z wr Hs.out (HC.out.grown Hg.out (Nat.le_refl _)) (by omega) hl)
      go_wp2_with fail
      refine hP.out.mono ?_
      rintro e w2 ⟨p, a2, rfl, hp0, hp1, ha2, hs2, hg2⟩
      have Hs2 := mkHid hs2
      have Hg2 := mkHid (gr_trans Hg.out hg2)
      have HO2 := mkHid (HO.out.grG hg2 hgl)
      clear hP hs2 hg2 Hs Hg HO
      rcases (show v = 0 ∨ v = 1 ∨ (v ≠ 0 ∧ v ≠ 1) by omega) with h0 | h0 | ⟨h0, h1⟩
      · have b0 : ((v : Int) == 0) = true := by rw [beq_iff_eq]; omega
        have b1 : ((v : Int) == 1) = false := by rw [beq_eq_false_iff_ne]; omega
        have hN := mkHid (srcN g o c cp a2 z 95 w2 Hs2.out (HC.out.grown Hg2.out (Nat.le_refl _)) (by omega) hl (by omega) (by omega))
        clear h0
        go_simp
        go_wp2_with fail
        refine hN.out.mono ?_
        rintro e w3 ⟨u, rfl, hu, hs3, hg3⟩
        have Hs3 := mkHid hs3
        have Hg3 := mkHid (gr_trans Hg2.out hg3)
        have HO3 := mkHid (HO2.out.grG hg3 hgl)
        clear hN hs3 hg3 Hs2 Hg2 HO2
        have hS := mkHid (fun W => specPoint (32 + (u : Int)) W)
        cases hpt : Pl.isPt (32 + (u : Int)) with
        | true =>
          rw [hpt] at hS
          go_wp2_with fail
          refine (hS.out _).mono ?_
          rintro e w9 ⟨rfl, rfl⟩
          have hsz9 : w.heap.size ≤ w9.heap.size := Hg3.out.size
          have hPl : P.length ≤ 1000000 := by omega
          clear hS hpt
          go_wp2_with (at_builtin; go_must (refine wp_appN (w := w9) rfl _ _ rfl w.heap.size u5 P rfl HO3.out (32 + (u : Int)) 1 rfl hPl hsz9 ?_; intro v' w' hO' hG'; refine Hid.out ?_))
          have hblk : ∀ q, u5.ownBlock = some q → w.heap.size ≤ q := fun q hq => (World.ownsRow.lt HO3.out q hq).1
          have bA : Below w9.heap.size w9 (w9.alloc (.cells #[.int .i64 (32 + (u : Int))] 2)) := (Below.refl _ _).alloc (Nat.le_refl _) _
          have Hs4 := mkHid ((Hs3.out.below bA).row hG' (fun q hq => by have := hblk q hq; omega))
          have Hg4 := mkHid (gr_row (gr_trans Hg3.out (gr_below bA)) hG' hblk)
          have HO4 := mkHid hO'
          have hP2 : (P ++ [(32 + (u : Int) : Int)]).length ≤ k + 1 := by simp; omega
          clear hO' hG' bA HO3 Hs3 Hg3
          generalize P ++ [(32 + (u : Int) : Int)] = P2 at *
          refine mkHid ?_
          go_wp2
          go_roundw
          case rel => exact ⟨k + 1, a2 + 1, P2, by go_num, by omega, hP2, by omega, Hs4, Hg4, HO4⟩
          case measure => simp [Lib.intOf]; omega
        | false =>
          rw [hpt] at hS
          go_wp2_with fail
          refine (hS.out _).mono ?_
          rintro e w9 ⟨rfl, rfl⟩
          have hsz9 : w.heap.size ≤ w9.heap.size := Hg3.out.size
          have hPl : P.length ≤ 1000000 := by omega
          clear hS hpt
          go_wp2_with (at_builtin; go_must (refine wp_appN (w := w9) rfl _ _ rfl w.heap.size u5 P rfl HO3.out (65) 1 rfl hPl hsz9 ?_; intro v' w' hO' hG'; refine Hid.out ?_))
          have hblk : ∀ q, u5.ownBlock = some q → w.heap.size ≤ q := fun q hq => (World.ownsRow.lt HO3.out q hq).1
          have bA : Below w9.heap.size w9 (w9.alloc (.cells #[.int .i64 (65)] 2)) := (Below.refl _ _).alloc (Nat.le_refl _) _
          have Hs4 := mkHid ((Hs3.out.below bA).row hG' (fun q hq => by have := hblk q hq; omega))
          have Hg4 := mkHid (gr_row (gr_trans Hg3.out (gr_below bA)) hG' hblk)
          have HO4 := mkHid hO'
          have hP2 : (P ++ [(65 : Int)]).length ≤ k + 1 := by simp; omega
          clear hO' hG' bA HO3 Hs3 Hg3
          generalize P ++ [(65 : Int)] = P2 at *
          refine mkHid ?_
          go_wp2
          go_roundw
          case rel => exact ⟨k + 1, a2 + 1, P2, by go_num, by omega, hP2, by omega, Hs4, Hg4, HO4⟩
          case measure => simp [Lib.intOf]; omega
      · have b0 : ((v : Int) == 0) = false := by rw [beq_eq_false_iff_ne]; omega
        have b1 : ((v : Int) == 1) = true := by rw [beq_iff_eq]; omega
        have hpm : p.tmod 256 = p % 256 := Int.tmod_eq_emod_of_nonneg hp0
        clear h0
        go_simp
        have hS := mkHid (fun W => specPoint (p % 256) W)
        cases hpt : Pl.isPt (p % 256) with
        | true =>
          rw [hpt] at hS
          go_wp2_with fail
          refine (hS.out _).mono ?_
          rintro e w9 ⟨rfl, rfl⟩
          have hsz9 : w.heap.size ≤ w9.heap.size := Hg2.out.size
          have hPl : P.length ≤ 1000000 := by omega
          clear hS hpt
          go_wp2_with (at_builtin; go_must (refine wp_appN (w := w9) rfl _ _ rfl w.heap.size u5 P rfl HO2.out (p % 256) 1 rfl hPl hsz9 ?_; intro v' w' hO' hG'; refine Hid.out ?_))
          have hblk : ∀ q, u5.ownBlock = some q → w.heap.size ≤ q := fun q hq => (World.ownsRow.lt HO2.out q hq).1
          have bA : Below w9.heap.size w9 (w9.alloc (.cells #[.int .i64 (p % 256)] 2)) := (Below.refl _ _).alloc (Nat.le_refl _) _
          have Hs4 := mkHid ((Hs2.out.below bA).row hG' (fun q hq => by have := hblk q hq; omega))
          have Hg4 := mkHid (gr_row (gr_trans Hg2.out (gr_below bA)) hG' hblk)
          have HO4 := mkHid hO'
          have hP2 : (P ++ [(p % 256 : Int)]).length ≤ k + 1 := by simp; omega
          clear hO' hG' bA HO2 Hs2 Hg2
          generalize P ++ [(p % 256 : Int)] = P2 at *
          refine mkHid ?_
          go_wp2
          go_roundw
          case rel => exact ⟨k + 1, a2, P2, by go_num, by omega, hP2, by omega, Hs4, Hg4, HO4⟩
          case measure => simp [Lib.intOf]; omega
        | false =>
          rw [hpt] at hS
          go_wp2_with fail
          refine (hS.out _).mono ?_
          rintro e w9 ⟨rfl, rfl⟩
          have hsz9 : w.heap.size ≤ w9.heap.size := Hg2.out.size
          have hPl : P.length ≤ 1000000 := by omega
          clear hS hpt
          go_wp2_with (at_builtin; go_must (refine wp_appN (w := w9) rfl _ _ rfl w.heap.size u5 P rfl HO2.out (65) 1 rfl hPl hsz9 ?_; intro v' w' hO' hG'; refine Hid.out ?_))
          have hblk : ∀ q, u5.ownBlock = some q → w.heap.size ≤ q := fun q hq => (World.ownsRow.lt HO2.out q hq).1
          have bA : Below w9.heap.size w9 (w9.alloc (.cells #[.int .i64 (65)] 2)) := (Below.refl _ _).alloc (Nat.le_refl _) _
          have Hs4 := mkHid ((Hs2.out.below bA).row hG' (fun q hq => by have := hblk q hq; omega))
          have Hg4 := mkHid (gr_row (gr_trans Hg2.out (gr_below bA)) hG' hblk)
          have HO4 := mkHid hO'
          have hP2 : (P ++ [(65 : Int)]).length ≤ k + 1 := by simp; omega
          clear hO' hG' bA HO2 Hs2 Hg2
          generalize P ++ [(65 : Int)] = P2 at *
          refine mkHid ?_
          go_wp2
          go_roundw
          case rel => exact ⟨k + 1, a2, P2, by go_num, by omega, hP2, by omega, Hs4, Hg4, HO4⟩
          case measure => simp [Lib.intOf]; omega
      · have b0 : ((v : Int) == 0) = false := by rw [beq_eq_false_iff_ne]; omega
        have b1 : ((v : Int) == 1) = false := by rw [beq_eq_false_iff_ne]; omega
        clear h0 h1
        go_simp
        have hS := mkHid (fun W => specPoint (p) W)
        cases hpt : Pl.isPt (p) with
        | true =>
          rw [hpt] at hS
          go_wp2_with fail
          refine (hS.out _).mono ?_
          rintro e w9 ⟨rfl, rfl⟩
          have hsz9 : w.heap.size ≤ w9.heap.size := Hg2.out.size
          have hPl : P.length ≤ 1000000 := by omega
          clear hS hpt
          go_wp2_with (at_builtin; go_must (refine wp_appN (w := w9) rfl _ _ rfl w.heap.size u5 P rfl HO2.out (p) 1 rfl hPl hsz9 ?_; intro v' w' hO' hG'; refine Hid.out ?_))
          have hblk : ∀ q, u5.ownBlock = some q → w.heap.size ≤ q := fun q hq => (World.ownsRow.lt HO2.out q hq).1
          have bA : Below w9.heap.size w9 (w9.alloc (.cells #[.int .i64 (p)] 2)) := (Below.refl _ _).alloc (Nat.le_refl _) _
          have Hs4 := mkHid ((Hs2.out.below bA).row hG' (fun q hq => by have := hblk q hq; omega))
          have Hg4 := mkHid (gr_row (gr_trans Hg2.out (gr_below bA)) hG' hblk)
          have HO4 := mkHid hO'
          have hP2 : (P ++ [(p : Int)]).length ≤ k + 1 := by simp; omega
          clear hO' hG' bA HO2 Hs2 Hg2
          generalize P ++ [(p : Int)] = P2 at *
          refine mkHid ?_
          go_wp2
          go_roundw
          case rel => exact ⟨k + 1, a2, P2, by go_num, by omega, hP2, by omega, Hs4, Hg4, HO4⟩
          case measure => simp [Lib.intOf]; omega
        | false =>
          rw [hpt] at hS
          go_wp2_with fail
          refine (hS.out _).mono ?_
          rintro e w9 ⟨rfl, rfl⟩
          have hsz9 : w.heap.size ≤ w9.heap.size := Hg2.out.size
          have hPl : P.length ≤ 1000000 := by omega
          clear hS hpt
          go_wp2_with (at_builtin; go_must (refine wp_appN (w := w9) rfl _ _ rfl w.heap.size u5 P rfl HO2.out (65) 1 rfl hPl hsz9 ?_; intro v' w' hO' hG'; refine Hid.out ?_))
          have hblk : ∀ q, u5.ownBlock = some q → w.heap.size ≤ q := fun q hq => (World.ownsRow.lt HO2.out q hq).1
          have bA : Below w9.heap.size w9 (w9.alloc (.cells #[.int .i64 (65)] 2)) := (Below.refl _ _).alloc (Nat.le_refl _) _
          have Hs4 := mkHid ((Hs2.out.below bA).row hG' (fun q hq => by have := hblk q hq; omega))
          have Hg4 := mkHid (gr_row (gr_trans Hg2.out (gr_below bA)) hG' hblk)
          have HO4 := mkHid hO'
          have hP2 : (P ++ [(65 : Int)]).length ≤ k + 1 := by simp; omega
          clear hO' hG' bA HO2 Hs2 Hg2
          generalize P ++ [(65 : Int)] = P2 at *
          refine mkHid ?_
          go_wp2
          go_roundw
          case rel => exact ⟨k + 1, a2, P2, by go_num, by omega, hP2, by omega, Hs4, Hg4, HO4⟩
          case measure => simp [Lib.intOf]; omega
    · have hkI : ¬ (k : Int) < (n : Int) := by omega
      go_wp2
      go_ret
      exact ⟨_, P, a', rfl, by omega, HO.out, by omega, Hs.out, Hg.out⟩
end Go.Proofs.YtbppdfjigcelkaaGreatDoor
namespace Go.Proofs.YtbppdfjigcelkaaGreatDoor
open Go.RowKit Go.Lib Go.Maps
set_option maxRecDepth 20000 in
theorem wp_app' {P : Program} {W w : World} {ops : Array Oper} {rest : List Oper} {o : Oper} {a : Act} {Q : Exit → Act → World → Prop} (hgd : o.guard = none) (s x : Operand) (t : TypeId)
    (ho : o.op = .call { callee := .builtin .append, args := #[s, x], argTypes := #[t, t] })
    (i : TypeInfo) (ht : P.underlying t = some (.slice 5)) (hi : P.info? 5 = some i) (hz : i.zero = some (.int .u8 0)) (hsize : i.size = 1) (hby : i.bytes = 1)
    (B : Nat) (v : Value) (p : List UInt8) (hs : a.eval s = v) (hown : Own B v p w) (cs : Array Value) (news : List UInt8) (hcs : cs.toList = byteCells news)
    (n c g : Nat) (hn : n = news.length) (hx : a.eval x = .slice (some ⟨g, 0, none⟩) n c) (hg : w.heap.size = g) (hlen : p.length + news.length ≤ 140737488355328) (hB : B ≤ W.heap.size) (hb : Below B W w)
    (h : ∀ v' w', Own B v' (p ++ news) w' → Below B W w' → wpList P ops Q rest (a.put o.dst v') w') : wpList P ops Q (o :: rest) a (w.alloc (.cells cs 5)) := by
  subst hg
  exact wp_app hgd s x t ho i ht hi hz hsize hby B v p hs hown cs news hcs n c hn hx hlen hB hb h
set_option maxRecDepth 20000 in
set_option maxHeartbeats 400000 in
theorem implPutB (top pt : Int) (h0 : 0 ≤ pt) (ht : top < 256) (ht0 : 0 ≤ top) (v : Value) (p : List UInt8) (B : Nat) (W w : World) (hown : Own B v p w) (hlen : p.length ≤ 1000000) (hB : B ≤ W.heap.size) (hb : Below B W w) :
    Calls Tryz.prog 150 #[.agg #[.int .i64 top], v, .int .i64 pt] w fun e w' => ∃ v', e = .returned v' ∧ Own B v' (p ++ (if pt ≤ top then [Pl.by8 pt] else [])) w' ∧ Below B W w' := by
  obtain ⟨i0, hi, hy0, hy1, hy2⟩ := info_parts Tryz.info5
  by_cases h : pt ≤ top
  · rw [if_pos h]
    go_enter Tryz.func150, Tryz.ntmps150
    go_wp2_with (at_builtin; go_must (refine wp_app' (W := W) rfl _ _ 22 rfl i0 Tryz.underlying22 hi hy0 hy1 hy2 B v p rfl (hown.alloc _) _ [Pl.by8 pt] (by simp [byteCells, Pl.by8_val pt h0 (by omega)]) 1 1 _ rfl rfl (by simp) (by simp; omega) hB (hb.alloc (by have := hb.size; omega) _) ?_; intro v1 w1 hown1 hb1))
    go_ret
    exact ⟨_, rfl, hown1, hb1⟩
  · rw [if_neg h, List.append_nil]
    go_enter Tryz.func150, Tryz.ntmps150
    go_wp2
    go_ret
    exact ⟨_, rfl, hown.alloc _, hb.alloc (by have := hb.size; omega) _⟩
set_option maxRecDepth 20000 in
set_option maxHeartbeats 400000 in
theorem implPair (n : Int) (h0 : 0 ≤ n) (h1 : n < 65536) (v : Value) (p : List UInt8) (B : Nat) (W w : World) (hown : Own B v p w) (hlen : p.length ≤ 1000000) (hB : B ≤ W.heap.size) (hb : Below B W w) :
    Calls Tryz.prog 160 #[v, .int .i64 n] w fun e w' => ∃ v', e = .returned v' ∧ Own B v' (p ++ [Pl.by8 (n / 256), Pl.by8 (n % 256)]) w' ∧ Below B W w' := by
  obtain ⟨i0, hi, hy0, hy1, hy2⟩ := info_parts Tryz.info5
  go_enter Tryz.func160, Tryz.ntmps160
  go_wp2_with (at_builtin; go_must (refine wp_app (W := W) rfl _ _ 22 rfl i0 Tryz.underlying22 hi hy0 hy1 hy2 B v p rfl hown _ [Pl.by8 (n / 256), Pl.by8 (n % 256)] ?_ 2 2 rfl rfl (by simp; omega) hB hb ?_))
  · simp [byteCells, Pl.by8_val (n / 256) (by omega) (by omega), Pl.by8_val (n % 256) (by omega) (by omega)]
  intro v1 w1 hown1 hb1
  go_wp2
  go_ret
  exact ⟨_, rfl, hown1, hb1⟩
set_option maxRecDepth 20000 in
theorem runeCells_form (p : Int) (h : Pl.isPt p = true) : Lib.runeCells p = byteCells (Pl.form 4 p) := by
  simp only [Pl.isPt, Bool.and_eq_true, decide_eq_true_eq, Bool.not_eq_true', Bool.and_eq_false_iff, decide_eq_false_iff_not] at h
  unfold Pl.form
  rw [if_neg (by simp [Pl.isPt]; omega), if_neg (by decide), if_neg (by decide), if_neg (by decide), if_pos rfl]
  split
  · rw [Lib.runeCells, encodeRuneZ_one (by omega) (by omega)]; simp [byteCells, Pl.by8_val p (by omega) (by omega)]
  · split
    · rw [Lib.runeCells, encodeRuneZ_two (by omega) (by omega)]; simp [byteCells, Pl.by8_val (192 + p / 64) (by omega) (by omega), Pl.by8_val (128 + p % 64) (by omega) (by omega)]
    · split
      · rw [Lib.runeCells, encodeRuneZ_three (by omega)]; simp [byteCells, Pl.by8_val (224 + p / 4096) (by omega) (by omega), Pl.by8_val (128 + p / 64 % 64) (by omega) (by omega), Pl.by8_val (128 + p % 64) (by omega) (by omega)]
      · rw [Lib.runeCells, encodeRuneZ_four (by omega) (by omega)]; simp [byteCells, Pl.by8_val (240 + p / 262144) (by omega) (by omega), Pl.by8_val (128 + p / 4096 % 64) (by omega) (by omega), Pl.by8_val (128 + p / 64 % 64) (by omega) (by omega), Pl.by8_val (128 + p % 64) (by omega) (by omega)]
/-- The slice v, whose head may be frozen, holds just the bytes p. -/
def OwF (B : Nat) (v : Value) (p : List UInt8) (w : World) : Prop := w.ownsRowF B 5 1 v p.length (byteCells p)
set_option maxRecDepth 20000 in
set_option maxHeartbeats 400000 in
theorem implPut4 (pt : Int) (h0 : Pl.isPt pt = true) (v : Value) (p : List UInt8) (B : Nat) (W w : World) (hown : OwF B v p w) (hlen : p.length ≤ 1000000) (hB : B ≤ W.heap.size) (hb : Below B W w) :
    Calls Tryz.prog 154 #[.agg #[], v, .int .i64 pt] w fun e w' => ∃ v', e = .returned v' ∧ OwF B v' (p ++ Pl.form 4 pt) w' ∧ Below B W w' := by
  have hpt := h0
  simp only [Pl.isPt, Bool.and_eq_true, decide_eq_true_eq, Bool.not_eq_true', Bool.and_eq_false_iff, decide_eq_false_iff_not] at h0
  have hsz := hb.size
  go_enter Tryz.func154, Tryz.ntmps154
  go_wp2_with fail
  refine (Tryz.utf8_AppendRune_row B v p.length (byteCells p) pt (by omega) (by omega) _ (World.ownsRowF.kept hown (World.grownBy_alloc w _ none) (by by_cases h : v.ownBlock = none <;> simp [h])) (by omega) (by simp; omega)).mono ?_
  rintro e w2 ⟨v2, rfl, ho2, ob, hg2⟩
  have hfo := runeCells_form pt hpt
  have hown2 : OwF B v2 (p ++ Pl.form 4 pt) w2 := by
    unfold OwF
    rw [byteCells_append, List.length_append, ← hfo]
    rw [show (Pl.form 4 pt).length = (Lib.runeCells pt).length by rw [hfo, byteCells_length]]
    exact ho2
  have hb2 : Below B W w2 := ((hb.alloc (by omega) _).alloc (by simp; omega) _).grown hg2 (by simp; omega) (fun k hk => (World.ownsRowF.lt hown k hk).1)
  go_wp2
  go_ret
  exact ⟨_, rfl, hown2, hb2⟩
set_option maxRecDepth 20000 in
theorem and1023 (n : Int) : bits .and .i64 n 1023 = n % 1024 := by
  have h1 : (BitVec.ofInt 64 1023).toNat = 2 ^ 10 - 1 := by decide
  have key : (BitVec.ofInt 64 n &&& BitVec.ofInt 64 1023).toNat = (n % ((2 ^ 64 : Nat) : Int)).toNat % 2 ^ 10 := by
    rw [BitVec.toNat_and, BitVec.toNat_ofInt, h1, Nat.and_two_pow_sub_one_eq_mod]
  show IntKind.i64.wrap ((BitVec.ofInt 64 n &&& BitVec.ofInt 64 1023).toNat : Nat) = n % 1024
  rw [key, IntKind.wrap_i64]
  omega
set_option maxRecDepth 20000 in
set_option maxHeartbeats 400000 in
theorem implPut5 (pt : Int) (h0 : Pl.isPt pt = true) (v : Value) (p : List UInt8) (B : Nat) (W w : World) (hown : Own B v p w) (hlen : p.length ≤ 900000) (hB : B ≤ W.heap.size) (hb : Below B W w) :
    Calls Tryz.prog 158 #[.agg #[], v, .int .i64 pt] w fun e w' => ∃ v', e = .returned v' ∧ Own B v' (p ++ Pl.form 5 pt) w' ∧ Below B W w' := by
  have hpt := h0
  simp only [Pl.isPt, Bool.and_eq_true, decide_eq_true_eq, Bool.not_eq_true', Bool.and_eq_false_iff, decide_eq_false_iff_not] at h0
  have hsz := hb.size
  unfold Pl.form
  rw [if_neg (by rw [hpt]; simp), if_neg (by decide), if_neg (by decide), if_neg (by decide), if_neg (by decide)]
  by_cases h : pt < 65536
  · rw [if_pos h]
    go_enter Tryz.func158, Tryz.ntmps158
    go_wp2_with fail
    refine (implPair pt (by omega) h v p B W _ (hown.alloc _) (by omega) hB (hb.alloc (by omega) _)).mono ?_
    rintro e w2 ⟨v2, rfl, ho2, hb2⟩
    go_wp2
    go_ret
    exact ⟨_, rfl, ho2, hb2⟩
  · rw [if_neg h]
    have hbit := and1023 (pt - 65536)
    go_enter Tryz.func158, Tryz.ntmps158
    go_wp2_with fail
    refine (implPair (55296 + (pt - 65536) / 1024) (by omega) (by omega) v p B W _ (hown.alloc _) (by omega) hB (hb.alloc (by omega) _)).mono ?_
    rintro e w2 ⟨v2, rfl, ho2, hb2⟩
    go_wp2_with fail
    refine (implPair (56320 + (pt - 65536) % 1024) (by omega) (by omega) v2 _ B W _ ho2 (by simp; omega) hB hb2).mono ?_
    rintro e w3 ⟨v3, rfl, ho3, hb3⟩
    go_wp2
    go_ret
    exact ⟨_, rfl, by simpa using ho3, hb3⟩
set_option maxRecDepth 20000 in
set_option maxHeartbeats 1000000 in
theorem implPut3 (pt : Int) (h0 : 0 ≤ pt) (h1 : pt ≤ 1114111) (v : Value) (p : List UInt8) (m1 m2 : Nat) (W w : World) (hown : Own W.heap.size v p w) (hlen : p.length ≤ 1000000) (hb : Below W.heap.size W w) (hN : Nine w m1 m2) :
    Calls Tryz.prog 152 #[.agg #[.map (some m1), .map (some m2)], v, .int .i64 pt] w fun e w' => ∃ v', e = .returned v' ∧ Own W.heap.size v' (p ++ (match Pl.unNine pt with | some b => [Pl.by8 b] | none => if 255 < pt then [] else if (Pl.nineOf pt).isSome then [] else [Pl.by8 pt])) w' ∧ Below W.heap.size W w' := by
  obtain ⟨i0, hi, hy0, hy1, hy2⟩ := info_parts Tryz.info5
  have hsz := hb.size
  obtain ⟨hm1, D, hm2, hD⟩ := hN.alloc (.cells #[.map (some m1), .map (some m2)] 72)
  have hownA := hown.alloc (.cells #[.map (some m1), .map (some m2)] 72)
  have hbA := hb.alloc (by omega) (.cells #[.map (some m1), .map (some m2)] 72)
  have hwf : (Lit.int .i64 pt).wf = true := WalkArith.wf_i64 (by omega)
  have hh := hD.has pt
  cases hu : Pl.unNine pt with
  | some b =>
    have hbb : 0 ≤ b ∧ b < 256 := by
      have := Pl.un_nine hu
      unfold Pl.nineOf at this
      repeat' split at this
      all_goals first | (cases this; done) | omega
    have he := hD.elem pt b (.lit (.int .u8 0)) hu
    rw [hu] at hh
    simp only [Option.isSome_some] at hh
    go_enter Tryz.func152, Tryz.ntmps152
    go_wp2_with (first
      | (at_lookup; refine wpList_lookup_own_ok_int _ rfl _ _ 70 rfl 2 5 .u8 law64 Tryz.underlying70 Tryz.underlying5 (zero8 _) m2 8 D rfl hm2 _ _ rfl (keyOf_int_mk Tryz.underlying2 hwf) ?_; intro c hat hwc; have hcb : c = b := by (rw [he] at hat; cases hat; rfl))
      | (at_builtin; go_must (refine wp_app' (W := W) rfl _ _ 22 rfl i0 Tryz.underlying22 hi hy0 hy1 hy2 W.heap.size v p rfl hownA _ [Pl.by8 b] (by simp [byteCells, Pl.by8_val b (by omega) (by omega)]) 1 1 _ rfl rfl (by simp) (by simp; omega) (Nat.le_refl _) hbA ?_; intro v1 w1 hown1 hb1))
      | go_in)
    go_ret
    exact ⟨_, rfl, hown1, hb1⟩
  | none =>
    rw [hu] at hh
    simp only [Option.isSome_none] at hh
    dsimp only
    by_cases h2 : 255 < pt
    · rw [if_pos h2, List.append_nil]
      go_enter Tryz.func152, Tryz.ntmps152
      go_wp2_with (first
        | (at_lookup; refine wpList_lookup_own_ok_int _ rfl _ _ 70 rfl 2 5 .u8 law64 Tryz.underlying70 Tryz.underlying5 (zero8 _) m2 8 D rfl hm2 _ _ rfl (keyOf_int_mk Tryz.underlying2 hwf) ?_; intro c hat hwc)
        | go_in)
      go_ret
      exact ⟨_, rfl, hownA, hbA⟩
    · rw [if_neg h2]
      have hwf8 : (Lit.int .u8 pt).wf = true := WalkArith.wf_u8 (by omega)
      have hk := Pl.nineD_has pt
      cases hn : (Pl.nineOf pt).isSome
      · rw [hn] at hk
        rw [if_neg (by simp)]
        go_enter Tryz.func152, Tryz.ntmps152
        go_wp2_with (first
          | (at_lookup; refine wpList_lookup_own_ok_int _ rfl _ _ 70 rfl 2 5 .u8 law64 Tryz.underlying70 Tryz.underlying5 (zero8 _) m2 8 D rfl hm2 _ _ rfl (keyOf_int_mk Tryz.underlying2 hwf) ?_; intro c hat hwc)
          | (at_lookup; refine wpList_lookup_own_ok_int _ rfl _ _ 69 rfl 5 2 .i64 law8 Tryz.underlying69 Tryz.underlying2 (zero64 _) m1 8 Pl.nineD rfl hm1 _ _ rfl (keyOf_int_mk Tryz.underlying5 hwf8) ?_; intro c2 hat2 hwc2)
          | (at_builtin; go_must (refine wp_app' (W := W) rfl _ _ 22 rfl i0 Tryz.underlying22 hi hy0 hy1 hy2 W.heap.size v p rfl hownA _ [Pl.by8 pt] (by simp [byteCells, Pl.by8_val pt (by omega) (by omega)]) 1 1 _ rfl rfl (by simp) (by simp; omega) (Nat.le_refl _) hbA ?_; intro v1 w1 hown1 hb1))
          | go_in)
        go_ret
        exact ⟨_, rfl, hown1, hb1⟩
      · rw [hn] at hk
        rw [if_pos rfl, List.append_nil]
        go_enter Tryz.func152, Tryz.ntmps152
        go_wp2_with (first
          | (at_lookup; refine wpList_lookup_own_ok_int _ rfl _ _ 70 rfl 2 5 .u8 law64 Tryz.underlying70 Tryz.underlying5 (zero8 _) m2 8 D rfl hm2 _ _ rfl (keyOf_int_mk Tryz.underlying2 hwf) ?_; intro c hat hwc)
          | (at_lookup; refine wpList_lookup_own_ok_int _ rfl _ _ 69 rfl 5 2 .i64 law8 Tryz.underlying69 Tryz.underlying2 (zero64 _) m1 8 Pl.nineD rfl hm1 _ _ rfl (keyOf_int_mk Tryz.underlying5 hwf8) ?_; intro c2 hat2 hwc2)
          | go_in)
        go_ret
        exact ⟨_, rfl, hownA, hbA⟩
end Go.Proofs.YtbppdfjigcelkaaGreatDoor
namespace Go.Proofs.YtbppdfjigcelkaaGreatDoor
open Go.RowKit Go.Lib Go.Maps
/-- A set, as an interface value in the world W: it puts points behind bytes. -/
structure Putter (set : Int) (T : TypeId) (rv : Value) (f : FuncId) (O : Value → List UInt8 → World → Prop) (W : World) : Prop where
  meth : ∀ w, (method 295 T rv "loop.example/g00013/impl.put").run Tryz.prog w = .ok (f, rv) w
  enters : ∀ (args : Array Value) (w : World), (callFunc f args).run Tryz.prog w = .ok (.enter f args) w
  start : ∀ w, O (.slice none 0 0) [] w
  shape : ∀ v p w, O v p w → ∃ o cap, v = .slice o p.length cap
  put : ∀ pt v p w, Pl.isPt pt = true → O v p w → p.length ≤ 500000 → Below W.heap.size W w → Calls Tryz.prog f #[rv, v, .int .i64 pt] w fun e w' => ∃ v', e = .returned v' ∧ O v' (p ++ Pl.form set pt) w' ∧ Below W.heap.size W w'
  back : ∀ v p w, O v p w → (convert 22 9 v).run Tryz.prog w = .ok (.string ⟨p.toArray⟩) w
set_option maxRecDepth 20000 in
/-- Encode's way out. -/
theorem retV (w wr : World) (tmps : Array Value) (cs : Array Value) (hp : tmps.getD 4 undef = .pointer (some ⟨w.heap.size, 0, none⟩)) {old : Array Value} (hres : wr.heap[w.heap.size]? = some (.cells old 27 (0, 0))) (hb : Below w.heap.size w wr) (h2 : cs.size = 2 := by rfl) :
    bodyPost Tryz.prog Tryz.f6 (fun e w' => e = .returned (.agg cs) ∧ Below w.heap.size w w') Exit.ret { tmps := tmps, defers := [] } (wr.setRow w.heap.size cs) := by
  refine bodyPost_ret (v := .agg cs) (results_cell_row Tryz.results6 _ _ w.heap.size 27 _ (0, 0) _ hp (setRow_heap _ _ _ _ _ _ hres) Tryz.underlying27 rfl ?_) rfl ⟨rfl, hb.grown (grown_setRow _ _ _) hb.size (fun j hj => by cases hj; exact Nat.le_refl _)⟩
  rw [h2]
  kernel_rfl
set_option maxRecDepth 20000 in
set_option maxHeartbeats 1000000 in
theorem implEnc (set : Int) (o : Option Addr) (ps : List Int) (cap : Nat) (w : World) (hF : PtsAt w.heap.size w o ps) (hlen : ps.length ≤ 100000)
    (hch : ∀ w, Calls Tryz.prog 21 #[.int .i64 set] w fun e W => ∃ T rv f O, e = .returned (.iface T rv) ∧ Below w.heap.size w W ∧ Putter set T rv f O W) :
    Calls Tryz.prog 6 #[.int .i64 set, .slice o ps.length cap] w fun e w' => e = .returned (encV (Pl.enc (Pl.form set) [] ps)) ∧ Below w.heap.size w w' := by
  have HF : Hid (PtsAt w.heap.size w o ps) := hF
  clear hF
  go_enter Tryz.func6, Tryz.ntmps6
  go_wp2_with fail
  refine (hch _).mono ?_
  rintro e W ⟨T, rv, f, O, rfl, hbW, hP⟩
  have HP : Hid (Putter set T rv f O W) := hP
  have hm := hP.meth
  have hE := hP.enters
  clear hP hch
  have hres0 : W.heap[w.heap.size]? = some (.cells #[.bool false, .string ⟨#[]⟩] 27 (0, 0)) := (hbW.block _ (by simp)).trans (heap_alloc_at _ _)
  have hbel0 : Below w.heap.size w W := ((Below.refl _ _).alloc (Nat.le_refl _) _).trans (hbW.mono (by simp))
  have hsz0 : w.heap.size + 1 ≤ W.heap.size := by have := hbW.size; simpa using this
  have HW : Hid (PtsAt W.heap.size W o ps) := show _ from (HF.out.below hbel0).mono hbel0.size
  clear hbW HF
  go_wp2
  go_loopw [6, 22] (fun v i wr => ∃ (k : Nat) (p : List UInt8), k ≤ ps.length ∧ i = .int .i64 k ∧ p.length ≤ 4 * k ∧ Hid (Pl.enc (Pl.form set) p (ps.drop k) = Pl.enc (Pl.form set) [] ps) ∧ O v p wr ∧ Below W.heap.size W wr) (fun _ i _ => ps.length - (Lib.intOf i).toNat)
  case atStart => exact ⟨0, [], Nat.zero_le _, rfl, by simp, rfl, HP.out.start _, Below.refl _ _⟩
  case round =>
    obtain ⟨k, p, hk, rfl, hpl, hp, hown, hb⟩ := hrel
    have hres := (hb.block w.heap.size (by omega)).trans hres0
    have hbw := hbel0.trans (hb.mono hbel0.size)
    by_cases hlt : k < ps.length
    · obtain ⟨a, rfl, ha, hc0⟩ := (HW.out.below hb) k hlt
      have Hbad : Hid (Pl.form set ps[k] = [] → Pl.enc (Pl.form set) [] ps = none) := show _ → _ from fun h => Pl.enc_bad hlt h hp.out
      have Hstep : Hid (Pl.form set ps[k] ≠ [] → Pl.enc (Pl.form set) (p ++ Pl.form set ps[k]) (ps.drop (k + 1)) = Pl.enc (Pl.form set) [] ps) := show _ → _ from fun h => Pl.enc_step hlt h hp.out
      have Hfl := Pl.form_len set ps[k]
      clear hp
      generalize ps[k] = pt at hc0 Hbad Hstep Hfl
      cases hpt : Pl.isPt pt
      · have hE : Hid (Pl.enc (Pl.form set) [] ps = none) := Hbad.out (by unfold Pl.form; rw [if_pos hpt])
        have hisp := implPoint pt wr
        rw [hpt] at hisp
        clear Hbad Hstep hpt
        go_wp2_with fail
        refine hisp.mono ?_
        rintro e w3 ⟨rfl, rfl⟩
        go_wp2_with (first | (refine wpL_store_row rfl 27 _ _ rfl w.heap.size #[.bool false, .string ⟨#[]⟩] rfl rfl 27 _ hres (by kernel_rfl) rfl (by simp [Value.oneCell']) ?_) | go_in)
        rw [hE.out]
        exact retV _ _ _ _ rfl hres hbw
      · have hisp := implPoint pt wr
        rw [hpt] at hisp
        have hput := HP.out.put pt _ p wr hpt hown (by omega) hb
        go_wp2_with fail
        refine hisp.mono ?_
        rintro e w3 ⟨rfl, rfl⟩
        obtain ⟨og, cp, rfl⟩ := HP.out.shape _ _ _ hown
        go_wp2_with fail
        refine hput.mono ?_
        rintro e w4 ⟨v4, rfl, hown4, hb4⟩
        clear hput
        have hres4 := (hb4.block w.heap.size (by omega)).trans hres0
        have hbw4 := hbel0.trans (hb4.mono hbel0.size)
        obtain ⟨o4, cp4, rfl⟩ := HP.out.shape _ _ _ hown4
        by_cases hnil : Pl.form set pt = []
        · have hE : Hid (Pl.enc (Pl.form set) [] ps = none) := Hbad.out hnil
          rw [hnil, List.append_nil]
          clear Hbad Hstep
          go_wp2_with (first | (refine wpL_store_row rfl 27 _ _ rfl w.heap.size #[.bool false, .string ⟨#[]⟩] rfl rfl 27 _ hres4 (by kernel_rfl) rfl (by simp [Value.oneCell']) ?_) | go_in)
          rw [hE.out]
          exact retV _ _ _ _ rfl hres4 hbw4
        · have hE : Hid (Pl.enc (Pl.form set) (p ++ Pl.form set pt) (ps.drop (k + 1)) = Pl.enc (Pl.form set) [] ps) := Hstep.out hnil
          have hl1 : 0 < (Pl.form set pt).length := List.length_pos_iff.2 hnil
          obtain ⟨L, hL⟩ : ∃ L, L = (p ++ Pl.form set pt).length := ⟨_, rfl⟩
          have hLl : p.length < L ∧ L ≤ p.length + 4 := by rw [hL, List.length_append]; omega
          have hLd : ((L : Int) == (p.length : Int)) = false := by simp; omega
          have Hown4 : Hid (O (.slice o4 L cp4) (p ++ Pl.form set pt) w4) := show _ from by rw [hL]; exact hown4
          have HL : Hid (L = (p ++ Pl.form set pt).length) := hL
          rw [← hL]
          clear hown4 hL hown Hbad Hstep hnil
          go_wp2
          go_roundw
          case rel => exact ⟨k + 1, _, by omega, by go_num, by rw [← HL.out]; omega, hE, Hown4.out, hb4⟩
          case measure => simp [Lib.intOf]; omega
    · have hpn : Hid (Pl.enc (Pl.form set) [] ps = some p) := show _ = _ from Pl.enc_done (by omega) hp.out
      clear hp
      have hbk := HP.out.back _ _ _ hown
      go_wp2_with (first | (refine wpL_store_row rfl 27 _ _ rfl w.heap.size #[.bool true, .string ⟨p.toArray⟩] rfl rfl 27 _ hres (by kernel_rfl) rfl (by simp [Value.oneCell']) ?_) | go_in)
      rw [hpn.out]
      exact retV _ _ _ _ rfl hres hbw
set_option maxRecDepth 20000 in
theorem Own.flat {B : Nat} {v : Value} {p : List UInt8} {w : World} (h : Own B v p w) : ∃ o cap, v = .slice o p.length cap := by
  rcases h.form with ⟨rfl, rfl⟩ | ⟨g, cap, rfl⟩
  · exact ⟨none, 0, rfl⟩
  · exact ⟨_, cap, rfl⟩
set_option maxRecDepth 20000 in
theorem OwF.flat {B : Nat} {v : Value} {p : List UInt8} {w : World} (h : OwF B v p w) : ∃ o cap, v = .slice o p.length cap := by
  rcases h.2 with ⟨rfl, h0⟩ | ⟨g, cap, cur, fz, rfl, -⟩
  · exact ⟨none, 0, by rw [h0]⟩
  · exact ⟨_, cap, rfl⟩
set_option maxRecDepth 20000 in
theorem OwF.back {P : Program} {B : Nat} {v : Value} {p : List UInt8} {w : World} (h : OwF B v p w) (src dst : TypeId) (hs : P.underlying src = some (.slice 5)) (he : P.underlying 5 = some (.int .u8)) (hd : P.underlying dst = some .string) :
    (convert src dst v).run P w = .ok (.string ⟨p.toArray⟩) w := by
  rcases h.2 with ⟨rfl, h0⟩ | ⟨g, cap, cur, fz, rfl, -⟩
  · obtain rfl := List.length_eq_zero_iff.1 h0
    have := run_convert_bytes_string (P := P) w src dst 5 none 0 0 hs he hd
    rw [this]; rfl
  · refine run_convert_bytes_back w src dst 5 ⟨g, 0, none⟩ cap p hs he hd (fun j hj => ?_)
    exact World.ownsRowF.cells h (g := g) rfl j (.int .u8 (p[j].toNat : Int)) (by simp [byteCells, hj])
set_option maxRecDepth 20000 in
theorem putter12 (set top : Int) (hs : set = 1 ∧ top = 127 ∨ set = 2 ∧ top = 255) (W : World) : Putter set 68 (.agg #[.int .i64 top]) 150 (Own W.heap.size) W where
  meth := fun _ => by kernel_rfl
  enters := enters_of Tryz.func150 (by kernel_rfl) rfl
  start := Own.nil _
  shape := fun _ _ _ h => h.flat
  put := fun pt v p w hpt hown hl hb => by
    have hr := isPt_range hpt
    refine (implPutB top pt hr.1 (by omega) (by omega) v p _ W w hown (by omega) (Nat.le_refl _) hb).mono ?_
    rintro e w' ⟨v', rfl, h1, h2⟩
    refine ⟨v', rfl, ?_, h2⟩
    have : Pl.form set pt = if pt ≤ top then [Pl.by8 pt] else [] := by
      unfold Pl.form
      rw [if_neg (by rw [hpt]; simp)]
      rcases hs with ⟨rfl, rfl⟩ | ⟨rfl, rfl⟩
      · rw [if_pos rfl]
        by_cases h : pt < 128
        · rw [if_pos h, if_pos (by omega)]
        · rw [if_neg h, if_neg (by omega)]
      · rw [if_neg (by decide), if_pos rfl]
        by_cases h : pt < 256
        · rw [if_pos h, if_pos (by omega)]
        · rw [if_neg h, if_neg (by omega)]
    rw [this]
    exact h1
  back := fun _ _ _ h => h.back 22 9 Tryz.underlying22 Tryz.underlying5 Tryz.underlying9
set_option maxRecDepth 20000 in
theorem putter3 (m1 m2 : Nat) (W : World) (hN : Nine W m1 m2) : Putter 3 72 (.agg #[.map (some m1), .map (some m2)]) 152 (Own W.heap.size) W where
  meth := fun _ => by kernel_rfl
  enters := enters_of Tryz.func152 (by kernel_rfl) rfl
  start := Own.nil _
  shape := fun _ _ _ h => h.flat
  put := fun pt v p w hpt hown hl hb => by
    have hr := isPt_range hpt
    refine (implPut3 pt hr.1 hr.2 v p m1 m2 W w hown (by omega) hb (hN.below hb)).mono ?_
    rintro e w' ⟨v', rfl, h1, h2⟩
    refine ⟨v', rfl, ?_, h2⟩
    unfold Pl.form
    rw [if_neg (by rw [hpt]; simp), if_neg (by decide), if_neg (by decide), if_pos rfl]
    exact h1
  back := fun _ _ _ h => h.back 22 9 Tryz.underlying22 Tryz.underlying5 Tryz.underlying9
set_option maxRecDepth 20000 in
theorem putter4 (W : World) : Putter 4 75 (.agg #[]) 154 (OwF W.heap.size) W where
  meth := fun _ => by kernel_rfl
  enters := enters_of Tryz.func154 (by kernel_rfl) rfl
  start := fun w => World.ownsRowF_nil w _ _ _
  shape := fun _ _ _ h => h.flat
  put := fun pt v p w hpt hown hl hb => implPut4 pt hpt v p _ W w hown (by omega) (Nat.le_refl _) hb
  back := fun _ _ _ h => h.back 22 9 Tryz.underlying22 Tryz.underlying5 Tryz.underlying9
set_option maxRecDepth 20000 in
theorem putter5 (W : World) : Putter 5 76 (.agg #[]) 158 (Own W.heap.size) W where
  meth := fun _ => by kernel_rfl
  enters := enters_of Tryz.func158 (by kernel_rfl) rfl
  start := Own.nil _
  shape := fun _ _ _ h => h.flat
  put := fun pt v p w hpt hown hl hb => implPut5 pt hpt v p _ W w hown (by omega) (Nat.le_refl _) hb
  back := fun _ _ _ h => h.back 22 9 Tryz.underlying22 Tryz.underlying5 Tryz.underlying9
/-- What both sides answer to a set and points. -/
def encA (set : Int) (ps : List Int) : Option (List UInt8) := if set < 1 ∨ 5 < set ∨ 100000 < ps.length then none else Pl.enc (Pl.form set) [] ps
set_option maxRecDepth 20000 in
set_option maxHeartbeats 1000000 in
theorem implEncode (set : Int) (o : Option Addr) (ps : List Int) (cap : Nat) (w : World) (hF : PtsAt w.heap.size w o ps) (hlen : ps.length ≤ 1048576) :
    Calls Tryz.prog 6 #[.int .i64 set, .slice o ps.length cap] w fun e w' => e = .returned (encV (encA set ps)) ∧ Below w.heap.size w w' := by
  unfold encA
  by_cases h : set < 1 ∨ 5 < set
  · rw [if_pos (by omega)]
    have hres0 : (w.alloc (.cells #[.bool false, .string ⟨#[]⟩] 27)).heap[w.heap.size]? = some (.cells #[.bool false, .string ⟨#[]⟩] 27 (0, 0)) := heap_alloc_at _ _
    clear hF
    go_enter Tryz.func6, Tryz.ntmps6
    go_wp2_with fail
    refine (implChars0 set _ h).mono ?_
    rintro e w2 ⟨rfl, rfl⟩
    go_wp2_with (first | (refine wpL_store_row rfl 27 _ _ rfl w.heap.size #[.bool false, .string ⟨#[]⟩] rfl rfl 27 _ hres0 (by kernel_rfl) rfl (by simp [Value.oneCell']) ?_) | go_in)
    exact retV _ _ _ _ rfl hres0 ((Below.refl _ _).alloc (Nat.le_refl _) _)
  · have hch : ∀ w, Calls Tryz.prog 21 #[.int .i64 set] w fun e W => ∃ T rv f O, e = .returned (.iface T rv) ∧ Below w.heap.size w W ∧ Putter set T rv f O W := by
      intro w
      have hset : set = 1 ∨ set = 2 ∨ set = 3 ∨ set = 4 ∨ set = 5 := by omega
      rcases hset with rfl | rfl | rfl | rfl | rfl
      · refine (implChars1 w).mono ?_
        rintro e W ⟨rfl, rfl⟩
        exact ⟨_, _, _, _, rfl, Below.refl _ _, putter12 1 127 (.inl ⟨rfl, rfl⟩) _⟩
      · refine (implChars2 w).mono ?_
        rintro e W ⟨rfl, rfl⟩
        exact ⟨_, _, _, _, rfl, Below.refl _ _, putter12 2 255 (.inr ⟨rfl, rfl⟩) _⟩
      · refine (implChars3 w).mono ?_
        rintro e W ⟨m1, m2, rfl, hN, -, -, hb⟩
        exact ⟨_, _, _, _, rfl, hb, putter3 m1 m2 W hN⟩
      · refine (implChars4 w).mono ?_
        rintro e W ⟨rfl, rfl⟩
        exact ⟨_, _, _, _, rfl, Below.refl _ _, putter4 _⟩
      · refine (implChars5 w).mono ?_
        rintro e W ⟨rfl, rfl⟩
        exact ⟨_, _, _, _, rfl, Below.refl _ _, putter5 _⟩
    by_cases hl : 100000 < ps.length
    · rw [if_pos (by omega)]
      clear hF
      go_enter Tryz.func6, Tryz.ntmps6
      go_wp2_with fail
      refine (hch _).mono ?_
      rintro e W ⟨T, rv, f, O, rfl, hbW, hP⟩
      have hres0 : W.heap[w.heap.size]? = some (.cells #[.bool false, .string ⟨#[]⟩] 27 (0, 0)) := (hbW.block _ (by simp)).trans (heap_alloc_at _ _)
      have hbel0 : Below w.heap.size w W := ((Below.refl _ _).alloc (Nat.le_refl _) _).trans (hbW.mono (by simp))
      go_wp2_with (first | (refine wpL_store_row rfl 27 _ _ rfl w.heap.size #[.bool false, .string ⟨#[]⟩] rfl rfl 27 _ hres0 (by kernel_rfl) rfl (by simp [Value.oneCell']) ?_) | go_in)
      exact retV _ _ _ _ rfl hres0 hbel0
    · rw [if_neg (by omega)]
      exact implEnc set o ps cap w hF (by omega) hch
end Go.Proofs.YtbppdfjigcelkaaGreatDoor
