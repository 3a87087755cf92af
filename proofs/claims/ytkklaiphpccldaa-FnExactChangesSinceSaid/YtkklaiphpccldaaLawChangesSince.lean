/- The law on ChangesSince. (By tools/gen/changeslaw.py.) -/
import Derived.Test.YtkklaiphpccldaaImplChanges
import Derived.Test.YtkklaiphpccldaaChangeLaw
import Derived.Test.YtkklaiphpccldaaWeakMailbox
namespace Go.Proofs.Ytkklaiphpccldaa
open Go.RowKit Go.Lib Go.Maps
theorem OwnN.stay {B : Nat} {v : Value} {P : List Int} {w w' : World} (h : OwnN B v P w) (hk : ∀ k, v.ownBlock = some k → w'.heap[k]? = w.heap[k]?) : OwnN B v P w' := by
  refine ⟨h.1, ?_⟩
  rcases h.2 with hn | ⟨g, cap, cur, rfl, hb, hgg, rest⟩
  · exact .inl hn
  · exact .inr ⟨g, cap, cur, rfl, hb, (hk g rfl).trans hgg, rest⟩
theorem TwoN.stay {B : Nat} {v1 v2 : Value} {C D : List Int} {w w' : World} (h : TwoN B w v1 v2 C D) (hk : ∀ k, B ≤ k → k < w.heap.size → w'.heap[k]? = w.heap[k]?) : TwoN B w' v1 v2 C D :=
  ⟨h.own1.stay fun k e => hk k (World.ownsRow.lt h.own1 k e).1 (World.ownsRow.lt h.own1 k e).2, h.own2.stay fun k e => hk k (World.ownsRow.lt h.own2 k e).1 (World.ownsRow.lt h.own2 k e).2, h.apart⟩
theorem TwoN.lists {B : Nat} {o1 o2 : Option Addr} {k1 k2 : Nat} {C D : List Int} {w : World} (h : TwoN B w (.slice o1 C.length k1) (.slice o2 D.length k2) C D) : InL 0 w.heap.size w o1 C ∧ InL 0 w.heap.size w o2 D :=
  ⟨h.own1.inL.mono (Nat.zero_le _) (Nat.le_refl _), h.own2.inL.mono (Nat.zero_le _) (Nat.le_refl _)⟩
theorem InL.keepW {lo hi : Nat} {w w' : World} {o : Option Addr} {F : List Int} (h : InL lo hi w o F) (hb : Below hi w w') (hs : hi ≤ w'.heap.size) : InL lo w'.heap.size w' o F := (h.below hb (Nat.le_refl _)).mono (Nat.le_refl _) hs
theorem mb_cells {w : World} {g t : Nat} {z : Nat × Nat} {u0 u1 u2 u3 u4 u5 : Value} (h : w.heap[g]? = some (.cells #[u0, u1, u2, u3, u4, u5] t z)) : w.cell? ⟨g, 0, none⟩ = some u0 ∧ w.cell? ⟨g, 1, none⟩ = some u1 ∧ w.cell? ⟨g, 2, none⟩ = some u2 ∧ w.cell? ⟨g, 3, none⟩ = some u3 ∧ w.cell? ⟨g, 4, none⟩ = some u4 ∧ w.cell? ⟨g, 5, none⟩ = some u5 := by
  refine ⟨?_, ?_, ?_, ?_, ?_, ?_⟩ <;> simp [World.cell?, h]
theorem changed_le (b : GMailbox) (mo : Int) (h : b.mails.length ≤ 1048576) : (St.changed b mo).length ≤ 1048576 := by
  unfold St.changed St.chM
  split
  · rw [List.length_map]
    exact Nat.le_trans (List.length_filter_le _ _) h
  · simp
theorem gone_le (b : GMailbox) (mo : Int) (h : b.gones.length ≤ 1048576) : (St.goneL b mo).length ≤ 1048576 := by
  unfold St.goneL St.chG
  split
  · rw [List.length_map]
    exact Nat.le_trans (List.length_filter_le _ _) h
  · simp
theorem held1 {B : Nat} {o1 o2 : Option Addr} {k1 k2 c d : Nat} {w : World} (h : TwoN B w (.slice o1 c k1) (.slice o2 d k2) (numsFrom 1 c) (numsFrom (1 + c) d)) : InL 0 w.heap.size w o1 (numsFrom 1 c) :=
  (OwnN.inL (cap := k1) (by rw [nums_len]; exact h.own1)).mono (Nat.zero_le _) (Nat.le_refl _)
theorem held2 {B : Nat} {o1 o2 : Option Addr} {k1 k2 c d : Nat} {w : World} (h : TwoN B w (.slice o1 c k1) (.slice o2 d k2) (numsFrom 1 c) (numsFrom (1 + c) d)) : InL 0 w.heap.size w o2 (numsFrom (1 + c) d) :=
  (OwnN.inL (cap := k2) (by rw [nums_len]; exact h.own2)).mono (Nat.zero_le _) (Nat.le_refl _)
set_option maxHeartbeats 8000000 in
set_option maxRecDepth 20000 in
theorem walkChangesSince (n : GMailbox) (v4 : Value) (v5 : Value) (x1 : Int) (w : World) (hI : GMailboxIn 0 w.heap.size w n v4 v5) (hf : n.fits maxLen) :
    Calls Try.prog 3 #[GMailboxV n v4 v5, .int .i64 x1] w fun e w' => e = .returned (.bool true) ∧ Below w.heap.size w w' := by
  obtain ⟨⟨a4, c4, rfl, i4⟩, ⟨a5, c5, rfl, i5⟩⟩ := hI
  have HI : Hid (GMailboxIn 0 w.heap.size w n (.slice a4 n.mails.length c4) (.slice a5 n.gones.length c5)) := ⟨⟨_, _, rfl, i4⟩, ⟨_, _, rfl, i5⟩⟩
  clear i4 i5
  obtain ⟨W, hW⟩ : ∃ W, W = w.alloc (.cells #[.string n.name, .int .i64 n.validity, .int .i64 n.nextUid, .int .i64 n.topMod, .slice a4 n.mails.length c4, .slice a5 n.gones.length c5] 25) := ⟨_, rfl⟩
  have hbA : Below w.heap.size w W := by rw [hW]; exact (Below.refl _ _).alloc (Nat.le_refl _) _
  have hWs : W.heap.size = w.heap.size + 1 := by rw [hW]; simp
  have RA : W.heap[w.heap.size]? = some (.cells #[.string n.name, .int .i64 n.validity, .int .i64 n.nextUid, .int .i64 n.topMod, .slice a4 n.mails.length c4, .slice a5 n.gones.length c5] 25 (0, 0)) := by rw [hW]; exact heap_alloc_at _ _
  replace HI := mkHid ((HI.out.same (Same.of_below hbA (Nat.le_refl _))).mono (Nat.le_refl _) hbA.size)
  have hS := mkHid (lawSzMailbox n (.slice a4 n.mails.length c4) (.slice a5 n.gones.length c5) 1048576 0 W HI.out hf (Nat.le_refl _))
  replace hW := mkHid hW
  have HbA := mkHid hbA
  replace RA := mkHid RA
  clear hf hbA
  unfold GMailboxV at hS ⊢
  go_enter Try.func3, Try.ntmps3
  go_wp2_with fail
  rw [← hW.out]
  refine hS.out.mono ?_
  rintro e w1 ⟨r, rfl, hr, hb1⟩
  have B1 := mkHid hb1
  have R1 := mkHid ((hb1.block w.heap.size (by omega)).trans RA.out)
  clear hS hb1 hW
  rcases hr.out with rfl | ⟨m, rfl, _hm, hf⟩
  · clear hr
    go_wp2
    go_ret
    exact ⟨rfl, HbA.out.trans (B1.out.mono (by omega))⟩
  clear hr
  have hCl := changed_le n x1 hf.2.1
  have hDl := gone_le n x1 hf.2.2.2.1
  replace hf := mkHid hf
  have cSp : Hid (∀ (v4 v5 : Value) (lo : Nat) (w : World), GMailboxIn lo w.heap.size w n v4 v5 → Calls Try.prog 5 #[GMailboxV n v4 v5, .int .i64 x1] w fun e w' => ∃ y1 y2 : Value, e = .returned (.agg #[y1, y2]) ∧ Hid (TwoN w.heap.size w' y1 y2 (St.changed n x1) (St.goneL n x1)) ∧ Below w.heap.size w w') := fun v4 v5 lo w h => specChanges n v4 v5 x1 lo w h hf.out
  have cIm : Hid (∀ (v4 v5 : Value) (lo : Nat) (w : World), GMailboxIn lo w.heap.size w n v4 v5 → Calls Try.prog 7 #[GMailboxV n v4 v5, .int .i64 x1] w fun e w' => ∃ y1 y2 : Value, e = .returned (.agg #[y1, y2]) ∧ Hid (TwoN w.heap.size w' y1 y2 (St.changed n x1) (St.goneL n x1)) ∧ Below w.heap.size w w') := fun v4 v5 lo w h => implChanges n v4 v5 x1 lo w h hf.out
  generalize St.changed n x1 = C at *
  generalize St.goneL n x1 = D at *
  unfold GMailboxV at cSp cIm
  have cT := mkHid (lawToMailbox n (.slice a4 n.mails.length c4) (.slice a5 n.gones.length c5) 0 w1 ((HI.out.same (Same.of_below B1.out (Nat.le_refl _))).mono (Nat.le_refl _) B1.out.size) hf.out)
  unfold GMailboxV at cT
  go_wp2_with (first | (refine wpL_load_row rfl 25 _ rfl w.heap.size _ 25 (0, 0) _ rfl R1.out Try.underlying25 rfl (by kernel_rfl) ?_) | (go_at_call 6; fail))
  refine cT.out.mono ?_
  rintro e w2 ⟨y4, y5, rfl, n2, hb2⟩
  have n2o := n2.out
  obtain ⟨⟨d4, e4, rfl, -⟩, ⟨d5, e5, rfl, -⟩⟩ := n2o
  have B2 := mkHid (B1.out.trans (hb2.mono B1.out.size))
  clear cT hb2
  have cS := mkHid (cSp.out _ _ _ w2 n2.out)
  go_wp2_with fail
  refine cS.out.mono ?_
  rintro e w3 ⟨y1, y2, rfl, hT, hb3⟩
  obtain ⟨p1, l1, rfl⟩ := hT.out.own1.shape
  obtain ⟨p2, l2, rfl⟩ := hT.out.own2.shape
  obtain ⟨W3, hW3⟩ : ∃ W3, W3 = w3.alloc (.cells #[.slice p1 C.length l1, .slice p2 D.length l2] 29) := ⟨_, rfl⟩
  have bW3 : Below w3.heap.size w3 W3 := by rw [hW3]; exact (Below.refl _ _).alloc (Nat.le_refl _) _
  have s3 : W3.heap.size = w3.heap.size + 1 := by rw [hW3]; simp
  have Z0 : Hid (W3.heap[w3.heap.size]? = some (.cells #[.slice p1 C.length l1, .slice p2 D.length l2] 29 (0, 0))) := by rw [hW3]; exact heap_alloc_at _ _
  have B3 := mkHid ((B2.out.trans (hb3.mono B2.out.size)).trans (bW3.mono (Nat.le_trans B2.out.size hb3.size)))
  have R3 := mkHid ((B3.out.block w.heap.size (by omega)).trans RA.out)
  have I1 : Hid (InL 0 W3.heap.size W3 p1 C) := hT.out.lists.1.keepW bW3 bW3.size
  have I2 : Hid (InL 0 W3.heap.size W3 p2 D) := hT.out.lists.2.keepW bW3 bW3.size
  have HW3 := mkHid hW3
  clear cS cSp n2 hT hb3 bW3 hW3 B1 B2 R1
  have cT := mkHid (lawToXMailbox n (.slice a4 n.mails.length c4) (.slice a5 n.gones.length c5) 0 W3 ((HI.out.same (Same.of_below B3.out (Nat.le_refl _))).mono (Nat.le_refl _) B3.out.size) hf.out)
  unfold GMailboxV at cT
  go_wp2_with (first | (rw [← HW3.out]; clear HW3; generalize hP0 : w3.heap.size = P0 at *; refine wpL_load_row rfl 25 _ rfl w.heap.size _ 25 (0, 0) _ rfl R3.out Try.underlying25 rfl (by kernel_rfl) ?_) | (go_at_call 6; fail))
  refine cT.out.mono ?_
  rintro e w4 ⟨y4, y5, rfl, n4, hb4, hsf⟩
  have n4o := n4.out
  obtain ⟨⟨f4, g4, rfl, -⟩, ⟨f5, g5, rfl, -⟩⟩ := n4o
  obtain ⟨V, hV⟩ : ∃ V, V = w4.alloc (.cells #[.string n.name, .int .i64 n.validity, .int .i64 n.nextUid, .int .i64 n.topMod, .slice f4 n.mails.length g4, .slice f5 n.gones.length g5] 34) := ⟨_, rfl⟩
  have bV : Below w4.heap.size w4 V := by rw [hV]; exact (Below.refl _ _).alloc (Nat.le_refl _) _
  have sV : V.heap.size = w4.heap.size + 1 := by rw [hV]; simp
  have s4 : W3.heap.size ≤ w4.heap.size := hb4.size
  have X0 : V.heap[w4.heap.size]? = some (.cells #[.string n.name, .int .i64 n.validity, .int .i64 n.nextUid, .int .i64 n.topMod, .slice f4 n.mails.length g4, .slice f5 n.gones.length g5] 34 (0, 0)) := by rw [hV]; exact heap_alloc_at _ _
  have B4 := mkHid (hb4.trans (bV.mono s4))
  have N4 := mkHid (n4.out.same (Same.of_below bV (Nat.le_refl _)))
  have T4 : Hid (Thaw W3.heap.size w4.heap.size V) := (Soft.thaw hsf.out).kp (Kp.below bV) (Nat.le_refl _)
  replace X0 := mkHid X0
  have HV := mkHid hV
  clear cT n4 hb4 hsf bV hV
  have cI := mkHid (cIm.out _ _ _ V (N4.out.mono (Nat.le_refl _) (by omega)))
  go_wp2_with (first | (rw [← HV.out]; clear HV; generalize hQ0 : w4.heap.size = Q0 at *; refine wpL_load_row rfl 34 _ rfl Q0 _ 34 (0, 0) _ rfl X0.out Try.underlying34 rfl (by kernel_rfl) ?_) | (go_at_call 7; fail))
  refine cI.out.mono ?_
  rintro e w5 ⟨z1, z2, rfl, hT, hb5⟩
  obtain ⟨q1, m1, rfl⟩ := hT.out.own1.shape
  obtain ⟨q2, m2, rfl⟩ := hT.out.own2.shape
  obtain ⟨W5, hW5⟩ : ∃ W5, W5 = w5.alloc (.cells #[.slice q1 C.length m1, .slice q2 D.length m2] 29) := ⟨_, rfl⟩
  have bW5 : Below w5.heap.size w5 W5 := by rw [hW5]; exact (Below.refl _ _).alloc (Nat.le_refl _) _
  have s5 : W5.heap.size = w5.heap.size + 1 := by rw [hW5]; simp
  have s5a : V.heap.size ≤ w5.heap.size := hb5.size
  have Y0 : Hid (W5.heap[w5.heap.size]? = some (.cells #[.slice q1 C.length m1, .slice q2 D.length m2] 29 (0, 0))) := by rw [hW5]; exact heap_alloc_at _ _
  have BV5 := mkHid (hb5.trans (bW5.mono s5a))
  have B5 := mkHid (B4.out.trans (BV5.out.mono (by omega)))
  have T5 := mkHid (hT.out.stay (w' := W5) fun k _ hk => bW5.block k hk)
  have Hn1 : Hid (∀ k, (Value.slice q1 C.length m1).ownBlock = some k → k < w5.heap.size) := fun k e => (World.ownsRow.lt hT.out.own1 k e).2
  have Hn2 : Hid (∀ k, (Value.slice q2 D.length m2).ownBlock = some k → k < w5.heap.size) := fun k e => (World.ownsRow.lt hT.out.own2 k e).2
  have X5 := mkHid ((BV5.out.block Q0 (by omega)).trans X0.out)
  have Z5 := mkHid ((B5.out.block P0 (by omega)).trans Z0.out)
  have cE := mkHid (lawEqChanges q1 q2 p1 p2 C D m1 m2 l1 l2 0 0 W5 T5.out.lists.1 T5.out.lists.2 (I1.out.keepW B5.out B5.out.size) (I2.out.keepW B5.out B5.out.size) hCl hDl)
  have HW5 := mkHid hW5
  clear cI hT hb5 bW5 hW5 R3
  go_wp2_with (first | (rw [← HW5.out]; clear HW5; generalize hS0 : w5.heap.size = S0 at *; refine wpL_load_row rfl 29 _ rfl S0 _ 29 (0, 0) _ rfl Y0.out Try.underlying29 rfl (by kernel_rfl) ?_) | (refine wpL_load_row rfl 29 _ rfl P0 _ 29 (0, 0) _ rfl Z5.out Try.underlying29 rfl (by kernel_rfl) ?_) | (go_at_call 8; fail))
  refine cE.out.mono ?_
  rintro e w6 ⟨rfl, hb6⟩
  have B6 := mkHid (B5.out.trans (hb6.mono B5.out.size))
  have BV6 := mkHid (BV5.out.trans (hb6.mono BV5.out.size))
  have BW6 := mkHid (B3.out.trans (B6.out.mono B3.out.size))
  have X6 := (hb6.block Q0 (by omega)).trans X5.out
  have R6 := (BW6.out.block w.heap.size (by omega)).trans RA.out
  have T6 := mkHid (T5.out.stay (w' := w6) fun k _ hk => hb6.block k hk)
  have Y6 := mkHid ((hb6.block S0 (by omega)).trans Y0.out)
  have s6 : W5.heap.size ≤ w6.heap.size := hb6.size
  obtain ⟨x0_, x1_, x2_, x3_, x4_, x5_⟩ := mb_cells X6
  obtain ⟨s0_, s1_, s2_, s3_, s4_, s5_⟩ := mb_cells R6
  have hQs : Q0 < w6.heap.size := by omega
  have n6' := mkHid ((N4.out.mono (Nat.le_refl _) (by omega)).same (Same.of_below BV6.out (Nat.le_refl _)) |>.mono (Nat.le_refl _) BV6.out.size)
  clear cE hb6 X5 Z5 T5 Y0 X6 R6 B5 BV5
  have cT : Hid (∀ W' : World, Below w6.heap.size w6 W' → Calls Try.prog 6 #[.agg #[.string n.name, .int .i64 n.validity, .int .i64 n.nextUid, .int .i64 n.topMod, .slice a4 n.mails.length c4, .slice a5 n.gones.length c5]] W' fun e w'' => ∃ v4 v5 : Value, e = .returned (GMailboxV n v4 v5) ∧ Hid (GMailboxIn 0 w''.heap.size w'' n v4 v5) ∧ Below w6.heap.size w6 w'') := fun W' hb' =>
    (lawToMailbox n (.slice a4 n.mails.length c4) (.slice a5 n.gones.length c5) 0 W' (((HI.out.same (Same.of_below BW6.out (Nat.le_refl _))).mono (Nat.le_refl _) BW6.out.size).same (Same.of_below hb' (Nat.le_refl _)) |>.mono (Nat.le_refl _) hb'.size) hf.out).mono fun e w'' ⟨v4, v5, e1, e2, e3⟩ => ⟨v4, v5, e1, e2.out.mono (Nat.zero_le _) (Nat.le_refl _), hb'.trans (e3.mono hb'.size)⟩
  have cE : Hid (∀ (W' : World) (v4 v5 : Value), Below w6.heap.size w6 W' → GMailboxIn 0 W'.heap.size W' n v4 v5 → Calls Try.prog 9 #[.agg #[.string n.name, .int .i64 n.validity, .int .i64 n.nextUid, .int .i64 n.topMod, .slice f4 n.mails.length g4, .slice f5 n.gones.length g5], GMailboxV n v4 v5] W' fun e w'' => e = .returned (.bool true) ∧ Below w6.heap.size w6 w'') := fun W' v4 v5 hb' hk =>
    (lawEqMailbox n (.slice f4 n.mails.length g4) (.slice f5 n.gones.length g5) v4 v5 _ 0 W' ((n6'.out.same (Same.of_below hb' (Nat.le_refl _))).mono (Nat.le_refl _) hb'.size) hk hf.out).mono fun e w'' ⟨e1, e2⟩ => ⟨e1, hb'.trans (e2.mono hb'.size)⟩
  have hb0 : Below w6.heap.size w6 w6 := Below.refl _ _
  unfold GMailboxV at cT cE
  clear n6'
  go_wp2
  refine wp_region_any (by kernel_rfl) ?_
  refine wpAny_ready (rs := [0, 1]) (by kernel_rfl) (by simp) ?_
  refine AllReady.cons rfl (fun K hK => ?_) (AllReady.cons rfl (fun K hK => ?_) AllReady.nil)
  · go_simp
    refine hK _ _ ?_
    clear hK K
    go_simp
    refine wpAny_ready (rs := [1]) (by kernel_rfl) (by simp) ?_
    refine AllReady.cons rfl (fun K hK => ?_) AllReady.nil
    go_simp
    refine hK _ _ ?_
    clear hK K
    go_simp
    refine wpAny_ready (rs := [2]) (by kernel_rfl) (by simp) ?_
    refine AllReady.cons rfl (fun K hK => ?_) AllReady.nil
    go_simp
    go_wp2_with fail
    refine (cT.out _ (by first | exact hb0 | exact hb0.drew | exact hb0.drew.drew)).mono ?_
    rintro e w7 ⟨y4, y5, rfl, n7, hb7⟩
    have n7o := n7.out
    obtain ⟨⟨k4, j4, rfl, -⟩, ⟨k5, j5, rfl, -⟩⟩ := n7o
    have v0_ := (hb7.cell (p := ⟨Q0, 0, none⟩) hQs).trans x0_
    have v1_ := (hb7.cell (p := ⟨Q0, 1, none⟩) hQs).trans x1_
    have v2_ := (hb7.cell (p := ⟨Q0, 2, none⟩) hQs).trans x2_
    have v3_ := (hb7.cell (p := ⟨Q0, 3, none⟩) hQs).trans x3_
    have v4_ := (hb7.cell (p := ⟨Q0, 4, none⟩) hQs).trans x4_
    have v5_ := (hb7.cell (p := ⟨Q0, 5, none⟩) hQs).trans x5_
    show K _ w7
    refine hK _ _ ?_
    clear hK K
    go_simp
    refine wpAny_ready (rs := [3]) (by kernel_rfl) (by simp) ?_
    refine AllReady.cons rfl (fun K hK => ?_) AllReady.nil
    go_simp
    go_wp2_with fail
    refine (cE.out _ _ _ (by first | exact hb7 | exact hb7.drew | exact hb7.drew.drew) (by first | exact n7.out | exact n7.out.same (Same.of_below (Below.refl _ _).drew (Nat.le_refl _)))).mono ?_
    rintro e w8 ⟨rfl, hb8⟩
    show K _ w8
    refine hK _ _ ?_
    clear hK K
    go_simp
    refine wpAny_take (i := 4) (v := .bool false) rfl (by kernel_rfl) (by kernel_rfl) (by kernel_rfl) (fun _ _ _ h => h) (Or.inl ⟨by rfl, ?_⟩) ?_
    · intro w
      go_simp
    go_simp
    refine wpAny_done (by kernel_rfl) ?_ _
    clear v0_ v1_ v2_ v3_ v4_ v5_ x0_ x1_ x2_ x3_ x4_ x5_ s0_ s1_ s2_ s3_ s4_ s5_
    replace hb8 := mkHid hb8
    have B8 := mkHid (B6.out.trans (hb8.out.mono B6.out.size))
    have BV8 := mkHid (BV6.out.trans (hb8.out.mono BV6.out.size))
    have X8 := mkHid ((BV8.out.block Q0 (by omega)).trans X0.out)
    have T8 := mkHid (T6.out.stay (w' := w8) fun k _ hk => hb8.out.block k hk)
    have Y8 := mkHid ((hb8.out.block S0 (by omega)).trans Y6.out)
    have s8 : w6.heap.size ≤ w8.heap.size := hb8.out.size
    have cM := mkHid (wkMailboxAt n (.slice f4 n.mails.length g4) (.slice f5 n.gones.length g5) 1 W3.heap.size Q0 w8 (N4.out.same (Same.of_below BV8.out (by omega))) (by omega) hf.out (fun p h1 h2 => (World.frozen?_of_block (BV8.out.block p.block (by omega))).trans (T4.out p h1 h2)) (by decide) (by decide))
    unfold GMailboxV at cM
    clear cT cE hb7 n7 hb0 hb8 N4 T4
    go_wp2_with (first | (refine wpL_load_row rfl 34 _ rfl Q0 _ 34 (0, 0) _ rfl X8.out Try.underlying34 rfl (by kernel_rfl) ?_) | (go_at_call 10; fail))
    refine cM.out.mono ?_
    rintro e w9 ⟨k9, rfl, hk9⟩
    have B9 : Hid (Below W3.heap.size W3 w9) := ⟨hk9.out.os.trans B8.out.os, hk9.out.tape.trans B8.out.tape, hk9.out.output.trans B8.out.output, Nat.le_trans B8.out.size hk9.out.size, fun k hk => (hk9.out.out k (by omega) (.inl hk)).trans (B8.out.block k hk)⟩
    have T9 := mkHid (T8.out.stay (w' := w9) fun k h1 h2 => hk9.out.out k h2 (.inr (by omega)))
    have Y9 := mkHid ((hk9.out.out S0 (by omega) (.inr (by omega))).trans Y8.out)
    have Z9 := mkHid ((B9.out.block P0 (by omega)).trans Z0.out)
    have s9 : w8.heap.size ≤ w9.heap.size := hk9.out.size
    have cE := mkHid (lawEqChanges q1 q2 p1 p2 C D m1 m2 l1 l2 0 0 w9 T9.out.lists.1 T9.out.lists.2 (I1.out.keepW B9.out B9.out.size) (I2.out.keepW B9.out B9.out.size) hCl hDl)
    clear cM hk9 X8 T8 Y8 BV8 B8 X0
    obtain ⟨g9a, g9b⟩ := two_cellsN Y9.out
    obtain ⟨h9a, h9b⟩ := two_cellsN Z9.out
    have k9n : decide ((k9 : Int) < 0) = false := decide_eq_false (by omega)
    go_wp2_with (go_at_call 8; fail)
    refine cE.out.mono ?_
    rintro e w10 ⟨rfl, hb10⟩
    have B10 := mkHid (B9.out.trans (hb10.mono B9.out.size))
    have T10 := mkHid (T9.out.stay (w' := w10) fun k _ hk => hb10.block k hk)
    have Y10 := mkHid ((hb10.block S0 (by omega)).trans Y9.out)
    have s10 : w9.heap.size ≤ w10.heap.size := hb10.size
    have cN := mkHid (lawMarkChanges q1 q2 C D m1 m2 V.heap.size w10 T10.out (by omega) hCl hDl)
    clear cE hb10 T9 Y9 Z9 B9 g9a g9b h9a h9b
    go_wp2_with (first | (refine wpL_load_row rfl 29 _ rfl S0 _ 29 (0, 0) _ rfl Y10.out Try.underlying29 rfl (by kernel_rfl) ?_) | (go_at_call 11; fail))
    refine cN.out.mono ?_
    rintro e w11 ⟨rfl, hT11, hb11, hst⟩
    have B11 := mkHid (B10.out.trans (hb11.mono (by omega)))
    have Y11 := mkHid ((hst.out S0 (by omega) (fun e => by have := Hn1.out _ e; omega) (fun e => by have := Hn2.out _ e; omega)).trans Y10.out)
    have s11 : w10.heap.size ≤ w11.heap.size := hb11.size
    have cH := mkHid (lawHeldChanges q1 q2 C.length D.length m1 m2 0 w11 (by have := hT11.out.own1.shape; exact held1 hT11.out) (held2 hT11.out) hCl hDl)
    clear cN T10 Y10 hst hb11 B10
    go_wp2_with (first | (refine wpL_load_row rfl 29 _ rfl S0 _ 29 (0, 0) _ rfl Y11.out Try.underlying29 rfl (by kernel_rfl) ?_) | (go_at_call 12; fail))
    refine cH.out.mono ?_
    rintro e w12 ⟨rfl, hb12⟩
    have B12 := mkHid (B11.out.trans (hb12.mono B11.out.size))
    have BW12 := mkHid (B3.out.trans (B12.out.mono B3.out.size))
    have Y12 := mkHid ((hb12.block S0 (by omega)).trans Y11.out)
    have T12 := mkHid (hT11.out.stay (w' := w12) fun k _ hk => hb12.block k hk)
    have R12 := mkHid ((BW12.out.block w.heap.size (by omega)).trans RA.out)
    have s12 : w11.heap.size ≤ w12.heap.size := hb12.size
    have cT := mkHid (lawToMailbox n (.slice a4 n.mails.length c4) (.slice a5 n.gones.length c5) 0 w12 ((HI.out.same (Same.of_below BW12.out (Nat.le_refl _))).mono (Nat.le_refl _) BW12.out.size) hf.out)
    unfold GMailboxV at cT
    clear cH hT11 hb12 Y11 B11
    generalize hmm : 1 + C.length + D.length = mm at *
    have hmb : mm ≤ 3000000 := by omega
    go_wp2_with (first | (refine wpL_load_row rfl 25 _ rfl w.heap.size _ 25 (0, 0) _ rfl R12.out Try.underlying25 rfl (by kernel_rfl) ?_) | (go_at_call 6; fail))
    refine cT.out.mono ?_
    rintro e w13 ⟨y4, y5, rfl, n13, hb13⟩
    have n13o := n13.out
    obtain ⟨⟨r4, t4, rfl, -⟩, ⟨r5, t5, rfl, -⟩⟩ := n13o
    have B13 := mkHid (B12.out.trans (hb13.mono B12.out.size))
    have T13 := mkHid (T12.out.stay (w' := w13) fun k _ hk => hb13.block k hk)
    have Y13 := mkHid ((hb13.block S0 (by omega)).trans Y12.out)
    have s13 : w12.heap.size ≤ w13.heap.size := hb13.size
    have cI := mkHid (cIm.out _ _ _ w13 n13.out)
    clear cT n13 hb13 T12 Y12 R12 B12 BW12
    go_wp2_with fail
    refine cI.out.mono ?_
    rintro e w14 ⟨u1, u2, rfl, hTU, hb14⟩
    obtain ⟨h1, i1, rfl⟩ := hTU.out.own1.shape
    obtain ⟨h2, i2, rfl⟩ := hTU.out.own2.shape
    obtain ⟨W14, hW14⟩ : ∃ W14, W14 = w14.alloc (.cells #[.slice h1 C.length i1, .slice h2 D.length i2] 29) := ⟨_, rfl⟩
    have bW14 : Below w14.heap.size w14 W14 := by rw [hW14]; exact (Below.refl _ _).alloc (Nat.le_refl _) _
    have s14 : w13.heap.size ≤ w14.heap.size := hb14.size
    have s14a : W14.heap.size = w14.heap.size + 1 := by rw [hW14]; simp
    have U0 : Hid (W14.heap[w14.heap.size]? = some (.cells #[.slice h1 C.length i1, .slice h2 D.length i2] 29 (0, 0))) := by rw [hW14]; exact heap_alloc_at _ _
    have bb := hb14.trans (bW14.mono s14)
    have B14 := mkHid (B13.out.trans (bb.mono B13.out.size))
    have T14 := mkHid (T13.out.stay (w' := W14) fun k _ hk => bb.block k hk)
    have Y14 := mkHid ((bb.block S0 (by omega)).trans Y13.out)
    have Z14 := mkHid ((B14.out.block P0 (by omega)).trans Z0.out)
    have TU := mkHid (hTU.out.stay (w' := W14) fun k _ hk => bW14.block k hk)
    have cE := mkHid (lawEqChanges h1 h2 p1 p2 C D i1 i2 l1 l2 0 0 W14 TU.out.lists.1 TU.out.lists.2 (I1.out.keepW B14.out B14.out.size) (I2.out.keepW B14.out B14.out.size) hCl hDl)
    have HW14 := mkHid hW14
    clear cI cIm hTU hb14 bW14 hW14 bb B13 T13 Y13 TU
    go_wp2_with (first | (rw [← HW14.out]; clear HW14; generalize hU : w14.heap.size = U at *; refine wpL_load_row rfl 29 _ rfl U _ 29 (0, 0) _ rfl U0.out Try.underlying29 rfl (by kernel_rfl) ?_) | (refine wpL_load_row rfl 29 _ rfl P0 _ 29 (0, 0) _ rfl Z14.out Try.underlying29 rfl (by kernel_rfl) ?_) | (go_at_call 8; fail))
    refine cE.out.mono ?_
    rintro e w15 ⟨rfl, hb15⟩
    have B15 := mkHid (B14.out.trans (hb15.mono B14.out.size))
    have T15 := T14.out.stay (w' := w15) fun k _ hk => hb15.block k hk
    have Y15 := mkHid ((hb15.block S0 (by omega)).trans Y14.out)
    have cH : Hid _ := mkHid (lawHeldChanges q1 q2 C.length D.length m1 m2 0 w15 (held1 T15) (held2 T15) hCl hDl)
    rw [hmm] at cH
    clear cE hb15 T14 T15 Y14 B14 U0 Z14
    go_wp2_with (first | (refine wpL_load_row rfl 29 _ rfl S0 _ 29 (0, 0) _ rfl Y15.out Try.underlying29 rfl (by kernel_rfl) ?_) | (go_at_call 12; fail))
    refine cH.out.mono ?_
    rintro e w16 ⟨rfl, hb16⟩
    have B16 := mkHid (B15.out.trans (hb16.mono B15.out.size))
    have BE := mkHid (HbA.out.trans ((B3.out.trans (B16.out.mono B3.out.size)).mono (by omega)))
    clear cH Y15 hb16 B15 B16
    go_wp2
    go_ret
    exact ⟨rfl, BE.out⟩
  · go_simp
    refine hK _ _ ?_
    clear hK K
    go_simp
    refine wpAny_ready (rs := [0, 2]) (by kernel_rfl) (by simp) ?_
    refine AllReady.cons rfl (fun K hK => ?_) (AllReady.cons rfl (fun K hK => ?_) AllReady.nil)
    · go_simp
      refine hK _ _ ?_
      clear hK K
      go_simp
      refine wpAny_ready (rs := [2]) (by kernel_rfl) (by simp) ?_
      refine AllReady.cons rfl (fun K hK => ?_) AllReady.nil
      go_simp
      go_wp2_with fail
      refine (cT.out _ (by first | exact hb0 | exact hb0.drew | exact hb0.drew.drew)).mono ?_
      rintro e w7 ⟨y4, y5, rfl, n7, hb7⟩
      have n7o := n7.out
      obtain ⟨⟨k4, j4, rfl, -⟩, ⟨k5, j5, rfl, -⟩⟩ := n7o
      have v0_ := (hb7.cell (p := ⟨Q0, 0, none⟩) hQs).trans x0_
      have v1_ := (hb7.cell (p := ⟨Q0, 1, none⟩) hQs).trans x1_
      have v2_ := (hb7.cell (p := ⟨Q0, 2, none⟩) hQs).trans x2_
      have v3_ := (hb7.cell (p := ⟨Q0, 3, none⟩) hQs).trans x3_
      have v4_ := (hb7.cell (p := ⟨Q0, 4, none⟩) hQs).trans x4_
      have v5_ := (hb7.cell (p := ⟨Q0, 5, none⟩) hQs).trans x5_
      show K _ w7
      refine hK _ _ ?_
      clear hK K
      go_simp
      refine wpAny_ready (rs := [3]) (by kernel_rfl) (by simp) ?_
      refine AllReady.cons rfl (fun K hK => ?_) AllReady.nil
      go_simp
      go_wp2_with fail
      refine (cE.out _ _ _ (by first | exact hb7 | exact hb7.drew | exact hb7.drew.drew) (by first | exact n7.out | exact n7.out.same (Same.of_below (Below.refl _ _).drew (Nat.le_refl _)))).mono ?_
      rintro e w8 ⟨rfl, hb8⟩
      show K _ w8
      refine hK _ _ ?_
      clear hK K
      go_simp
      refine wpAny_take (i := 4) (v := .bool false) rfl (by kernel_rfl) (by kernel_rfl) (by kernel_rfl) (fun _ _ _ h => h) (Or.inl ⟨by rfl, ?_⟩) ?_
      · intro w
        go_simp
      go_simp
      refine wpAny_done (by kernel_rfl) ?_ _
      clear v0_ v1_ v2_ v3_ v4_ v5_ x0_ x1_ x2_ x3_ x4_ x5_ s0_ s1_ s2_ s3_ s4_ s5_
      replace hb8 := mkHid hb8
      have B8 := mkHid (B6.out.trans (hb8.out.mono B6.out.size))
      have BV8 := mkHid (BV6.out.trans (hb8.out.mono BV6.out.size))
      have X8 := mkHid ((BV8.out.block Q0 (by omega)).trans X0.out)
      have T8 := mkHid (T6.out.stay (w' := w8) fun k _ hk => hb8.out.block k hk)
      have Y8 := mkHid ((hb8.out.block S0 (by omega)).trans Y6.out)
      have s8 : w6.heap.size ≤ w8.heap.size := hb8.out.size
      have cM := mkHid (wkMailboxAt n (.slice f4 n.mails.length g4) (.slice f5 n.gones.length g5) 1 W3.heap.size Q0 w8 (N4.out.same (Same.of_below BV8.out (by omega))) (by omega) hf.out (fun p h1 h2 => (World.frozen?_of_block (BV8.out.block p.block (by omega))).trans (T4.out p h1 h2)) (by decide) (by decide))
      unfold GMailboxV at cM
      clear cT cE hb7 n7 hb0 hb8 N4 T4
      go_wp2_with (first | (refine wpL_load_row rfl 34 _ rfl Q0 _ 34 (0, 0) _ rfl X8.out Try.underlying34 rfl (by kernel_rfl) ?_) | (go_at_call 10; fail))
      refine cM.out.mono ?_
      rintro e w9 ⟨k9, rfl, hk9⟩
      have B9 : Hid (Below W3.heap.size W3 w9) := ⟨hk9.out.os.trans B8.out.os, hk9.out.tape.trans B8.out.tape, hk9.out.output.trans B8.out.output, Nat.le_trans B8.out.size hk9.out.size, fun k hk => (hk9.out.out k (by omega) (.inl hk)).trans (B8.out.block k hk)⟩
      have T9 := mkHid (T8.out.stay (w' := w9) fun k h1 h2 => hk9.out.out k h2 (.inr (by omega)))
      have Y9 := mkHid ((hk9.out.out S0 (by omega) (.inr (by omega))).trans Y8.out)
      have Z9 := mkHid ((B9.out.block P0 (by omega)).trans Z0.out)
      have s9 : w8.heap.size ≤ w9.heap.size := hk9.out.size
      have cE := mkHid (lawEqChanges q1 q2 p1 p2 C D m1 m2 l1 l2 0 0 w9 T9.out.lists.1 T9.out.lists.2 (I1.out.keepW B9.out B9.out.size) (I2.out.keepW B9.out B9.out.size) hCl hDl)
      clear cM hk9 X8 T8 Y8 BV8 B8 X0
      obtain ⟨g9a, g9b⟩ := two_cellsN Y9.out
      obtain ⟨h9a, h9b⟩ := two_cellsN Z9.out
      have k9n : decide ((k9 : Int) < 0) = false := decide_eq_false (by omega)
      go_wp2_with (go_at_call 8; fail)
      refine cE.out.mono ?_
      rintro e w10 ⟨rfl, hb10⟩
      have B10 := mkHid (B9.out.trans (hb10.mono B9.out.size))
      have T10 := mkHid (T9.out.stay (w' := w10) fun k _ hk => hb10.block k hk)
      have Y10 := mkHid ((hb10.block S0 (by omega)).trans Y9.out)
      have s10 : w9.heap.size ≤ w10.heap.size := hb10.size
      have cN := mkHid (lawMarkChanges q1 q2 C D m1 m2 V.heap.size w10 T10.out (by omega) hCl hDl)
      clear cE hb10 T9 Y9 Z9 B9 g9a g9b h9a h9b
      go_wp2_with (first | (refine wpL_load_row rfl 29 _ rfl S0 _ 29 (0, 0) _ rfl Y10.out Try.underlying29 rfl (by kernel_rfl) ?_) | (go_at_call 11; fail))
      refine cN.out.mono ?_
      rintro e w11 ⟨rfl, hT11, hb11, hst⟩
      have B11 := mkHid (B10.out.trans (hb11.mono (by omega)))
      have Y11 := mkHid ((hst.out S0 (by omega) (fun e => by have := Hn1.out _ e; omega) (fun e => by have := Hn2.out _ e; omega)).trans Y10.out)
      have s11 : w10.heap.size ≤ w11.heap.size := hb11.size
      have cH := mkHid (lawHeldChanges q1 q2 C.length D.length m1 m2 0 w11 (by have := hT11.out.own1.shape; exact held1 hT11.out) (held2 hT11.out) hCl hDl)
      clear cN T10 Y10 hst hb11 B10
      go_wp2_with (first | (refine wpL_load_row rfl 29 _ rfl S0 _ 29 (0, 0) _ rfl Y11.out Try.underlying29 rfl (by kernel_rfl) ?_) | (go_at_call 12; fail))
      refine cH.out.mono ?_
      rintro e w12 ⟨rfl, hb12⟩
      have B12 := mkHid (B11.out.trans (hb12.mono B11.out.size))
      have BW12 := mkHid (B3.out.trans (B12.out.mono B3.out.size))
      have Y12 := mkHid ((hb12.block S0 (by omega)).trans Y11.out)
      have T12 := mkHid (hT11.out.stay (w' := w12) fun k _ hk => hb12.block k hk)
      have R12 := mkHid ((BW12.out.block w.heap.size (by omega)).trans RA.out)
      have s12 : w11.heap.size ≤ w12.heap.size := hb12.size
      have cT := mkHid (lawToMailbox n (.slice a4 n.mails.length c4) (.slice a5 n.gones.length c5) 0 w12 ((HI.out.same (Same.of_below BW12.out (Nat.le_refl _))).mono (Nat.le_refl _) BW12.out.size) hf.out)
      unfold GMailboxV at cT
      clear cH hT11 hb12 Y11 B11
      generalize hmm : 1 + C.length + D.length = mm at *
      have hmb : mm ≤ 3000000 := by omega
      go_wp2_with (first | (refine wpL_load_row rfl 25 _ rfl w.heap.size _ 25 (0, 0) _ rfl R12.out Try.underlying25 rfl (by kernel_rfl) ?_) | (go_at_call 6; fail))
      refine cT.out.mono ?_
      rintro e w13 ⟨y4, y5, rfl, n13, hb13⟩
      have n13o := n13.out
      obtain ⟨⟨r4, t4, rfl, -⟩, ⟨r5, t5, rfl, -⟩⟩ := n13o
      have B13 := mkHid (B12.out.trans (hb13.mono B12.out.size))
      have T13 := mkHid (T12.out.stay (w' := w13) fun k _ hk => hb13.block k hk)
      have Y13 := mkHid ((hb13.block S0 (by omega)).trans Y12.out)
      have s13 : w12.heap.size ≤ w13.heap.size := hb13.size
      have cI := mkHid (cIm.out _ _ _ w13 n13.out)
      clear cT n13 hb13 T12 Y12 R12 B12 BW12
      go_wp2_with fail
      refine cI.out.mono ?_
      rintro e w14 ⟨u1, u2, rfl, hTU, hb14⟩
      obtain ⟨h1, i1, rfl⟩ := hTU.out.own1.shape
      obtain ⟨h2, i2, rfl⟩ := hTU.out.own2.shape
      obtain ⟨W14, hW14⟩ : ∃ W14, W14 = w14.alloc (.cells #[.slice h1 C.length i1, .slice h2 D.length i2] 29) := ⟨_, rfl⟩
      have bW14 : Below w14.heap.size w14 W14 := by rw [hW14]; exact (Below.refl _ _).alloc (Nat.le_refl _) _
      have s14 : w13.heap.size ≤ w14.heap.size := hb14.size
      have s14a : W14.heap.size = w14.heap.size + 1 := by rw [hW14]; simp
      have U0 : Hid (W14.heap[w14.heap.size]? = some (.cells #[.slice h1 C.length i1, .slice h2 D.length i2] 29 (0, 0))) := by rw [hW14]; exact heap_alloc_at _ _
      have bb := hb14.trans (bW14.mono s14)
      have B14 := mkHid (B13.out.trans (bb.mono B13.out.size))
      have T14 := mkHid (T13.out.stay (w' := W14) fun k _ hk => bb.block k hk)
      have Y14 := mkHid ((bb.block S0 (by omega)).trans Y13.out)
      have Z14 := mkHid ((B14.out.block P0 (by omega)).trans Z0.out)
      have TU := mkHid (hTU.out.stay (w' := W14) fun k _ hk => bW14.block k hk)
      have cE := mkHid (lawEqChanges h1 h2 p1 p2 C D i1 i2 l1 l2 0 0 W14 TU.out.lists.1 TU.out.lists.2 (I1.out.keepW B14.out B14.out.size) (I2.out.keepW B14.out B14.out.size) hCl hDl)
      have HW14 := mkHid hW14
      clear cI cIm hTU hb14 bW14 hW14 bb B13 T13 Y13 TU
      go_wp2_with (first | (rw [← HW14.out]; clear HW14; generalize hU : w14.heap.size = U at *; refine wpL_load_row rfl 29 _ rfl U _ 29 (0, 0) _ rfl U0.out Try.underlying29 rfl (by kernel_rfl) ?_) | (refine wpL_load_row rfl 29 _ rfl P0 _ 29 (0, 0) _ rfl Z14.out Try.underlying29 rfl (by kernel_rfl) ?_) | (go_at_call 8; fail))
      refine cE.out.mono ?_
      rintro e w15 ⟨rfl, hb15⟩
      have B15 := mkHid (B14.out.trans (hb15.mono B14.out.size))
      have T15 := T14.out.stay (w' := w15) fun k _ hk => hb15.block k hk
      have Y15 := mkHid ((hb15.block S0 (by omega)).trans Y14.out)
      have cH : Hid _ := mkHid (lawHeldChanges q1 q2 C.length D.length m1 m2 0 w15 (held1 T15) (held2 T15) hCl hDl)
      rw [hmm] at cH
      clear cE hb15 T14 T15 Y14 B14 U0 Z14
      go_wp2_with (first | (refine wpL_load_row rfl 29 _ rfl S0 _ 29 (0, 0) _ rfl Y15.out Try.underlying29 rfl (by kernel_rfl) ?_) | (go_at_call 12; fail))
      refine cH.out.mono ?_
      rintro e w16 ⟨rfl, hb16⟩
      have B16 := mkHid (B15.out.trans (hb16.mono B15.out.size))
      have BE := mkHid (HbA.out.trans ((B3.out.trans (B16.out.mono B3.out.size)).mono (by omega)))
      clear cH Y15 hb16 B15 B16
      go_wp2
      go_ret
      exact ⟨rfl, BE.out⟩
    · go_simp
      go_wp2_with fail
      refine (cT.out _ (by first | exact hb0 | exact hb0.drew | exact hb0.drew.drew)).mono ?_
      rintro e w7 ⟨y4, y5, rfl, n7, hb7⟩
      have n7o := n7.out
      obtain ⟨⟨k4, j4, rfl, -⟩, ⟨k5, j5, rfl, -⟩⟩ := n7o
      have v0_ := (hb7.cell (p := ⟨Q0, 0, none⟩) hQs).trans x0_
      have v1_ := (hb7.cell (p := ⟨Q0, 1, none⟩) hQs).trans x1_
      have v2_ := (hb7.cell (p := ⟨Q0, 2, none⟩) hQs).trans x2_
      have v3_ := (hb7.cell (p := ⟨Q0, 3, none⟩) hQs).trans x3_
      have v4_ := (hb7.cell (p := ⟨Q0, 4, none⟩) hQs).trans x4_
      have v5_ := (hb7.cell (p := ⟨Q0, 5, none⟩) hQs).trans x5_
      show K _ w7
      refine hK _ _ ?_
      clear hK K
      go_simp
      refine wpAny_ready (rs := [0]) (by kernel_rfl) (by simp) ?_
      refine AllReady.cons rfl (fun K hK => ?_) AllReady.nil
      go_simp
      refine hK _ _ ?_
      clear hK K
      go_simp
      refine wpAny_ready (rs := [3]) (by kernel_rfl) (by simp) ?_
      refine AllReady.cons rfl (fun K hK => ?_) AllReady.nil
      go_simp
      go_wp2_with fail
      refine (cE.out _ _ _ (by first | exact hb7 | exact hb7.drew | exact hb7.drew.drew) (by first | exact n7.out | exact n7.out.same (Same.of_below (Below.refl _ _).drew (Nat.le_refl _)))).mono ?_
      rintro e w8 ⟨rfl, hb8⟩
      show K _ w8
      refine hK _ _ ?_
      clear hK K
      go_simp
      refine wpAny_take (i := 4) (v := .bool false) rfl (by kernel_rfl) (by kernel_rfl) (by kernel_rfl) (fun _ _ _ h => h) (Or.inl ⟨by rfl, ?_⟩) ?_
      · intro w
        go_simp
      go_simp
      refine wpAny_done (by kernel_rfl) ?_ _
      clear v0_ v1_ v2_ v3_ v4_ v5_ x0_ x1_ x2_ x3_ x4_ x5_ s0_ s1_ s2_ s3_ s4_ s5_
      replace hb8 := mkHid hb8
      have B8 := mkHid (B6.out.trans (hb8.out.mono B6.out.size))
      have BV8 := mkHid (BV6.out.trans (hb8.out.mono BV6.out.size))
      have X8 := mkHid ((BV8.out.block Q0 (by omega)).trans X0.out)
      have T8 := mkHid (T6.out.stay (w' := w8) fun k _ hk => hb8.out.block k hk)
      have Y8 := mkHid ((hb8.out.block S0 (by omega)).trans Y6.out)
      have s8 : w6.heap.size ≤ w8.heap.size := hb8.out.size
      have cM := mkHid (wkMailboxAt n (.slice f4 n.mails.length g4) (.slice f5 n.gones.length g5) 1 W3.heap.size Q0 w8 (N4.out.same (Same.of_below BV8.out (by omega))) (by omega) hf.out (fun p h1 h2 => (World.frozen?_of_block (BV8.out.block p.block (by omega))).trans (T4.out p h1 h2)) (by decide) (by decide))
      unfold GMailboxV at cM
      clear cT cE hb7 n7 hb0 hb8 N4 T4
      go_wp2_with (first | (refine wpL_load_row rfl 34 _ rfl Q0 _ 34 (0, 0) _ rfl X8.out Try.underlying34 rfl (by kernel_rfl) ?_) | (go_at_call 10; fail))
      refine cM.out.mono ?_
      rintro e w9 ⟨k9, rfl, hk9⟩
      have B9 : Hid (Below W3.heap.size W3 w9) := ⟨hk9.out.os.trans B8.out.os, hk9.out.tape.trans B8.out.tape, hk9.out.output.trans B8.out.output, Nat.le_trans B8.out.size hk9.out.size, fun k hk => (hk9.out.out k (by omega) (.inl hk)).trans (B8.out.block k hk)⟩
      have T9 := mkHid (T8.out.stay (w' := w9) fun k h1 h2 => hk9.out.out k h2 (.inr (by omega)))
      have Y9 := mkHid ((hk9.out.out S0 (by omega) (.inr (by omega))).trans Y8.out)
      have Z9 := mkHid ((B9.out.block P0 (by omega)).trans Z0.out)
      have s9 : w8.heap.size ≤ w9.heap.size := hk9.out.size
      have cE := mkHid (lawEqChanges q1 q2 p1 p2 C D m1 m2 l1 l2 0 0 w9 T9.out.lists.1 T9.out.lists.2 (I1.out.keepW B9.out B9.out.size) (I2.out.keepW B9.out B9.out.size) hCl hDl)
      clear cM hk9 X8 T8 Y8 BV8 B8 X0
      obtain ⟨g9a, g9b⟩ := two_cellsN Y9.out
      obtain ⟨h9a, h9b⟩ := two_cellsN Z9.out
      have k9n : decide ((k9 : Int) < 0) = false := decide_eq_false (by omega)
      go_wp2_with (go_at_call 8; fail)
      refine cE.out.mono ?_
      rintro e w10 ⟨rfl, hb10⟩
      have B10 := mkHid (B9.out.trans (hb10.mono B9.out.size))
      have T10 := mkHid (T9.out.stay (w' := w10) fun k _ hk => hb10.block k hk)
      have Y10 := mkHid ((hb10.block S0 (by omega)).trans Y9.out)
      have s10 : w9.heap.size ≤ w10.heap.size := hb10.size
      have cN := mkHid (lawMarkChanges q1 q2 C D m1 m2 V.heap.size w10 T10.out (by omega) hCl hDl)
      clear cE hb10 T9 Y9 Z9 B9 g9a g9b h9a h9b
      go_wp2_with (first | (refine wpL_load_row rfl 29 _ rfl S0 _ 29 (0, 0) _ rfl Y10.out Try.underlying29 rfl (by kernel_rfl) ?_) | (go_at_call 11; fail))
      refine cN.out.mono ?_
      rintro e w11 ⟨rfl, hT11, hb11, hst⟩
      have B11 := mkHid (B10.out.trans (hb11.mono (by omega)))
      have Y11 := mkHid ((hst.out S0 (by omega) (fun e => by have := Hn1.out _ e; omega) (fun e => by have := Hn2.out _ e; omega)).trans Y10.out)
      have s11 : w10.heap.size ≤ w11.heap.size := hb11.size
      have cH := mkHid (lawHeldChanges q1 q2 C.length D.length m1 m2 0 w11 (by have := hT11.out.own1.shape; exact held1 hT11.out) (held2 hT11.out) hCl hDl)
      clear cN T10 Y10 hst hb11 B10
      go_wp2_with (first | (refine wpL_load_row rfl 29 _ rfl S0 _ 29 (0, 0) _ rfl Y11.out Try.underlying29 rfl (by kernel_rfl) ?_) | (go_at_call 12; fail))
      refine cH.out.mono ?_
      rintro e w12 ⟨rfl, hb12⟩
      have B12 := mkHid (B11.out.trans (hb12.mono B11.out.size))
      have BW12 := mkHid (B3.out.trans (B12.out.mono B3.out.size))
      have Y12 := mkHid ((hb12.block S0 (by omega)).trans Y11.out)
      have T12 := mkHid (hT11.out.stay (w' := w12) fun k _ hk => hb12.block k hk)
      have R12 := mkHid ((BW12.out.block w.heap.size (by omega)).trans RA.out)
      have s12 : w11.heap.size ≤ w12.heap.size := hb12.size
      have cT := mkHid (lawToMailbox n (.slice a4 n.mails.length c4) (.slice a5 n.gones.length c5) 0 w12 ((HI.out.same (Same.of_below BW12.out (Nat.le_refl _))).mono (Nat.le_refl _) BW12.out.size) hf.out)
      unfold GMailboxV at cT
      clear cH hT11 hb12 Y11 B11
      generalize hmm : 1 + C.length + D.length = mm at *
      have hmb : mm ≤ 3000000 := by omega
      go_wp2_with (first | (refine wpL_load_row rfl 25 _ rfl w.heap.size _ 25 (0, 0) _ rfl R12.out Try.underlying25 rfl (by kernel_rfl) ?_) | (go_at_call 6; fail))
      refine cT.out.mono ?_
      rintro e w13 ⟨y4, y5, rfl, n13, hb13⟩
      have n13o := n13.out
      obtain ⟨⟨r4, t4, rfl, -⟩, ⟨r5, t5, rfl, -⟩⟩ := n13o
      have B13 := mkHid (B12.out.trans (hb13.mono B12.out.size))
      have T13 := mkHid (T12.out.stay (w' := w13) fun k _ hk => hb13.block k hk)
      have Y13 := mkHid ((hb13.block S0 (by omega)).trans Y12.out)
      have s13 : w12.heap.size ≤ w13.heap.size := hb13.size
      have cI := mkHid (cIm.out _ _ _ w13 n13.out)
      clear cT n13 hb13 T12 Y12 R12 B12 BW12
      go_wp2_with fail
      refine cI.out.mono ?_
      rintro e w14 ⟨u1, u2, rfl, hTU, hb14⟩
      obtain ⟨h1, i1, rfl⟩ := hTU.out.own1.shape
      obtain ⟨h2, i2, rfl⟩ := hTU.out.own2.shape
      obtain ⟨W14, hW14⟩ : ∃ W14, W14 = w14.alloc (.cells #[.slice h1 C.length i1, .slice h2 D.length i2] 29) := ⟨_, rfl⟩
      have bW14 : Below w14.heap.size w14 W14 := by rw [hW14]; exact (Below.refl _ _).alloc (Nat.le_refl _) _
      have s14 : w13.heap.size ≤ w14.heap.size := hb14.size
      have s14a : W14.heap.size = w14.heap.size + 1 := by rw [hW14]; simp
      have U0 : Hid (W14.heap[w14.heap.size]? = some (.cells #[.slice h1 C.length i1, .slice h2 D.length i2] 29 (0, 0))) := by rw [hW14]; exact heap_alloc_at _ _
      have bb := hb14.trans (bW14.mono s14)
      have B14 := mkHid (B13.out.trans (bb.mono B13.out.size))
      have T14 := mkHid (T13.out.stay (w' := W14) fun k _ hk => bb.block k hk)
      have Y14 := mkHid ((bb.block S0 (by omega)).trans Y13.out)
      have Z14 := mkHid ((B14.out.block P0 (by omega)).trans Z0.out)
      have TU := mkHid (hTU.out.stay (w' := W14) fun k _ hk => bW14.block k hk)
      have cE := mkHid (lawEqChanges h1 h2 p1 p2 C D i1 i2 l1 l2 0 0 W14 TU.out.lists.1 TU.out.lists.2 (I1.out.keepW B14.out B14.out.size) (I2.out.keepW B14.out B14.out.size) hCl hDl)
      have HW14 := mkHid hW14
      clear cI cIm hTU hb14 bW14 hW14 bb B13 T13 Y13 TU
      go_wp2_with (first | (rw [← HW14.out]; clear HW14; generalize hU : w14.heap.size = U at *; refine wpL_load_row rfl 29 _ rfl U _ 29 (0, 0) _ rfl U0.out Try.underlying29 rfl (by kernel_rfl) ?_) | (refine wpL_load_row rfl 29 _ rfl P0 _ 29 (0, 0) _ rfl Z14.out Try.underlying29 rfl (by kernel_rfl) ?_) | (go_at_call 8; fail))
      refine cE.out.mono ?_
      rintro e w15 ⟨rfl, hb15⟩
      have B15 := mkHid (B14.out.trans (hb15.mono B14.out.size))
      have T15 := T14.out.stay (w' := w15) fun k _ hk => hb15.block k hk
      have Y15 := mkHid ((hb15.block S0 (by omega)).trans Y14.out)
      have cH : Hid _ := mkHid (lawHeldChanges q1 q2 C.length D.length m1 m2 0 w15 (held1 T15) (held2 T15) hCl hDl)
      rw [hmm] at cH
      clear cE hb15 T14 T15 Y14 B14 U0 Z14
      go_wp2_with (first | (refine wpL_load_row rfl 29 _ rfl S0 _ 29 (0, 0) _ rfl Y15.out Try.underlying29 rfl (by kernel_rfl) ?_) | (go_at_call 12; fail))
      refine cH.out.mono ?_
      rintro e w16 ⟨rfl, hb16⟩
      have B16 := mkHid (B15.out.trans (hb16.mono B15.out.size))
      have BE := mkHid (HbA.out.trans ((B3.out.trans (B16.out.mono B3.out.size)).mono (by omega)))
      clear cH Y15 hb16 B15 B16
      go_wp2
      go_ret
      exact ⟨rfl, BE.out⟩
end Go.Proofs.Ytkklaiphpccldaa
