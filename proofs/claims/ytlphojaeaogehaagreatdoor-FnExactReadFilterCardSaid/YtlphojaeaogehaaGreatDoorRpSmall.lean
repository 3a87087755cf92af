
/- The program's reader of a script: the next token. (By tools/gen/rpnext.py.) -/

/- The program's reader of a script: it goes on by a token. -/

/- The program's reader of a script: where it stands; its small steps. -/
import Derived.Test.YtlphojaeaogehaaGreatDoorAppN
import Derived.Test.YtlphojaeaogehaaGreatDoorRfTop
import Derived.OrdersHeld
namespace Go.Proofs.YtlphojaeaogehaaGreatDoor
open Go.RowKit Go.Lib
variable {R : List Value × TypeId}
set_option maxRecDepth 20000 in
theorem ba_cut (s : ByteArray) (p q : Nat) : (⟨(Rf.cut s.data.toList p q).toArray⟩ : ByteArray) = s.extract p q := by
  apply ByteArray.ext
  apply Array.toList_inj.1
  rw [ByteArray.data_extract, Array.toList_extract]
  simp [Rf.cut, List.drop_take]
set_option maxRecDepth 20000 in
theorem Sc.grown {w w' : World} {g : Nat} {s : ByteArray} {a b r : Nat} (h : Sc R w g s a b) (hg : w.grownBy w' (some r)) (hr : g ≠ r) : Sc R w' g s a b := ⟨(hg.block g h.lt (by simpa using hr)).trans h.blk⟩
set_option maxRecDepth 20000 in
theorem grown_new {w w1 w2 : World} {g r : Nat} (h : w.grownBy w1 (some g)) (h2 : w1.grownBy w2 (some r)) (hr : w.heap.size ≤ r) : w.grownBy w2 (some g) :=
  ⟨h2.os.trans h.os, h2.tape.trans h.tape, h2.output.trans h.output, Nat.le_trans h.size h2.size, fun k hk hn => (h2.block k (Nat.lt_of_lt_of_le hk h.size) (by simp; omega)).trans (h.block k hk hn)⟩
set_option maxRecDepth 20000 in
set_option maxHeartbeats 8000000 in
theorem scNextToken (g : Nat) (s : ByteArray) (p : Nat) (w : World) (hs : s.size ≤ 100000) (hp : p ≤ s.size) (h : Sc R w g s p p) :
    Calls Tryz.prog 53 #[scp g] w fun e w' => w.grownBy w' (some g) ∧ ((p = s.size ∧ e = .returned (.agg #[.int .i64 0, .string ⟨#[]⟩]) ∧ Sc R w' g s p p) ∨ (p < s.size ∧ ∃ kd x a, Rf.ptk s.data.toList p = some (kd, x, a) ∧ e = .returned (.agg #[.int .i64 (kd : Int), .string ⟨x.toArray⟩]) ∧ Sc R w' g s a p) ∨ (p < s.size ∧ Rf.ptk s.data.toList p = none ∧ e = faultAt p)) := by
  obtain ⟨l, hl⟩ : ∃ l, s.data.toList = l := ⟨_, rfl⟩
  have hll : l.length = s.size := by rw [← hl]; simp
  have hgl := h.lt
  obtain ⟨W1, hW1⟩ : ∃ W1, w.alloc (.cells #[.int .i64 0, .string ⟨#[]⟩] 51) = W1 := ⟨_, rfl⟩
  have hr1 : W1.heap[w.heap.size]? = some (.cells #[.int .i64 0, .string ⟨#[]⟩] 51 (0, 0)) := by rw [← hW1]; exact heap_alloc_at _ _
  have hb1 : Below w.heap.size w W1 := by rw [← hW1]; exact (Below.refl _ _).alloc (Nat.le_refl _) _
  have hs1 : w.heap.size < W1.heap.size := by rw [← hW1]; simp
  have S1 := mkHid (h.below hb1)
  have G1 := mkHid (grown_below (r := some g) hb1)
  have HW1 := mkHid hW1
  have Hl := mkHid hl
  rw [hl]
  have kE := mkHid (scEnded g s p p W1 S1.out)
  clear h hW1 hb1 hl
  by_cases hlt : p < s.size
  · rw [show ((p : Int) == (s.size : Int)) = false from by simp; omega] at kE
    have hpI : (p : Int) < (s.size : Int) := by omega
    have hbp : s[p] = Pl.b l p := by rw [← Hl.out]; exact (Pl.b_lt _ p (by simpa using hlt)).symm
    have h8 : s[p].toNat < 256 := UInt8.toNat_lt _
    go_enter Tryz.func53, Tryz.ntmps53
    go_wp2_with (go_at_call 72; fail)
    rw [HW1.out]
    refine kE.out.mono ?_
    rintro e w2 ⟨rfl, hb2⟩
    have S2 := mkHid (S1.out.below hb2)
    have G2 := mkHid (grown_trans G1.out (grown_below (r := some g) hb2))
    have hr2 := (hb2.block w.heap.size hs1).trans hr1
    have hs2 : w.heap.size < w2.heap.size := Nat.lt_of_lt_of_le hs1 hb2.size
    clear kE hb2 S1 G1 HW1 hr1
    have c0 := S2.out.c0
    have c1 := S2.out.c1
    have kD := mkHid (fun W => implDig s[p] W)
    have kL := mkHid (fun W => kindLow.calls s[p] W)
    generalize hsk : s[p] = c at *
    replace hbp := mkHid hbp
    go_wp2
    go_quiet (fail)
    have bN : Below w2.heap.size w2 (w2.drewN nq) := below_drewN (Below.refl _ _) nq
    obtain ⟨V, hV⟩ : ∃ V, w2.drewN nq = V := ⟨_, rfl⟩
    rw [hV] at bN ⊢
    have S3 := mkHid (S2.out.below bN)
    have G3 := mkHid (grown_trans G2.out (grown_below (r := some g) bN))
    have hr3 := (bN.block w.heap.size hs2).trans hr2
    have hs3 : w.heap.size < V.heap.size := Nat.lt_of_lt_of_le hs2 bN.size
    clear c0 c1 S2 G2 hr2 bN hV
    by_cases h34 : c = 34
    · have hpt : Hid (Rf.ptk l p = match Rf.qd (l.drop (p + 1)) with | some (t, k) => if t.length ≤ 1000 then some (3, t, p + 1 + k) else none | none => none) := by
        show _ = _
        unfold Rf.ptk
        rw [← hbp.out, h34]
        rfl
      have kQ := mkHid (scQuotedText g s p p V hs hlt S3.out)
      rw [Hl.out] at kQ
      clear hbp
      subst h34
      rw [show (((34 : UInt8).toNat : Nat) : Int) = 34 from rfl]
      go_wp2_with (go_at_call 74; fail)
      refine kQ.out.mono ?_
      rintro e w4 ⟨g4, ⟨t, k, hq, ht, rfl, s4⟩ | ⟨hq, rfl⟩⟩
      · have hr4 := (g4.block w.heap.size hs3 (by simp; omega)).trans hr3
        have S4 := mkHid s4
        have G4 := mkHid (grown_trans G3.out g4)
        have hres : Hid (Rf.ptk l p = some (3, t, p + 1 + k)) := by
          show _ = _
          rw [hpt.out, hq]
          exact if_pos ht
        clear g4 s4 kQ hpt hq
        go_wp2_with (first | (refine wpL_store_row rfl 51 _ _ rfl w.heap.size #[.int .i64 3, .string ⟨t.toArray⟩] rfl rfl 51 _ hr4 (by kernel_rfl) rfl (by simp [Value.oneCell']) ?_) | go_in)
        refine bodyPost_ret (v := .agg #[.int .i64 3, .string ⟨t.toArray⟩]) (results_cell_row Tryz.results53 _ _ w.heap.size 51 _ (0, 0) _ rfl (setRow_heap _ _ _ _ _ _ hr4) Tryz.underlying51 rfl (by kernel_rfl)) rfl ?_
        exact ⟨grown_new G4.out (grown_setRow _ _ _) (Nat.le_refl _), .inr (.inl ⟨hlt, _, _, _, hres.out, rfl, S4.out.grown (grown_setRow _ _ _) (by omega)⟩)⟩
      · refine ⟨rfl, grown_trans G3.out g4, .inr (.inr ⟨hlt, ?_, rfl⟩)⟩
        rw [hpt.out]
        cases hqd : Rf.qd (l.drop (p + 1)) with
        | none => rfl
        | some y => exact if_neg (hq y.1 y.2 hqd)
    · have n34 : ((c.toNat : Int) == 34) = false := by
        rw [beq_eq_false_iff_ne]
        intro e
        exact h34 (UInt8.toNat_inj.1 (by have : (34 : UInt8).toNat = 34 := rfl; omega))
      have e34 : (Pl.b l p == 34) = false := by rw [← hbp.out]; simpa using h34
      cases hdg : Rf.digK c
      · have ed : Rf.digK (Pl.b l p) = false := by rw [← hbp.out]; exact hdg
        rw [hdg] at kD
        cases hlo : Rf.lowK c
        · have el : Rf.lowK (Pl.b l p) = false := by rw [← hbp.out]; exact hlo
          rw [hlo] at kL
          have kN := mkHid (fun (W : World) (h : Sc R W g s p p) => scNextYes g s p p W hs h hlt)
          rw [hsk] at kN
          go_wp2_with (go_at_call 75; fail)
          refine (kD.out _).mono ?_
          rintro e w4 ⟨rfl, rfl⟩
          go_wp2_with (go_at_call 77; fail)
          refine (kL.out _).mono ?_
          rintro e w5 ⟨rfl, rfl⟩
          go_wp2_with (go_at_call 78; fail)
          refine (kN.out _ S3.out).mono ?_
          rintro e w6 ⟨rfl, s6, g6⟩
          have hr6 := (g6.block w.heap.size hs3 (by simp; omega)).trans hr3
          have G6 := mkHid (grown_trans G3.out g6)
          have hs6 : w.heap.size < w6.heap.size := heap_ltM hr6
          have S6 := mkHid s6
          clear s6 g6 kN kD kL
          by_cases h58 : c = 58
          · have hle := Pl.stop_le Rf.lowK l (p + 1) (by omega)
            have hge := Pl.stop_ge Rf.lowK l (p + 1) (by omega)
            have hres0 : Hid (Rf.ptk l p = some (1, Rf.cut l p (Pl.stop Rf.lowK l (p + 1)), Pl.stop Rf.lowK l (p + 1))) := by
              show _ = _
              unfold Rf.ptk
              rw [e34, ed, el, ← hbp.out, h58]
              rfl
            have kP := mkHid (scPass kindLow g s (p + 1) p w6 hs (by omega) S6.out)
            rw [Hl.out] at kP
            obtain ⟨q, hq⟩ : ∃ q, Pl.stop Rf.lowK l (p + 1) = q := ⟨_, rfl⟩
            rw [hq] at kP hres0 hle hge
            have hcut : Hid (Rf.ptk l p = some (1, Rf.cut l p q, q) ∧ (⟨(Rf.cut l p q).toArray⟩ : ByteArray) = s.extract p q) := ⟨hres0.out, by rw [← Hl.out]; exact ba_cut s p q⟩
            clear hq hbp e34 ed el hres0
            subst h58
            rw [show (((58 : UInt8).toNat : Nat) : Int) = 58 from rfl]
            go_wp2_with (go_at_call 70; fail)
            refine kP.out.mono ?_
            rintro e w7 ⟨rfl, s7, g7⟩
            have hr7 := (g7.block w.heap.size hs6 (by simp; omega)).trans hr6
            have G7 := mkHid (grown_trans G6.out g7)
            have S7 := mkHid s7
            clear s7 g7 kP S6 G6 hr6
            go_wp2
            have hS : w7.cell? ⟨g, 0, none⟩ = some (.string s) ∧ w7.cell? ⟨g, 2, none⟩ = some (.int .i64 (p : Int)) ∧ w7.cell? ⟨g, 1, none⟩ = some (.int .i64 ((q : Nat) : Int)) := ⟨S7.out.c0, S7.out.c2, S7.out.c1⟩
            have f1 : (((q : Nat)) : Int) ≤ (s.size : Int) := by omega
            have f2 : (p : Int) ≤ ((q : Nat) : Int) := by omega
            have f3 : decide ((p : Int) ≤ ((q : Nat) : Int)) = true := decide_eq_true f2
            refine wp_region_held (S := fun w => w.cell? ⟨g, 0, none⟩ = some (.string s) ∧ w.cell? ⟨g, 2, none⟩ = some (.int .i64 (p : Int)) ∧ w.cell? ⟨g, 1, none⟩ = some (.int .i64 ((q : Nat) : Int))) (by kernel_rfl) ?_
            refine wpAnyH_take (i := 0) (v := scp g) rfl (by kernel_rfl) (by kernel_rfl) (by kernel_rfl) (fun _ _ _ h => h) (Or.inl ⟨by rfl, ?_⟩) hS ?_
            · rintro w ⟨s1, s2, s3⟩
              go_simp
              all_goals first | done | (intro h; exfalso; omega) | omega
            go_simp
            refine wpAnyH_take (i := 1) (v := .pointer (some ⟨g, 0, none⟩)) rfl (by kernel_rfl) (by kernel_rfl) (by kernel_rfl) (fun _ _ _ h => h) (Or.inl ⟨by rfl, ?_⟩) hS ?_
            · rintro w ⟨s1, s2, s3⟩
              go_simp
              all_goals first | done | (intro h; exfalso; omega) | omega
            go_simp
            refine wpAnyH_take (i := 2) (v := .pointer (some ⟨g, 0, none⟩)) rfl (by kernel_rfl) (by kernel_rfl) (by kernel_rfl) (fun _ _ _ h => h) (Or.inl ⟨by rfl, ?_⟩) hS ?_
            · rintro w ⟨s1, s2, s3⟩
              go_simp
              all_goals first | done | (intro h; exfalso; omega) | omega
            go_simp
            refine wpAnyH_take (i := 3) (v := .pointer (some ⟨g, 0, none⟩)) rfl (by kernel_rfl) (by kernel_rfl) (by kernel_rfl) (fun _ _ _ h => h) (Or.inl ⟨by rfl, ?_⟩) hS ?_
            · rintro w ⟨s1, s2, s3⟩
              go_simp
              all_goals first | done | (intro h; exfalso; omega) | omega
            go_simp
            refine wpAnyH_take (i := 4) (v := .string s) rfl (by kernel_rfl) (by kernel_rfl) (by kernel_rfl) (fun _ _ _ h => h) (Or.inl ⟨by rfl, ?_⟩) hS ?_
            · rintro w ⟨s1, s2, s3⟩
              go_simp
              all_goals first | done | (intro h; exfalso; omega) | omega
            go_simp
            refine wpAnyH_take (i := 5) (v := scp g) rfl (by kernel_rfl) (by kernel_rfl) (by kernel_rfl) (fun _ _ _ h => h) (Or.inl ⟨by rfl, ?_⟩) hS ?_
            · rintro w ⟨s1, s2, s3⟩
              go_simp
              all_goals first | done | (intro h; exfalso; omega) | omega
            go_simp
            refine wpAnyH_take (i := 6) (v := .pointer (some ⟨g, 0, none⟩)) rfl (by kernel_rfl) (by kernel_rfl) (by kernel_rfl) (fun _ _ _ h => h) (Or.inl ⟨by rfl, ?_⟩) hS ?_
            · rintro w ⟨s1, s2, s3⟩
              go_simp
              all_goals first | done | (intro h; exfalso; omega) | omega
            go_simp
            refine wpAnyH_take (i := 7) (v := .pointer (some ⟨g, 0, none⟩)) rfl (by kernel_rfl) (by kernel_rfl) (by kernel_rfl) (fun _ _ _ h => h) (Or.inl ⟨by rfl, ?_⟩) hS ?_
            · rintro w ⟨s1, s2, s3⟩
              go_simp
              all_goals first | done | (intro h; exfalso; omega) | omega
            go_simp
            refine wpAnyH_take (i := 8) (v := .pointer (some ⟨g, 2, none⟩)) rfl (by kernel_rfl) (by kernel_rfl) (by kernel_rfl) (fun _ _ _ h => h) (Or.inl ⟨by rfl, ?_⟩) hS ?_
            · rintro w ⟨s1, s2, s3⟩
              go_simp
              all_goals first | done | (intro h; exfalso; omega) | omega
            go_simp
            refine wpAnyH_take (i := 9) (v := .int .i64 (p : Int)) rfl (by kernel_rfl) (by kernel_rfl) (by kernel_rfl) (fun _ _ _ h => h) (Or.inl ⟨by rfl, ?_⟩) hS ?_
            · rintro w ⟨s1, s2, s3⟩
              go_simp
              all_goals first | done | (intro h; exfalso; omega) | omega
            go_simp
            refine wpAnyH_take (i := 10) (v := scp g) rfl (by kernel_rfl) (by kernel_rfl) (by kernel_rfl) (fun _ _ _ h => h) (Or.inl ⟨by rfl, ?_⟩) hS ?_
            · rintro w ⟨s1, s2, s3⟩
              go_simp
              all_goals first | done | (intro h; exfalso; omega) | omega
            go_simp
            refine wpAnyH_take (i := 11) (v := .pointer (some ⟨g, 0, none⟩)) rfl (by kernel_rfl) (by kernel_rfl) (by kernel_rfl) (fun _ _ _ h => h) (Or.inl ⟨by rfl, ?_⟩) hS ?_
            · rintro w ⟨s1, s2, s3⟩
              go_simp
              all_goals first | done | (intro h; exfalso; omega) | omega
            go_simp
            refine wpAnyH_take (i := 12) (v := .pointer (some ⟨g, 0, none⟩)) rfl (by kernel_rfl) (by kernel_rfl) (by kernel_rfl) (fun _ _ _ h => h) (Or.inl ⟨by rfl, ?_⟩) hS ?_
            · rintro w ⟨s1, s2, s3⟩
              go_simp
              all_goals first | done | (intro h; exfalso; omega) | omega
            go_simp
            refine wpAnyH_take (i := 13) (v := .pointer (some ⟨g, 1, none⟩)) rfl (by kernel_rfl) (by kernel_rfl) (by kernel_rfl) (fun _ _ _ h => h) (Or.inl ⟨by rfl, ?_⟩) hS ?_
            · rintro w ⟨s1, s2, s3⟩
              go_simp
              all_goals first | done | (intro h; exfalso; omega) | omega
            go_simp
            refine wpAnyH_take (i := 14) (v := .int .i64 ((q : Nat) : Int)) rfl (by kernel_rfl) (by kernel_rfl) (by kernel_rfl) (fun _ _ _ h => h) (Or.inl ⟨by rfl, ?_⟩) hS ?_
            · rintro w ⟨s1, s2, s3⟩
              go_simp
              all_goals first | done | (intro h; exfalso; omega) | omega
            go_simp
            refine wpAnyH_take (i := 15) (v := .string (s.extract p q)) rfl (by kernel_rfl) (by kernel_rfl) (by kernel_rfl) (fun _ _ _ h => h) (Or.inl ⟨by rfl, ?_⟩) hS ?_
            · rintro w ⟨s1, s2, s3⟩
              go_simp
              all_goals first | done | (intro h; exfalso; omega) | omega
            go_simp
            refine wpAnyH_take (i := 16) (v := .agg #[.int .i64 1, .string (s.extract p q)]) rfl (by kernel_rfl) (by kernel_rfl) (by kernel_rfl) (fun _ _ _ h => h) (Or.inl ⟨by rfl, ?_⟩) hS ?_
            · rintro w ⟨s1, s2, s3⟩
              go_simp
              all_goals first | done | (intro h; exfalso; omega) | omega
            go_simp
            refine wpAnyH_all (rs := [17]) (by kernel_rfl) (by simp) ?_
            intro k hk
            simp only [List.mem_cons, List.not_mem_nil, or_false] at hk
            subst hk
            refine wpOp_step rfl (fun K hK => ?_)
            refine wp_store_row 51 _ _ rfl w.heap.size #[.int .i64 1, .string (s.extract p q)] rfl rfl 51 _ hr7 (by kernel_rfl) rfl (by simp [Value.oneCell']) ?_
            refine hK _ _ ⟨?_, ?_⟩
            · have kp : ∀ (n : Nat) (x : Value), w7.cell? ⟨g, n, none⟩ = some x → (w7.setRow w.heap.size #[.int .i64 1, .string (s.extract p q)]).cell? ⟨g, n, none⟩ = some x := fun n x hx => (World.cell?_of_block (a := ⟨g, n, none⟩) ((grown_setRow w7 w.heap.size _).block g (World.block_lt_of_cell? _ _ hx) (by simp; omega))).trans hx
              exact ⟨kp 0 _ hS.1, kp 2 _ hS.2.1, kp 1 _ hS.2.2⟩
            clear hK K
            go_simp
            refine wpAnyH_done (by kernel_rfl) ?_ _
            go_wp2
            refine bodyPost_ret (v := .agg #[.int .i64 1, .string (s.extract p q)]) (results_cell_row Tryz.results53 _ _ w.heap.size 51 _ (0, 0) _ rfl (setRow_heap _ _ _ _ _ _ hr7) Tryz.underlying51 rfl (by kernel_rfl)) rfl ?_
            have bD : Below w7.heap.size w7 w7.drew := below_drew (Below.refl _ _)
            exact ⟨grown_new (grown_trans G7.out (grown_below bD)) (grown_setRow _ _ _) (Nat.le_refl _), .inr (.inl ⟨hlt, _, _, _, hcut.out.1, by rw [hcut.out.2]; rfl, (S7.out.below bD).grown (grown_setRow _ _ _) (by omega)⟩)⟩
          · have n58 : ((c.toNat : Int) == 58) = false := by
              rw [beq_eq_false_iff_ne]
              intro e
              exact h58 (UInt8.toNat_inj.1 (by have : (58 : UInt8).toNat = 58 := rfl; omega))
            have hcut : Hid (Rf.ptk l p = some (1, [c], p + 1) ∧ (⟨[c].toArray⟩ : ByteArray) = s.extract p (p + 1)) := by
              refine ⟨?_, ?_⟩
              · unfold Rf.ptk
                rw [e34, ed, el, ← hbp.out, show (c == 58) = false from by simpa using h58]
                rfl
              · rw [← ba_cut, Hl.out, Rf.cut_cons l p (p + 1) (by omega) (by omega), ← hbp.out]
                have : Rf.cut l (p + 1) (p + 1) = [] := List.eq_nil_of_length_eq_zero (by rw [Rf.cut_exact l _ _ (by omega)]; omega)
                rw [this]
            clear hbp e34 ed el h58
            go_wp2
            obtain ⟨q, hq⟩ : ∃ q, p + 1 = q := ⟨_, rfl⟩
            rw [hq] at S6 hcut
            have hge : p + 1 ≤ q := by omega
            have hle : q ≤ s.size := by omega
            clear hq
            have hS : w6.cell? ⟨g, 0, none⟩ = some (.string s) ∧ w6.cell? ⟨g, 2, none⟩ = some (.int .i64 (p : Int)) ∧ w6.cell? ⟨g, 1, none⟩ = some (.int .i64 ((q : Nat) : Int)) := ⟨S6.out.c0, S6.out.c2, S6.out.c1⟩
            have f1 : (((q : Nat)) : Int) ≤ (s.size : Int) := by omega
            have f2 : (p : Int) ≤ ((q : Nat) : Int) := by omega
            have f3 : decide ((p : Int) ≤ ((q : Nat) : Int)) = true := decide_eq_true f2
            refine wp_region_held (S := fun w => w.cell? ⟨g, 0, none⟩ = some (.string s) ∧ w.cell? ⟨g, 2, none⟩ = some (.int .i64 (p : Int)) ∧ w.cell? ⟨g, 1, none⟩ = some (.int .i64 ((q : Nat) : Int))) (by kernel_rfl) ?_
            refine wpAnyH_take (i := 0) (v := scp g) rfl (by kernel_rfl) (by kernel_rfl) (by kernel_rfl) (fun _ _ _ h => h) (Or.inl ⟨by rfl, ?_⟩) hS ?_
            · rintro w ⟨s1, s2, s3⟩
              go_simp
              all_goals first | done | (intro h; exfalso; omega) | omega
            go_simp
            refine wpAnyH_take (i := 1) (v := .pointer (some ⟨g, 0, none⟩)) rfl (by kernel_rfl) (by kernel_rfl) (by kernel_rfl) (fun _ _ _ h => h) (Or.inl ⟨by rfl, ?_⟩) hS ?_
            · rintro w ⟨s1, s2, s3⟩
              go_simp
              all_goals first | done | (intro h; exfalso; omega) | omega
            go_simp
            refine wpAnyH_take (i := 2) (v := .pointer (some ⟨g, 0, none⟩)) rfl (by kernel_rfl) (by kernel_rfl) (by kernel_rfl) (fun _ _ _ h => h) (Or.inl ⟨by rfl, ?_⟩) hS ?_
            · rintro w ⟨s1, s2, s3⟩
              go_simp
              all_goals first | done | (intro h; exfalso; omega) | omega
            go_simp
            refine wpAnyH_take (i := 3) (v := .pointer (some ⟨g, 0, none⟩)) rfl (by kernel_rfl) (by kernel_rfl) (by kernel_rfl) (fun _ _ _ h => h) (Or.inl ⟨by rfl, ?_⟩) hS ?_
            · rintro w ⟨s1, s2, s3⟩
              go_simp
              all_goals first | done | (intro h; exfalso; omega) | omega
            go_simp
            refine wpAnyH_take (i := 4) (v := .string s) rfl (by kernel_rfl) (by kernel_rfl) (by kernel_rfl) (fun _ _ _ h => h) (Or.inl ⟨by rfl, ?_⟩) hS ?_
            · rintro w ⟨s1, s2, s3⟩
              go_simp
              all_goals first | done | (intro h; exfalso; omega) | omega
            go_simp
            refine wpAnyH_take (i := 5) (v := scp g) rfl (by kernel_rfl) (by kernel_rfl) (by kernel_rfl) (fun _ _ _ h => h) (Or.inl ⟨by rfl, ?_⟩) hS ?_
            · rintro w ⟨s1, s2, s3⟩
              go_simp
              all_goals first | done | (intro h; exfalso; omega) | omega
            go_simp
            refine wpAnyH_take (i := 6) (v := .pointer (some ⟨g, 0, none⟩)) rfl (by kernel_rfl) (by kernel_rfl) (by kernel_rfl) (fun _ _ _ h => h) (Or.inl ⟨by rfl, ?_⟩) hS ?_
            · rintro w ⟨s1, s2, s3⟩
              go_simp
              all_goals first | done | (intro h; exfalso; omega) | omega
            go_simp
            refine wpAnyH_take (i := 7) (v := .pointer (some ⟨g, 0, none⟩)) rfl (by kernel_rfl) (by kernel_rfl) (by kernel_rfl) (fun _ _ _ h => h) (Or.inl ⟨by rfl, ?_⟩) hS ?_
            · rintro w ⟨s1, s2, s3⟩
              go_simp
              all_goals first | done | (intro h; exfalso; omega) | omega
            go_simp
            refine wpAnyH_take (i := 8) (v := .pointer (some ⟨g, 2, none⟩)) rfl (by kernel_rfl) (by kernel_rfl) (by kernel_rfl) (fun _ _ _ h => h) (Or.inl ⟨by rfl, ?_⟩) hS ?_
            · rintro w ⟨s1, s2, s3⟩
              go_simp
              all_goals first | done | (intro h; exfalso; omega) | omega
            go_simp
            refine wpAnyH_take (i := 9) (v := .int .i64 (p : Int)) rfl (by kernel_rfl) (by kernel_rfl) (by kernel_rfl) (fun _ _ _ h => h) (Or.inl ⟨by rfl, ?_⟩) hS ?_
            · rintro w ⟨s1, s2, s3⟩
              go_simp
              all_goals first | done | (intro h; exfalso; omega) | omega
            go_simp
            refine wpAnyH_take (i := 10) (v := scp g) rfl (by kernel_rfl) (by kernel_rfl) (by kernel_rfl) (fun _ _ _ h => h) (Or.inl ⟨by rfl, ?_⟩) hS ?_
            · rintro w ⟨s1, s2, s3⟩
              go_simp
              all_goals first | done | (intro h; exfalso; omega) | omega
            go_simp
            refine wpAnyH_take (i := 11) (v := .pointer (some ⟨g, 0, none⟩)) rfl (by kernel_rfl) (by kernel_rfl) (by kernel_rfl) (fun _ _ _ h => h) (Or.inl ⟨by rfl, ?_⟩) hS ?_
            · rintro w ⟨s1, s2, s3⟩
              go_simp
              all_goals first | done | (intro h; exfalso; omega) | omega
            go_simp
            refine wpAnyH_take (i := 12) (v := .pointer (some ⟨g, 0, none⟩)) rfl (by kernel_rfl) (by kernel_rfl) (by kernel_rfl) (fun _ _ _ h => h) (Or.inl ⟨by rfl, ?_⟩) hS ?_
            · rintro w ⟨s1, s2, s3⟩
              go_simp
              all_goals first | done | (intro h; exfalso; omega) | omega
            go_simp
            refine wpAnyH_take (i := 13) (v := .pointer (some ⟨g, 1, none⟩)) rfl (by kernel_rfl) (by kernel_rfl) (by kernel_rfl) (fun _ _ _ h => h) (Or.inl ⟨by rfl, ?_⟩) hS ?_
            · rintro w ⟨s1, s2, s3⟩
              go_simp
              all_goals first | done | (intro h; exfalso; omega) | omega
            go_simp
            refine wpAnyH_take (i := 14) (v := .int .i64 ((q : Nat) : Int)) rfl (by kernel_rfl) (by kernel_rfl) (by kernel_rfl) (fun _ _ _ h => h) (Or.inl ⟨by rfl, ?_⟩) hS ?_
            · rintro w ⟨s1, s2, s3⟩
              go_simp
              all_goals first | done | (intro h; exfalso; omega) | omega
            go_simp
            refine wpAnyH_take (i := 15) (v := .string (s.extract p q)) rfl (by kernel_rfl) (by kernel_rfl) (by kernel_rfl) (fun _ _ _ h => h) (Or.inl ⟨by rfl, ?_⟩) hS ?_
            · rintro w ⟨s1, s2, s3⟩
              go_simp
              all_goals first | done | (intro h; exfalso; omega) | omega
            go_simp
            refine wpAnyH_take (i := 16) (v := .agg #[.int .i64 1, .string (s.extract p q)]) rfl (by kernel_rfl) (by kernel_rfl) (by kernel_rfl) (fun _ _ _ h => h) (Or.inl ⟨by rfl, ?_⟩) hS ?_
            · rintro w ⟨s1, s2, s3⟩
              go_simp
              all_goals first | done | (intro h; exfalso; omega) | omega
            go_simp
            refine wpAnyH_all (rs := [17]) (by kernel_rfl) (by simp) ?_
            intro k hk
            simp only [List.mem_cons, List.not_mem_nil, or_false] at hk
            subst hk
            refine wpOp_step rfl (fun K hK => ?_)
            refine wp_store_row 51 _ _ rfl w.heap.size #[.int .i64 1, .string (s.extract p q)] rfl rfl 51 _ hr6 (by kernel_rfl) rfl (by simp [Value.oneCell']) ?_
            refine hK _ _ ⟨?_, ?_⟩
            · have kp : ∀ (n : Nat) (x : Value), w6.cell? ⟨g, n, none⟩ = some x → (w6.setRow w.heap.size #[.int .i64 1, .string (s.extract p q)]).cell? ⟨g, n, none⟩ = some x := fun n x hx => (World.cell?_of_block (a := ⟨g, n, none⟩) ((grown_setRow w6 w.heap.size _).block g (World.block_lt_of_cell? _ _ hx) (by simp; omega))).trans hx
              exact ⟨kp 0 _ hS.1, kp 2 _ hS.2.1, kp 1 _ hS.2.2⟩
            clear hK K
            go_simp
            refine wpAnyH_done (by kernel_rfl) ?_ _
            go_wp2
            refine bodyPost_ret (v := .agg #[.int .i64 1, .string (s.extract p q)]) (results_cell_row Tryz.results53 _ _ w.heap.size 51 _ (0, 0) _ rfl (setRow_heap _ _ _ _ _ _ hr6) Tryz.underlying51 rfl (by kernel_rfl)) rfl ?_
            have bD : Below w6.heap.size w6 w6.drew := below_drew (Below.refl _ _)
            exact ⟨grown_new (grown_trans G6.out (grown_below bD)) (grown_setRow _ _ _) (Nat.le_refl _), .inr (.inl ⟨hlt, _, _, _, hcut.out.1, by rw [hcut.out.2]; rfl, (S6.out.below bD).grown (grown_setRow _ _ _) (by omega)⟩)⟩
        · have el : Rf.lowK (Pl.b l p) = true := by rw [← hbp.out]; exact hlo
          rw [hlo] at kL
          have kP := mkHid (scPass kindLow g s p p V hs hp S3.out)
          rw [Hl.out] at kP
          have hres0 : Rf.ptk l p = some (1, Rf.cut l p (Pl.stop Rf.lowK l p), Pl.stop Rf.lowK l p) := by
            unfold Rf.ptk
            rw [e34, ed, el]
            rfl
          obtain ⟨q, hq⟩ : ∃ q, Pl.stop Rf.lowK l p = q := ⟨_, rfl⟩
          rw [hq] at kP hres0
          have hres := mkHid hres0
          have hcut : Hid ((⟨(Rf.cut l p q).toArray⟩ : ByteArray) = s.extract p q) := by show _ = _; rw [← Hl.out]; exact ba_cut s p q
          clear hq hbp e34 ed el hres0
          go_wp2_with (go_at_call 75; fail)
          refine (kD.out _).mono ?_
          rintro e w4 ⟨rfl, rfl⟩
          go_wp2_with (go_at_call 77; fail)
          refine (kL.out _).mono ?_
          rintro e w5 ⟨rfl, rfl⟩
          go_wp2_with (go_at_call 70; fail)
          refine kP.out.mono ?_
          rintro e w7 ⟨rfl, s4, g4⟩
          have hr4 := (g4.block w.heap.size hs3 (by simp; omega)).trans hr3
          have S4 := mkHid s4
          have G4 := mkHid (grown_trans G3.out g4)
          rw [← hcut.out]
          clear g4 s4 kP
          go_wp2_with (first | (refine wpL_store_row rfl 51 _ _ rfl w.heap.size #[.int .i64 1, .string ⟨(Rf.cut l p q).toArray⟩] rfl rfl 51 _ hr4 (by kernel_rfl) rfl (by simp [Value.oneCell']) ?_) | go_in)
          refine bodyPost_ret (v := .agg #[.int .i64 1, .string ⟨(Rf.cut l p q).toArray⟩]) (results_cell_row Tryz.results53 _ _ w.heap.size 51 _ (0, 0) _ rfl (setRow_heap _ _ _ _ _ _ hr4) Tryz.underlying51 rfl (by kernel_rfl)) rfl ?_
          exact ⟨grown_new G4.out (grown_setRow _ _ _) (Nat.le_refl _), .inr (.inl ⟨hlt, _, _, _, hres.out, rfl, S4.out.grown (grown_setRow _ _ _) (by omega)⟩)⟩
      · have ed : Rf.digK (Pl.b l p) = true := by rw [← hbp.out]; exact hdg
        rw [hdg] at kD
        have kP := mkHid (scDigits g s p p V hs hp S3.out)
        rw [Hl.out] at kP
        have hres0 : Rf.ptk l p = if Pl.stop Rf.digK l p - p ≤ 9 then some (2, Rf.cut l p (Pl.stop Rf.digK l p), Pl.stop Rf.digK l p) else none := by
          unfold Rf.ptk
          rw [e34, ed]
          rfl
        obtain ⟨q, hq⟩ : ∃ q, Pl.stop Rf.digK l p = q := ⟨_, rfl⟩
        rw [hq] at kP hres0
        have Hres := mkHid hres0
        have hcut : Hid ((⟨(Rf.cut l p q).toArray⟩ : ByteArray) = s.extract p q) := by show _ = _; rw [← Hl.out]; exact ba_cut s p q
        clear hq hbp e34 ed hres0 kL
        go_wp2_with (go_at_call 75; fail)
        refine (kD.out _).mono ?_
        rintro e w4 ⟨rfl, rfl⟩
        go_wp2_with (go_at_call 76; fail)
        refine kP.out.mono ?_
        rintro e w7 ⟨g4, ⟨h9, rfl, s4⟩ | ⟨h9, rfl⟩⟩
        · have hr4 := (g4.block w.heap.size hs3 (by simp; omega)).trans hr3
          have S4 := mkHid s4
          have G4 := mkHid (grown_trans G3.out g4)
          have hres : Hid (Rf.ptk l p = some (2, Rf.cut l p q, q)) := by show _ = _; rw [Hres.out, if_pos h9]
          rw [← hcut.out]
          clear g4 s4 kP
          go_wp2_with (first | (refine wpL_store_row rfl 51 _ _ rfl w.heap.size #[.int .i64 2, .string ⟨(Rf.cut l p q).toArray⟩] rfl rfl 51 _ hr4 (by kernel_rfl) rfl (by simp [Value.oneCell']) ?_) | go_in)
          refine bodyPost_ret (v := .agg #[.int .i64 2, .string ⟨(Rf.cut l p q).toArray⟩]) (results_cell_row Tryz.results53 _ _ w.heap.size 51 _ (0, 0) _ rfl (setRow_heap _ _ _ _ _ _ hr4) Tryz.underlying51 rfl (by kernel_rfl)) rfl ?_
          exact ⟨grown_new G4.out (grown_setRow _ _ _) (Nat.le_refl _), .inr (.inl ⟨hlt, _, _, _, hres.out, rfl, S4.out.grown (grown_setRow _ _ _) (by omega)⟩)⟩
        · exact ⟨rfl, grown_trans G3.out g4, .inr (.inr ⟨hlt, by rw [Hres.out, if_neg h9], rfl⟩)⟩
  · rw [show ((p : Int) == (s.size : Int)) = true from by simp; omega] at kE
    go_enter Tryz.func53, Tryz.ntmps53
    go_wp2_with (go_at_call 72; fail)
    rw [HW1.out]
    refine kE.out.mono ?_
    rintro e w2 ⟨rfl, hb2⟩
    have S4 := mkHid (S1.out.below hb2)
    have G4 := mkHid (grown_trans G1.out (grown_below (r := some g) hb2))
    have hr2 := (hb2.block w.heap.size hs1).trans hr1
    clear kE hb2 S1 G1 HW1 hr1
    go_wp2_with (first | (refine wpL_store_row rfl 51 _ _ rfl w.heap.size #[.int .i64 0, .string ⟨#[]⟩] rfl rfl 51 _ hr2 (by kernel_rfl) rfl (by simp [Value.oneCell']) ?_) | go_in)
    refine bodyPost_ret (v := .agg #[.int .i64 0, .string ⟨#[]⟩]) (results_cell_row Tryz.results53 _ _ w.heap.size 51 _ (0, 0) _ rfl (setRow_heap _ _ _ _ _ _ hr2) Tryz.underlying51 rfl (by kernel_rfl)) rfl ?_
    exact ⟨grown_new G4.out (grown_setRow _ _ _) (Nat.le_refl _), .inl ⟨by omega, rfl, S4.out.grown (grown_setRow _ _ _) (by omega)⟩⟩
end Go.Proofs.YtlphojaeaogehaaGreatDoor
namespace Go.Proofs.YtlphojaeaogehaaGreatDoor
open Go.RowKit Go.Lib
/-- What lies behind the scanner: the token that is looked at, the nodes. -/
abbrev prR (kd : Nat) (x : ByteArray) (v : Value) : List Value × TypeId := ([.int .i64 (kd : Int), .string x, v], 53)
section
variable {w : World} {g : Nat} {s : ByteArray} {a b kd : Nat} {x : ByteArray} {v : Value}
set_option maxRecDepth 20000 in
theorem Sc.c3 (h : Sc (prR kd x v) w g s a b) : w.cell? ⟨g, 3, none⟩ = some (.int .i64 (kd : Int)) := by simp [World.cell?, h.blk]
set_option maxRecDepth 20000 in
theorem Sc.c4 (h : Sc (prR kd x v) w g s a b) : w.cell? ⟨g, 4, none⟩ = some (.string x) := by simp [World.cell?, h.blk]
set_option maxRecDepth 20000 in
theorem Sc.c5 (h : Sc (prR kd x v) w g s a b) : w.cell? ⟨g, 5, none⟩ = some v := by simp [World.cell?, h.blk]
set_option maxRecDepth 20000 in
theorem Sc.fz (h : Sc (prR kd x v) w g s a b) (j : Nat) : w.frozen? ⟨g, j, none⟩ = false := by simp [World.frozen?, h.blk]
set_option maxRecDepth 20000 in
theorem Sc.tok (h : Sc (prR kd x v) w g s a b) (kd' : Nat) (x' : ByteArray) : Sc (prR kd' x' v) ((w.setCell ⟨g, 3, none⟩ (.int .i64 (kd' : Int))).setCell ⟨g, 4, none⟩ (.string x')) g s a b :=
  ⟨by simp [World.setCell, Array.getElem?_modify, h.blk]⟩
set_option maxRecDepth 20000 in
theorem Sc.nodes (h : Sc (prR kd x v) w g s a b) (v' : Value) : Sc (prR kd x v') (w.setCell ⟨g, 5, none⟩ v') g s a b :=
  ⟨by simp [World.setCell, Array.getElem?_modify, h.blk]⟩
end
set_option maxRecDepth 20000 in
set_option maxHeartbeats 4000000 in
theorem scAdvance (g : Nat) (s : ByteArray) (l : List UInt8) (T : List Rf.Tk) (a b kd m f : Nat) (x : ByteArray) (v : Value) (w : World) (hl : s.data.toList = l) (hs : s.size ≤ 100000) (ha : a ≤ s.size) (h : Sc (prR kd x v) w g s a b) (hf : l.length - a < f) (hT : T.drop m = Rf.toks l f a) :
    Calls Tryz.prog 34 #[scp g] w fun e w' => w.grownBy w' (some g) ∧ ((∃ kd' x' a', e = .returned (.tuple #[]) ∧ Sc (prR kd' ⟨x'.toArray⟩ v) w' g s a' (Rf.pos T m) ∧ Rf.Cur l T m kd' x' a') ∨ (m < T.length ∧ Rf.kind T m = 120 ∧ e = faultAt (Rf.pos T m))) := by
  have hll : l.length = s.size := by rw [← hl]; simp
  have kG := mkHid (scGap g s a b w hs ha h)
  rw [hl] at kG
  have hge := Rf.gap_ge l a
  have hgle := Rf.gap_le l a (by omega)
  have cE := mkHid (fun hg => Rf.cur_end (T := T) (m := m) hf hT hg hgle)
  have cN := mkHid (fun hg hp => Rf.cur_none (T := T) (m := m) hf hT hg hp)
  have cS := mkHid (fun hg kd x a' hp => Rf.cur_some (T := T) (m := m) (kd := kd) (x := x) (a := a') (by omega) hf hT hg hp)
  have Hl := mkHid hl
  clear h hT hl hf
  obtain ⟨p, hp⟩ : ∃ p, Rf.gap l a = p := ⟨_, rfl⟩
  rw [hp] at kG hge hgle cE cN cS
  clear hp
  go_enter Tryz.func34, Tryz.ntmps34
  go_wp2_with (go_at_call 52; fail)
  refine kG.out.mono ?_
  rintro e w1 ⟨rfl, s1, g1⟩
  have c1 := s1.c1
  have c2 := s1.c2
  have f2 := s1.f2
  have S2 := mkHid (s1.set2 (p : Int) p rfl)
  have G2 := mkHid (grown_trans g1 (grown_set w1 g 2 (.int .i64 (p : Int))))
  obtain ⟨W2, hW2⟩ : ∃ W2, w1.setCell ⟨g, 2, none⟩ (.int .i64 (p : Int)) = W2 := ⟨_, rfl⟩
  rw [hW2] at S2 G2
  have HW2 := mkHid hW2
  clear kG s1 g1 hW2
  have kN := mkHid (scNextToken g s p W2 hs (by omega) S2.out)
  rw [Hl.out] at kN
  go_wp2_with (go_at_call 53; fail)
  rw [HW2.out]
  refine kN.out.mono ?_
  clear c1 c2 f2 HW2
  rintro e w3 ⟨g3, ⟨hpe, rfl, s3⟩ | ⟨hpl, kd', x', a', hpt, rfl, s3⟩ | ⟨hpl, hpt, rfl⟩⟩
  · have c3 := s3.c3
    have c4 := s3.c4
    have f3 := s3.fz 3
    have f4 := s3.fz 4
    have S4 := mkHid (s3.tok 0 ⟨#[]⟩)
    have G4 := mkHid (grown_trans (grown_trans (grown_trans G2.out g3) (grown_set w3 g 3 (.int .i64 ((0 : Nat) : Int)))) (grown_set _ g 4 (.string ⟨#[]⟩)))
    have hcur := mkHid (cE.out (by omega))
    clear s3 g3
    go_wp2
    refine bodyPost_end (v := .tuple #[]) (results_none Tryz.results34 _ _ _) rfl ⟨G4.out, .inl ⟨0, [], p, rfl, ?_, hcur.out.1⟩⟩
    rw [hcur.out.2]
    exact S4.out
  · have c3 := s3.c3
    have c4 := s3.c4
    have f3 := s3.fz 3
    have f4 := s3.fz 4
    have S4 := mkHid (s3.tok kd' ⟨x'.toArray⟩)
    have G4 := mkHid (grown_trans (grown_trans (grown_trans G2.out g3) (grown_set w3 g 3 (.int .i64 (kd' : Int)))) (grown_set _ g 4 (.string ⟨x'.toArray⟩)))
    have hcur := mkHid (cS.out (by omega) kd' x' a' hpt)
    clear s3 g3 hpt
    go_wp2
    refine bodyPost_end (v := .tuple #[]) (results_none Tryz.results34 _ _ _) rfl ⟨G4.out, .inl ⟨kd', x', a', rfl, ?_, hcur.out.1⟩⟩
    rw [hcur.out.2]
    exact S4.out
  · obtain ⟨h1, h2, h3⟩ := cN.out (by omega) hpt
    exact ⟨rfl, grown_trans G2.out g3, .inr ⟨h1, h2, by rw [h3]⟩⟩
end Go.Proofs.YtlphojaeaogehaaGreatDoor
namespace Go.Proofs.YtlphojaeaogehaaGreatDoor
open Go.RowKit Go.Lib Go.Maps
/-- The reader looks at the n-th token, and has read the nodes E. -/
structure Ps (g : Nat) (s : ByteArray) (l : List UInt8) (T : List Rf.Tk) (n kd : Nat) (x : List UInt8) (a : Nat) (v : Value) (E : List NdE) (w : World) : Prop where
  sc : Sc (prR kd ⟨x.toArray⟩ v) w g s a (Rf.pos T n)
  cur : Rf.Cur l T n kd x a
  nt : Nt (g + 1) v E w
set_option maxRecDepth 20000 in
theorem Ef.of_grown {g : Nat} {w w' : World} (h : w.grownBy w' (some g)) : Ef g none w w' := ⟨h.os, h.tape, h.output, h.size, fun k hk hg _ => h.block k hk (by simpa using hg)⟩
set_option maxRecDepth 20000 in
theorem Nt.far {g : Nat} {v : Value} {E : List NdE} {w w' : World} (h : Nt (g + 1) v E w) (hg : w.grownBy w' (some g)) : Nt (g + 1) v E w' := by
  have key : ∀ (x : Value), (∀ k, x.ownBlock = some k → g + 1 ≤ k) → x.ownBlock = none ∨ x.ownBlock ≠ some g := by
    intro x hx
    cases ho : x.ownBlock with
    | none => exact .inl rfl
    | some k => exact .inr (by have := hx k ho; intro e; cases e; omega)
  refine h.grown hg (key _ fun k hk => (World.ownsRow.lt h.row k hk).1) (fun s hs => ?_) (fun s hs => ?_)
  · by_cases hn : s.2 = []
    · exact .inl hn
    · exact .inr (key _ fun k hk => (World.ownsRow.lt ((h.own s hs).2 hn) k hk).1)
  · by_cases hn : s.2 = []
    · exact .inl hn
    · exact .inr (key _ fun k hk => (World.ownsRow.lt ((h.ownN s hs).2 hn) k hk).1)
/-- The panic at the m-th token, which is none. -/
def Xf (T : List Rf.Tk) (m : Nat) (e : Ending) : Prop := m < T.length ∧ Rf.kind T m = 120 ∧ e = faultAt (Rf.pos T m)
section
variable {g : Nat} {s : ByteArray} {l : List UInt8} {T : List Rf.Tk} {n kd : Nat} {x : List UInt8} {a : Nat} {v : Value} {E : List NdE} {w : World}
set_option maxRecDepth 20000 in
theorem Ps.below {w' : World} (h : Ps g s l T n kd x a v E w) (hb : Below w.heap.size w w') : Ps g s l T n kd x a v E w' := ⟨h.sc.below hb, h.cur, h.nt.below hb⟩
set_option maxRecDepth 20000 in
theorem Ps.adv (h : Ps g s l T n kd x a v E w) (hl : s.data.toList = l) (hs : s.size ≤ 100000) (h1 : Rf.kind T n ≠ 101) (h2 : Rf.kind T n ≠ 120) :
    Calls Tryz.prog 34 #[scp g] w fun e w' => Ef g none w w' ∧ ((∃ kd' x' a', e = .returned (.tuple #[]) ∧ Ps g s l T (n + 1) kd' x' a' v E w') ∨ Xf T (n + 1) e) := by
  obtain ⟨f, hf, hT⟩ := h.cur.rest h1 h2
  have hll : l.length = s.size := by rw [← hl]; simp
  have hle := h.cur.le
  refine (scAdvance g s l T a _ kd (n + 1) f _ v w hl hs (by omega) h.sc hf hT).mono ?_
  rintro e w' ⟨hg, ⟨kd', x', a', rfl, s', c'⟩ | ⟨m1, m2, rfl⟩⟩
  · exact ⟨Ef.of_grown hg, .inl ⟨kd', x', a', rfl, s', c', h.nt.far hg⟩⟩
  · exact ⟨Ef.of_grown hg, .inr ⟨m1, m2, rfl⟩⟩
set_option maxRecDepth 20000 in
theorem ba_list' (x : List UInt8) : (⟨x.toArray⟩ : ByteArray).toList = x := Rf.ba_list x
set_option maxRecDepth 20000 in
set_option maxHeartbeats 2000000 in
theorem prTakes (h : Ps g s l T n kd x a v E w) (hl : s.data.toList = l) (hs : s.size ≤ 100000) (wd : List UInt8) (hw : Rf.cls wd ≠ 120) (hw1 : Rf.cls wd ≠ 101) :
    Calls Tryz.prog 81 #[scp g, .string ⟨wd.toArray⟩] w fun e w' => Ef g none w w' ∧ ((Rf.is T n (Rf.cls wd) wd = false ∧ e = .returned (.bool false) ∧ Ps g s l T n kd x a v E w') ∨ (Rf.is T n (Rf.cls wd) wd = true ∧ ((∃ kd' x' a', e = .returned (.bool true) ∧ Ps g s l T (n + 1) kd' x' a' v E w') ∨ Xf T (n + 1) e))) := by
  have ht := h.cur.takes wd hw
  have c3 := h.sc.c3
  have c4 := h.sc.c4
  have H := mkHid h
  obtain ⟨xb, hxb⟩ : ∃ xb : ByteArray, ⟨x.toArray⟩ = xb := ⟨_, rfl⟩
  obtain ⟨wb, hwb⟩ : ∃ wb : ByteArray, ⟨wd.toArray⟩ = wb := ⟨_, rfl⟩
  have hxw : (xb.toList == wb.toList) = (x == wd) := by rw [← hxb, ← hwb, ba_list', ba_list']
  rw [hxb] at c4
  rw [hwb]
  have Ht := mkHid ht
  clear ht
  cases hy : (kd == 1 && x == wd)
  · have hno : Hid (Rf.is T n (Rf.cls wd) wd = false) := Ht.out.symm.trans hy
    have hyp : (kd == 1) = false ∨ (kd == 1) = true ∧ (x == wd) = false := by
      cases h1 : (kd == 1)
      · exact .inl rfl
      · rw [h1] at hy; exact .inr ⟨rfl, by simpa using hy⟩
    clear h hxb hwb hy Ht
    rcases hyp with h1 | ⟨h1, h2⟩
    · have hk : ((kd : Int) == 1) = false := by rw [beq_eq_false_iff_ne] at h1 ⊢; omega
      clear h1
      go_enter Tryz.func81, Tryz.ntmps81
      go_wp2_with (go_at_call 34; fail)
      all_goals
        go_ret
        exact ⟨Ef.refl2 _ _ _, .inl ⟨hno.out, rfl, H.out⟩⟩
    · obtain rfl : kd = 1 := by simpa using h1
      rw [h2] at hxw
      clear h1 h2
      go_enter Tryz.func81, Tryz.ntmps81
      go_wp2_with (go_at_call 34; fail)
      all_goals
        go_ret
        exact ⟨Ef.refl2 _ _ _, .inl ⟨hno.out, rfl, H.out⟩⟩
  · have hyes : Hid (Rf.is T n (Rf.cls wd) wd = true) := Ht.out.symm.trans hy
    rw [Bool.and_eq_true, beq_iff_eq] at hy
    obtain ⟨rfl, hy2⟩ := hy
    rw [hy2] at hxw
    have hkn : Rf.kind T n = Rf.cls wd := Rf.is_kind hyes.out
    have kA := mkHid (h.adv hl hs (by rw [hkn]; exact hw1) (by rw [hkn]; exact hw))
    clear h hxb hwb hy2 Ht hkn
    go_enter Tryz.func81, Tryz.ntmps81
    go_wp2_with (go_at_call 34; fail)
    refine kA.out.mono ?_
    rintro e w1 ⟨e1, ⟨kd', x', a', rfl, h1⟩ | hx⟩
    · replace h1 := mkHid h1
      replace e1 := mkHid e1
      go_wp2
      go_ret
      exact ⟨e1.out, .inr ⟨hyes.out, .inl ⟨kd', x', a', rfl, h1.out⟩⟩⟩
    · obtain ⟨m1, m2, rfl⟩ := hx
      exact ⟨rfl, e1, .inr ⟨hyes.out, .inr ⟨m1, m2, rfl⟩⟩⟩
set_option maxRecDepth 20000 in
set_option maxHeartbeats 2000000 in
theorem prSign (h : Ps g s l T n kd x a v E w) (hl : s.data.toList = l) (hs : s.size ≤ 100000) (wd : List UInt8) (hw : Rf.cls wd ≠ 120) (hw1 : Rf.cls wd ≠ 101) :
    Calls Tryz.prog 62 #[scp g, .string ⟨wd.toArray⟩] w fun e w' => Ef g none w w' ∧ ((Rf.is T n (Rf.cls wd) wd = false ∧ e = faultAt (Rf.pos T n)) ∨ (Rf.is T n (Rf.cls wd) wd = true ∧ ((∃ kd' x' a', e = .returned (.tuple #[]) ∧ Ps g s l T (n + 1) kd' x' a' v E w') ∨ Xf T (n + 1) e))) := by
  have bD : Below w.heap.size w w.drew := below_drew (Below.refl _ _)
  have kT := mkHid (prTakes (h.below bD) hl hs wd hw hw1)
  have eD := mkHid (Ef.of_below (g := g) (r := none) bD)
  have kN := mkHid (fun (W : World) (kd : Nat) (x : List UInt8) (a : Nat) (h : Ps g s l T n kd x a v E W) => scNeedNo g s a (Rf.pos T n) W h.sc)
  have kY := mkHid (fun (W : World) => scNeedYes g W)
  clear h bD
  generalize (⟨wd.toArray⟩ : ByteArray) = wb at *
  go_enter Tryz.func62, Tryz.ntmps62
  go_wp2_with (go_at_call 81; fail)
  refine wp_region_any (by kernel_rfl) ?_
  refine wpAny_take (i := 0) (v := scp g) rfl (by kernel_rfl) (by kernel_rfl) (by kernel_rfl) (fun _ _ _ h => h) (Or.inl ⟨by rfl, ?_⟩) ?_
  · intro w
    go_simp
    all_goals first | done | (intro h; exfalso; omega) | omega
  go_simp
  refine wpAny_take (i := 1) (v := .pointer (some ⟨g, 0, none⟩)) rfl (by kernel_rfl) (by kernel_rfl) (by kernel_rfl) (fun _ _ _ h => h) (Or.inl ⟨by rfl, ?_⟩) ?_
  · intro w
    go_simp
    all_goals first | done | (intro h; exfalso; omega) | omega
  go_simp
  refine wpAny_take (i := 2) (v := .pointer (some ⟨g, 0, none⟩)) rfl (by kernel_rfl) (by kernel_rfl) (by kernel_rfl) (fun _ _ _ h => h) (Or.inl ⟨by rfl, ?_⟩) ?_
  · intro w
    go_simp
    all_goals first | done | (intro h; exfalso; omega) | omega
  go_simp
  refine wpAny_take (i := 3) (v := scp g) rfl (by kernel_rfl) (by kernel_rfl) (by kernel_rfl) (fun _ _ _ h => h) (Or.inl ⟨by rfl, ?_⟩) ?_
  · intro w
    go_simp
    all_goals first | done | (intro h; exfalso; omega) | omega
  go_simp
  refine wpAny_take (i := 4) (v := .string wb) rfl (by kernel_rfl) (by kernel_rfl) (by kernel_rfl) (fun _ _ _ h => h) (Or.inl ⟨by rfl, ?_⟩) ?_
  · intro w
    go_simp
    all_goals first | done | (intro h; exfalso; omega) | omega
  go_simp
  refine wpAny_ready (rs := [5]) (by kernel_rfl) (by simp) ?_
  refine AllReady.cons rfl (fun K hK => ?_) AllReady.nil
  go_simp
  refine kT.out.mono ?_
  rintro e w1 ⟨e1, ⟨hno, rfl, h1⟩ | ⟨hyes, ⟨kd', x', a', rfl, h1⟩ | ⟨m1, m2, rfl⟩⟩⟩
  · replace h1 := mkHid h1
    replace e1 := mkHid (eD.out.trans0 e1)
    go_simp
    refine hK _ _ ?_
    clear hK K kT
    go_simp
    refine wpAny_ready (rs := [6]) (by kernel_rfl) (by simp) ?_
    refine AllReady.cons rfl (fun K hK => ?_) AllReady.nil
    go_simp
    refine (kN.out _ _ _ _ h1.out).mono ?_
    rintro e w2 ⟨rfl, rfl⟩
    go_simp
    exact ⟨rfl, e1.out, .inl ⟨hno, rfl⟩⟩
  · replace h1 := mkHid h1
    replace e1 := mkHid (eD.out.trans0 e1)
    go_simp
    refine hK _ _ ?_
    clear hK K kT
    go_simp
    refine wpAny_ready (rs := [6]) (by kernel_rfl) (by simp) ?_
    refine AllReady.cons rfl (fun K hK => ?_) AllReady.nil
    go_simp
    refine (kY.out _).mono ?_
    rintro e w2 ⟨rfl, rfl⟩
    go_simp
    refine hK _ _ ?_
    clear hK K
    go_simp
    refine wpAny_done (by kernel_rfl) ?_ _
    refine bodyPost_end (v := .tuple #[]) (results_none Tryz.results62 _ _ _) rfl ⟨e1.out, .inr ⟨hyes, .inl ⟨kd', x', a', rfl, h1.out⟩⟩⟩
  · go_simp
    exact ⟨rfl, eD.out.trans0 e1, .inr ⟨hyes, .inr ⟨m1, m2, rfl⟩⟩⟩
end
end Go.Proofs.YtlphojaeaogehaaGreatDoor
