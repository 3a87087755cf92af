
/- The program's test of a box's mails. -/
import Derived.Test.YtbepjjnjdhkcbaaDoorStSet
namespace Go.Proofs.YtbepjjnjdhkcbaaDoor
open Go.RowKit Go.Lib Go.Maps
namespace St
def mailOk (nu tm : Int) (m : GMail) : Bool := given nu tm m.uid m.modF && (within m.time 0 253402300799 && (decide (m.message.size ≤ 100000) && (flags m.flags && rise m.flags)))
def mailsOk (b : GMailbox) : Bool := decide (b.mails.length ≤ 300) && (riseI (b.mails.map (·.uid)) && b.mails.all (mailOk b.nextUid b.topMod))
set_option maxRecDepth 20000 in
theorem all_dropS {α : Type} (f : α → Bool) (l : List α) (k : Nat) (h : k < l.length) : (l.drop k).all f = (f l[k] && (l.drop (k + 1)).all f) := by
  rw [List.drop_eq_getElem_cons h, List.all_cons]
end St
set_option maxRecDepth 20000 in
set_option maxHeartbeats 8000000 in
theorem implMails (b : GMailbox) (v4 v5 : Value) (lo : Nat) (w : World) (hI : GMailboxIn lo w.heap.size w b v4 v5) (hf : b.fits 1048576) (h0 : 1 ≤ b.nextUid) (h1 : b.nextUid ≤ 4294967295) :
    Calls Tryd.prog 41 #[GMailboxV b v4 v5] w fun e w' => e = .returned (.bool (St.mailsOk b)) ∧ Below w.heap.size w w' := by
  obtain ⟨⟨a4, c4, rfl, t4⟩, ⟨a5, c5, rfl, t5⟩⟩ := hI
  obtain ⟨-, f4, f4', f5, -⟩ := hf
  unfold St.mailsOk
  obtain ⟨W, hW⟩ : ∃ W, W = w.alloc (.cells #[.string b.name, .int .i64 b.validity, .int .i64 b.nextUid, .int .i64 b.topMod, .slice a4 b.mails.length c4, .slice a5 b.gones.length c5] 38) := ⟨_, rfl⟩
  have hbA : Below w.heap.size w W := by rw [hW]; exact (Below.refl _ _).alloc (Nat.le_refl _) _
  have hWs : w.heap.size < W.heap.size := by rw [hW]; simp
  have q2 : W.cell? ⟨w.heap.size, 2, none⟩ = some (.int .i64 b.nextUid) := by rw [hW]; simp
  have q3 : W.cell? ⟨w.heap.size, 3, none⟩ = some (.int .i64 b.topMod) := by rw [hW]; simp
  have q4 : W.cell? ⟨w.heap.size, 4, none⟩ = some (.slice a4 b.mails.length c4) := by rw [hW]; simp
  have HM := mkHid ((t4.below hbA (Nat.le_refl _)).mono (Nat.le_refl _) hbA.size)
  have HW := mkHid hW
  have HbA := mkHid hbA
  have Hf := mkHid f4'
  clear hW t4 t5 hbA f4'
  unfold GMailboxV
  generalize b.nextUid = nu at *
  generalize b.topMod = tm at *
  generalize b.mails = M at *
  generalize b.gones.length = gl at *
  generalize b.name = nm at *
  generalize b.validity = va at *
  by_cases hl : M.length ≤ 300
  · have x1 : decide ((300 : Int) < (M.length : Int)) = false := decide_eq_false (by omega)
    rw [decide_eq_true hl, Bool.true_and]
    have cU := mkHid (implUids a4 M c4 lo W HM.out hl)
    obtain ⟨A, hA⟩ : ∃ A, (St.riseI (M.map (·.uid)) && M.all (St.mailOk nu tm)) = A := ⟨_, rfl⟩
    rw [hA]
    replace hA := mkHid hA
    go_enter Tryd.func41, Tryd.ntmps41
    go_wp2_with (go_at_call 56; fail)
    rw [← HW.out]
    refine cU.out.mono ?_
    rintro e w1 ⟨y, rfl, hown, hb1⟩
    obtain ⟨o1, k1, rfl⟩ := hown.out.shape
    have cR := mkHid (implRiseI o1 (M.map (·.uid)) k1 _ w1 hown.out.inL (by rw [List.length_map]; omega))
    have r4 := (hb1.cell (p := ⟨w.heap.size, 4, none⟩) hWs).trans q4
    have B1 := mkHid hb1
    clear cU HW hown hb1
    generalize St.riseI (M.map (·.uid)) = ri at *
    generalize (M.map (·.uid)).length = ul at *
    go_wp2_with (go_at_call 55; fail)
    refine cR.out.mono ?_
    rintro e w2 ⟨rfl, hb2⟩
    have B2 := mkHid (B1.out.trans (hb2.mono B1.out.size))
    clear cR r4 B1 hb2
    have r4 := (B2.out.cell (p := ⟨w.heap.size, 4, none⟩) hWs).trans q4
    cases ri
    · have hbe := mkHid (HbA.out.trans (B2.out.mono (Nat.le_of_lt hWs)))
      have hf : Hid (A = false) := by rw [← hA.out]; rfl
      go_wp2
      go_ret
      rw [hf.out]
      exact ⟨rfl, hbe.out⟩
    · have HA : Hid ((M.drop 0).all (St.mailOk nu tm) = A) := by rw [← hA.out]; rfl
      clear hA
      go_wp2
      go_loopw [19] (fun iv wr => ∃ i : Nat, i ≤ M.length ∧ iv = .int .i64 i ∧ Hid ((M.drop i).all (St.mailOk nu tm) = A) ∧ Hid (Below W.heap.size W wr)) (fun iv _ => M.length - (Lib.intOf iv).toNat)
      case atStart => exact ⟨0, Nat.zero_le _, rfl, HA, B2⟩
      case round =>
        clear HA B2 r4
        obtain ⟨i, hi, rfl, hz, hB⟩ := hrel
        by_cases hlt : i < M.length
        · obtain ⟨a, v3, rfl, ha1, ha2, hAt, hIn⟩ := ((HM.out.below hB.out (Nat.le_refl _)).mono (Nat.le_refl _) hB.out.size) i hlt
          obtain ⟨⟨a3, k3, rfl, hfl⟩⟩ := hIn
          have d0 := hAt.c0
          have d1 := hAt.c1
          have d2 := hAt.c2
          have d3 := hAt.c3
          have d4 := hAt.c4
          have hst := St.all_dropS (St.mailOk nu tm) M i hlt
          rw [hz.out] at hst
          obtain ⟨g1, g2, g3⟩ := Hf.out M[i] (List.getElem_mem hlt)
          clear hAt hz
          generalize M[i] = m at *
          unfold St.mailOk at hst
          obtain ⟨V, hV⟩ : ∃ V, V = wr.alloc (.cells #[.int .i64 m.uid, .int .i64 m.modF, .int .i64 m.time, .slice a3 m.flags.length k3, .string m.message] 53) := ⟨_, rfl⟩
          have bV : Below wr.heap.size wr V := by rw [hV]; exact (Below.refl _ _).alloc (Nat.le_refl _) _
          have BV := mkHid (hB.out.trans (bV.mono hB.out.size))
          have hVs : V.heap.size = wr.heap.size + 1 := by rw [hV]; simp
          have e0 : V.cell? ⟨wr.heap.size, 0, none⟩ = some (.int .i64 m.uid) := by rw [hV]; simp
          have e1 : V.cell? ⟨wr.heap.size, 1, none⟩ = some (.int .i64 m.modF) := by rw [hV]; simp
          have e2 : V.cell? ⟨wr.heap.size, 2, none⟩ = some (.int .i64 m.time) := by rw [hV]; simp
          have e3 : V.cell? ⟨wr.heap.size, 3, none⟩ = some (.slice a3 m.flags.length k3) := by rw [hV]; simp
          have e4 : V.cell? ⟨wr.heap.size, 4, none⟩ = some (.string m.message) := by rw [hV]; simp
          have cG := mkHid (implGiven w.heap.size m.uid m.modF nu tm V ((BV.out.cell (p := ⟨w.heap.size, 2, none⟩) hWs).trans q2) ((BV.out.cell (p := ⟨w.heap.size, 3, none⟩) hWs).trans q3) h0 h1)
          have cT := mkHid (implTime m.time V)
          have cL := mkHid (implTooLong m.message V (by omega))
          have cF := mkHid (implFlags a3 m.flags k3 lo V ((hfl.below bV (Nat.le_refl _)).mono (Nat.le_refl _) bV.size) g1 g2)
          have cR := mkHid (implRise a3 m.flags k3 lo V ((hfl.below bV (Nat.le_refl _)).mono (Nat.le_refl _) bV.size) g1)
          have hbe := mkHid (HbA.out.trans (BV.out.mono (Nat.le_of_lt hWs)))
          have HV := mkHid hV
          clear hV bV hfl g1 g2
          rw [show decide ((100000 : Int) < (m.message.size : Int)) = !decide (m.message.size ≤ 100000) by by_cases e : m.message.size ≤ 100000 <;> simp [e] <;> omega] at cL
          generalize St.given nu tm m.uid m.modF = bG at *
          generalize St.within m.time 0 253402300799 = bT at *
          generalize decide (m.message.size ≤ 100000) = bL at *
          generalize St.flags m.flags = bF at *
          generalize St.rise m.flags = bR at *
          generalize m.flags.length = nf at *
          generalize m.uid = uid at *
          generalize m.modF = mm at *
          generalize m.time = ti at *
          generalize m.message = ms at *
          replace hst := mkHid hst
          cases bG
          · have hf : Hid (A = false) := by rw [hst.out]; rfl
            clear hst cT cL cF cR
            go_wp2_with (first | (go_at_call 57; go_must (rw [← HV.out]; refine cG.out.mono ?_; rintro e wx ⟨rfl, rfl⟩)) | fail)
            go_ret
            rw [hf.out]
            exact ⟨rfl, hbe.out⟩
          · cases bT
            · have hf : Hid (A = false) := by rw [hst.out]; rfl
              clear hst cL cF cR
              go_wp2_with (first | (go_at_call 57; go_must (rw [← HV.out]; refine cG.out.mono ?_; rintro e wx ⟨rfl, rfl⟩)) | (go_at_call 58; go_must (refine cT.out.mono ?_; rintro e wx ⟨rfl, rfl⟩)) | fail)
              go_ret
              rw [hf.out]
              exact ⟨rfl, hbe.out⟩
            · cases bL
              · have hf : Hid (A = false) := by rw [hst.out]; rfl
                clear hst cF cR
                go_wp2_with (first | (go_at_call 57; go_must (rw [← HV.out]; refine cG.out.mono ?_; rintro e wx ⟨rfl, rfl⟩)) | (go_at_call 58; go_must (refine cT.out.mono ?_; rintro e wx ⟨rfl, rfl⟩)) | (go_at_call 59; go_must (refine cL.out.mono ?_; rintro e wx ⟨rfl, rfl⟩)) | fail)
                go_ret
                rw [hf.out]
                exact ⟨rfl, hbe.out⟩
              · cases bF
                · have hf : Hid (A = false) := by rw [hst.out]; rfl
                  clear hst cR
                  go_wp2_with (first | (go_at_call 57; go_must (rw [← HV.out]; refine cG.out.mono ?_; rintro e wx ⟨rfl, rfl⟩)) | (go_at_call 58; go_must (refine cT.out.mono ?_; rintro e wx ⟨rfl, rfl⟩)) | (go_at_call 59; go_must (refine cL.out.mono ?_; rintro e wx ⟨rfl, rfl⟩)) | (go_at_call 60; go_must (refine cF.out.mono ?_; rintro e wx ⟨rfl, rfl⟩)) | fail)
                  go_ret
                  rw [hf.out]
                  exact ⟨rfl, hbe.out⟩
                · go_wp2_with (first | (go_at_call 57; go_must (rw [← HV.out]; refine cG.out.mono ?_; rintro e wx ⟨rfl, rfl⟩)) | (go_at_call 58; go_must (refine cT.out.mono ?_; rintro e wx ⟨rfl, rfl⟩)) | (go_at_call 59; go_must (refine cL.out.mono ?_; rintro e wx ⟨rfl, rfl⟩)) | (go_at_call 60; go_must (refine cF.out.mono ?_; rintro e wx ⟨rfl, rfl⟩)) | (go_at_call 28; fail))
                  refine cR.out.mono ?_
                  rintro e w8 ⟨rfl, hb8⟩
                  have B8 := mkHid (BV.out.trans (hb8.mono BV.out.size))
                  have hbe8 := mkHid (HbA.out.trans (B8.out.mono (Nat.le_of_lt hWs)))
                  clear cG cT cL cF cR hb8 hbe BV HV d0 d1 d2 d3 d4 e0 e1 e2 e3 e4
                  cases bR
                  · have hf : Hid (A = false) := by rw [hst.out]; rfl
                    clear hst
                    go_wp2
                    go_ret
                    rw [hf.out]
                    exact ⟨rfl, hbe8.out⟩
                  · have hf : Hid ((M.drop (i + 1)).all (St.mailOk nu tm) = A) := by rw [hst.out]; rfl
                    clear hst
                    go_wp2
                    go_roundw
                    case rel => exact ⟨i + 1, by omega, by go_num, hf, B8⟩
                    case measure => simp [Lib.intOf]; omega
        · have hz1 : Hid (A = true) := by
            have := hz.out
            rw [List.drop_eq_nil_of_le (by omega)] at this
            exact this.symm
          have hbe := mkHid (HbA.out.trans (hB.out.mono (Nat.le_of_lt hWs)))
          clear hz
          go_wp2
          go_ret
          rw [hz1.out]
          exact ⟨rfl, hbe.out⟩
  · have x1 : decide ((300 : Int) < (M.length : Int)) = true := decide_eq_true (by omega)
    rw [decide_eq_false hl, Bool.false_and]
    go_enter Tryd.func41, Tryd.ntmps41
    go_wp2
    go_ret
    rw [← HW.out]
    exact ⟨rfl, HbA.out⟩
end Go.Proofs.YtbepjjnjdhkcbaaDoor
