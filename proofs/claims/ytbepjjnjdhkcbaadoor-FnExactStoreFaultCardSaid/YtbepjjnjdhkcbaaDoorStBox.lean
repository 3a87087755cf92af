
/- The program's test of a box. -/
import Derived.Test.YtbepjjnjdhkcbaaDoorStGones
import Derived.Test.YtbepjjnjdhkcbaaDoorStBytes
import Derived.Test.YtbepjjnjdhkcbaaDoorImplBoxName
namespace Go.Proofs.YtbepjjnjdhkcbaaDoor
open Go.RowKit Go.Lib Go.Maps
namespace St
set_option maxRecDepth 20000 in
theorem okMails_eq (nu tm : Int) : ∀ (M : List GMail) (last : Int), 0 ≤ last → okMails nu tm last M = (riseIP last (M.map (·.uid)) && M.all (mailOk nu tm))
  | [], _, _ => rfl
  | m :: r, last, hl => by
    rw [okMails, List.map_cons, riseIP, List.all_cons]
    unfold okMail mailOk given within
    by_cases h1 : last < m.uid
    · rw [okMails_eq nu tm r m.uid (by omega), decide_eq_true h1, show decide (1 ≤ m.uid) = true from decide_eq_true (by omega)]
      have e2 : decide (m.uid ≤ nu - 1) = decide (m.uid < nu) := by rw [Bool.eq_iff_iff]; simp; omega
      rw [e2]
      generalize decide (m.uid < nu) = a1
      generalize decide (1 ≤ m.modF) = a2
      generalize decide (m.modF ≤ tm) = a3
      generalize decide (0 ≤ m.time) = a4
      generalize decide (m.time ≤ 253402300799) = a5
      generalize flags m.flags = a6
      generalize rise m.flags = a7
      generalize decide (m.message.size ≤ 100000) = a8
      generalize riseIP m.uid (r.map (·.uid)) = a9
      cases a1 <;> cases a2 <;> cases a3 <;> cases a4 <;> cases a5 <;> cases a6 <;> cases a7 <;> cases a8 <;> cases a9 <;> rfl
    · rw [decide_eq_false h1]
      simp
set_option maxRecDepth 20000 in
theorem riseI_zero (M : List GMail) (nu tm : Int) : (riseIP 0 (M.map (·.uid)) && M.all (mailOk nu tm)) = (riseI (M.map (·.uid)) && M.all (mailOk nu tm)) := by
  cases M with
  | nil => rfl
  | cons m r =>
    rw [List.map_cons, riseIP, riseI, List.all_cons]
    by_cases h : 0 < m.uid
    · rw [decide_eq_true h, Bool.true_and]
    · have : mailOk nu tm m = false := by
        unfold mailOk given within
        rw [show decide (1 ≤ m.uid) = false from decide_eq_false (by omega)]
        rfl
      rw [this]
      simp
def boxP (b : GMailbox) : Bool := within b.nextUid 1 4294967295 && (within b.topMod 0 4294967295 && (mailsOk b && gonesOk b))
set_option maxRecDepth 20000 in
theorem okBox_eq (b : GMailbox) : okBox b = boxP b := by
  unfold okBox boxP mailsOk gonesOk within
  rw [okMails_eq _ _ _ 0 (Int.le_refl _), riseI_zero]
  generalize decide (1 ≤ b.nextUid) = a1
  generalize decide (b.nextUid ≤ 4294967295) = a2
  generalize decide (0 ≤ b.topMod) = a3
  generalize decide (b.topMod ≤ 4294967295) = a4
  generalize decide (b.mails.length ≤ 300) = a5
  generalize decide (b.gones.length ≤ 300) = a6
  generalize (riseI (b.mails.map (·.uid)) && b.mails.all (mailOk b.nextUid b.topMod)) = a7
  generalize okGones b.nextUid b.topMod b.mails 1 [] b.gones = a8
  cases a1 <;> cases a2 <;> cases a3 <;> cases a4 <;> cases a5 <;> cases a6 <;> cases a7 <;> cases a8 <;> rfl
set_option maxRecDepth 20000 in
theorem mailsOk_uids (b : GMailbox) (h : mailsOk b = true) (hn : b.nextUid ≤ 4294967295) : b.mails.length ≤ 300 ∧ ∀ m ∈ b.mails, -9223372036854775808 ≤ m.uid ∧ m.uid ≤ 9223372036854775807 := by
  unfold mailsOk at h
  simp only [Bool.and_eq_true, decide_eq_true_eq, List.all_eq_true] at h
  refine ⟨h.1, fun m hm => ?_⟩
  have := h.2.2 m hm
  unfold mailOk given within at this
  simp only [Bool.and_eq_true, decide_eq_true_eq] at this
  omega
end St
set_option maxRecDepth 20000 in
theorem bcell_ltS {w : World} {a : Addr} {v : Value} (h : w.cell? a = some v) : a.block < w.heap.size := by
  by_cases hb : a.block < w.heap.size
  · exact hb
  · have e : w.heap[a.block]? = none := Array.getElem?_eq_none (by omega)
    simp [World.cell?, e] at h
set_option maxRecDepth 20000 in
set_option maxHeartbeats 4000000 in
theorem implBox (b : GMailbox) (v4 v5 : Value) (lo : Nat) (mx : Int) (w : World) (hm : w.cell? ⟨0, 0, none⟩ = some (.int .i64 mx)) (hI : GMailboxIn lo w.heap.size w b v4 v5) (hf : b.fits 1048576) :
    Calls Tryd.prog 26 #[GMailboxV b v4 v5] w fun e w' => e = .returned (.bool (St.boxName b.name && St.okBox b)) ∧ Below w.heap.size w w' := by
  obtain ⟨Z, hZ⟩ : ∃ Z, (St.boxName b.name && St.okBox b) = Z := ⟨_, rfl⟩
  rw [hZ]
  rw [St.okBox_eq] at hZ
  unfold St.boxP at hZ
  replace hZ := mkHid hZ
  have hm0 := bcell_ltS hm
  have HI := mkHid hI
  obtain ⟨⟨a4, c4, rfl, -⟩, ⟨a5, c5, rfl, -⟩⟩ := hI
  obtain ⟨W, hW⟩ : ∃ W, W = w.alloc (.cells #[.string b.name, .int .i64 b.validity, .int .i64 b.nextUid, .int .i64 b.topMod, .slice a4 b.mails.length c4, .slice a5 b.gones.length c5] 38) := ⟨_, rfl⟩
  have hbA : Below w.heap.size w W := by rw [hW]; exact (Below.refl _ _).alloc (Nat.le_refl _) _
  have hWs : w.heap.size < W.heap.size := by rw [hW]; simp
  have q0 : W.cell? ⟨w.heap.size, 0, none⟩ = some (.string b.name) := by rw [hW]; simp
  have q1 : W.cell? ⟨w.heap.size, 1, none⟩ = some (.int .i64 b.validity) := by rw [hW]; simp
  have q2 : W.cell? ⟨w.heap.size, 2, none⟩ = some (.int .i64 b.nextUid) := by rw [hW]; simp
  have q3 : W.cell? ⟨w.heap.size, 3, none⟩ = some (.int .i64 b.topMod) := by rw [hW]; simp
  have q4 : W.cell? ⟨w.heap.size, 4, none⟩ = some (.slice a4 b.mails.length c4) := by rw [hW]; simp
  have q5 : W.cell? ⟨w.heap.size, 5, none⟩ = some (.slice a5 b.gones.length c5) := by rw [hW]; simp
  replace HI := mkHid ((HI.out.same (Same.of_below hbA (Nat.le_refl _))).mono (Nat.le_refl _) hbA.size)
  have cN := mkHid (implBoxName b.name mx W hf.1 ((hbA.cell (p := ⟨0, 0, none⟩) hm0).trans hm))
  unfold plBoxNameFault at cN
  have HW := mkHid hW
  have HbA := mkHid hbA
  have Hf := mkHid hf
  clear hW hbA hf hm
  unfold GMailboxV
  go_enter Tryd.func26, Tryd.ntmps26
  go_wp2_with (go_at_call 40; fail)
  rw [← HW.out]
  refine cN.out.mono ?_
  rintro e w1 ⟨rfl, hb1⟩
  have B1 := mkHid hb1
  clear cN HW hb1
  have r0 := (B1.out.cell (p := ⟨w.heap.size, 0, none⟩) hWs).trans q0
  have r1 := (B1.out.cell (p := ⟨w.heap.size, 1, none⟩) hWs).trans q1
  have r2 := (B1.out.cell (p := ⟨w.heap.size, 2, none⟩) hWs).trans q2
  have r3 := (B1.out.cell (p := ⟨w.heap.size, 3, none⟩) hWs).trans q3
  have r4 := (B1.out.cell (p := ⟨w.heap.size, 4, none⟩) hWs).trans q4
  have r5 := (B1.out.cell (p := ⟨w.heap.size, 5, none⟩) hWs).trans q5
  have hbe1 := mkHid (HbA.out.trans (B1.out.mono (Nat.le_of_lt hWs)))
  have cF := mkHid (implFromTo b.nextUid 1 4294967295 w1)
  have cG := mkHid (implFromTo b.topMod 0 4294967295 w1)
  cases hbn : St.boxName b.name
  · rw [hbn] at hZ
    have hf0 : Hid (Z = false) := by rw [← hZ.out]; rfl
    have z1 : ((St.code false) != 0) = true := rfl
    clear hZ
    go_wp2
    go_ret
    rw [hf0.out]
    exact ⟨rfl, hbe1.out⟩
  rw [hbn] at hZ
  have z1 : ((St.code true) != 0) = false := rfl
  cases hw1 : St.within b.nextUid 1 4294967295
  · rw [hw1] at hZ cF
    have hf0 : Hid (Z = false) := by rw [← hZ.out]; rfl
    clear hZ
    go_wp2_with (first | (go_at_call 24; go_must (refine cF.out.mono ?_; rintro e wx ⟨rfl, rfl⟩)) | fail)
    go_ret
    rw [hf0.out]
    exact ⟨rfl, hbe1.out⟩
  have hn : 1 ≤ b.nextUid ∧ b.nextUid ≤ 4294967295 := by
    unfold St.within at hw1
    simpa using hw1
  rw [hw1] at hZ cF
  cases hw2 : St.within b.topMod 0 4294967295
  · rw [hw2] at hZ cG
    have hf0 : Hid (Z = false) := by rw [← hZ.out]; rfl
    clear hZ
    go_wp2_with (go_at_call 24; fail)
    refine cF.out.mono ?_
    rintro e wx ⟨rfl, rfl⟩
    clear cF
    go_wp2_with (go_at_call 24; fail)
    refine cG.out.mono ?_
    rintro e wx ⟨rfl, rfl⟩
    clear cG
    go_wp2
    go_ret
    rw [hf0.out]
    exact ⟨rfl, hbe1.out⟩
  rw [hw2] at hZ cG
  have cM := mkHid (implMails b _ _ lo w1 ((HI.out.same (Same.of_below B1.out (Nat.le_refl _))).mono (Nat.le_refl _) B1.out.size) Hf.out hn.1 hn.2)
  unfold GMailboxV at cM
  go_wp2_with (go_at_call 24; fail)
  refine cF.out.mono ?_
  rintro e wx ⟨rfl, rfl⟩
  clear cF
  go_wp2_with (go_at_call 24; fail)
  refine cG.out.mono ?_
  rintro e wx ⟨rfl, rfl⟩
  clear cG
  go_wp2_with (go_at_call 41; fail)
  refine cM.out.mono ?_
  rintro e w2 ⟨rfl, hb2⟩
  have B2 := mkHid (B1.out.trans (hb2.mono B1.out.size))
  clear cM r0 r1 r2 r3 r4 r5 hb2 B1 hbe1
  have r0 := (B2.out.cell (p := ⟨w.heap.size, 0, none⟩) hWs).trans q0
  have r1 := (B2.out.cell (p := ⟨w.heap.size, 1, none⟩) hWs).trans q1
  have r2 := (B2.out.cell (p := ⟨w.heap.size, 2, none⟩) hWs).trans q2
  have r3 := (B2.out.cell (p := ⟨w.heap.size, 3, none⟩) hWs).trans q3
  have r4 := (B2.out.cell (p := ⟨w.heap.size, 4, none⟩) hWs).trans q4
  have r5 := (B2.out.cell (p := ⟨w.heap.size, 5, none⟩) hWs).trans q5
  cases hmo : St.mailsOk b
  · rw [hmo] at hZ
    have hf0 : Hid (Z = false) := by rw [← hZ.out]; rfl
    have hbe2 := mkHid (HbA.out.trans (B2.out.mono (Nat.le_of_lt hWs)))
    clear hZ
    go_wp2
    go_ret
    rw [hf0.out]
    exact ⟨rfl, hbe2.out⟩
  rw [hmo] at hZ
  obtain ⟨g1, g2⟩ := St.mailsOk_uids b hmo hn.2
  have cD := mkHid (implGones b _ _ lo w2 ((HI.out.same (Same.of_below B2.out (Nat.le_refl _))).mono (Nat.le_refl _) B2.out.size) Hf.out hn.1 hn.2 g1 g2)
  unfold GMailboxV at cD
  clear g1 g2 hmo
  go_wp2_with (go_at_call 42; fail)
  refine cD.out.mono ?_
  rintro e w3 ⟨rfl, hb3⟩
  have hbe3 := mkHid (HbA.out.trans ((B2.out.trans (hb3.mono B2.out.size)).mono (Nat.le_of_lt hWs)))
  have hf0 : Hid (St.gonesOk b = Z) := by rw [← hZ.out]; rfl
  clear hZ cD hb3
  go_wp2
  go_ret
  rw [← hf0.out]
  exact ⟨rfl, hbe3.out⟩
end Go.Proofs.YtbepjjnjdhkcbaaDoor
