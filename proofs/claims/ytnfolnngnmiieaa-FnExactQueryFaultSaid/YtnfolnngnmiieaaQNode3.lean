
/- The program's test of a query's node, whole; of all nodes. -/
import Derived.Test.YtnfolnngnmiieaaQNode2
namespace Go.Proofs.Ytnfolnngnmiieaa
open Go.RowKit Go.Lib Go.Maps
set_option linter.unusedVariables false
namespace Qu
theorem right_eq (n : GQueryNode) (h : n.kids.length ≤ 100) : right n = (St.within n.kind 1 16 && (rName n && (rUids n && ((decide (bLeast n.kind ≤ (n.kids.length : Int)) && decide ((n.kids.length : Int) ≤ bMost n.kind)) && (St.within n.num 0 (bNum n.kind) && decide ((n.text.size : Int) ≤ bText n.kind)))))) := by
  unfold right five
  have h1 : (parts n n.kind).1 = rName n := rfl
  have h4 : (parts n n.kind).2.2.2.1 = rUids n := rfl
  rw [text_eq, num_eq, kids_eq n _ h, h1, h4]
  by_cases hk : 1 ≤ n.kind ∧ n.kind ≤ 16
  · rw [if_pos hk, show St.within n.kind 1 16 = true by unfold St.within; rw [decide_eq_true hk.1, decide_eq_true hk.2]; rfl, Bool.true_and]
    generalize rName n = a
    generalize rUids n = b
    generalize (decide (bLeast n.kind ≤ (n.kids.length : Int)) && decide ((n.kids.length : Int) ≤ bMost n.kind)) = c
    generalize St.within n.num 0 (bNum n.kind) = d
    generalize decide ((n.text.size : Int) ≤ bText n.kind) = e
    cases a <;> cases b <;> cases c <;> cases d <;> cases e <;> rfl
  · rw [if_neg hk, show St.within n.kind 1 16 = false by
      unfold St.within
      rw [Bool.and_eq_false_iff]
      simp only [decide_eq_false_iff_not]
      omega]
    rfl
end Qu
set_option maxHeartbeats 4000000 in
theorem implNoNode (n : GQueryNode) (v4 v5 : Value) (lo : Nat) (w : World) (hI : GQueryNodeIn lo w.heap.size w n v4 v5) (hf : n.fits 1048576) (hkl : n.kids.length ≤ 100) :
    Calls Try.prog 23 #[GQueryNodeV n v4 v5] w fun e w' => e = .returned (.bool (!Qu.right n)) ∧ Below w.heap.size w w' := by
  obtain ⟨⟨a4, c4, rfl, t4⟩, ⟨a5, c5, rfl, t5⟩⟩ := hI
  obtain ⟨W, hW⟩ : ∃ W, W = w.alloc (.cells #[.int .i64 n.kind, .string n.name, .string n.text, .int .i64 n.num, .slice a4 n.uids.length c4, .slice a5 n.kids.length c5] 37) := ⟨_, rfl⟩
  have hb : Below w.heap.size w W := by rw [hW]; exact (Below.refl _ _).alloc (Nat.le_refl _) _
  have q0 : W.cell? ⟨w.heap.size, 0, none⟩ = some (.int .i64 n.kind) := by rw [hW]; simp
  have q1 : W.cell? ⟨w.heap.size, 1, none⟩ = some (.string n.name) := by rw [hW]; simp
  have q2 : W.cell? ⟨w.heap.size, 2, none⟩ = some (.string n.text) := by rw [hW]; simp
  have q3 : W.cell? ⟨w.heap.size, 3, none⟩ = some (.int .i64 n.num) := by rw [hW]; simp
  have q4 : W.cell? ⟨w.heap.size, 4, none⟩ = some (.slice a4 n.uids.length c4) := by rw [hW]; simp
  have q5 : W.cell? ⟨w.heap.size, 5, none⟩ = some (.slice a5 n.kids.length c5) := by rw [hW]; simp
  have sW : w.heap.size < W.heap.size := by rw [hW]; simp
  have cF := mkHid (implFromTo n.kind 1 16 W)
  have cN0 := implRightName n (.slice a4 n.uids.length c4) (.slice a5 n.kids.length c5) W hf.1
  have cU0 : ∀ W', Below W.heap.size W W' → Calls Try.prog 35 #[GQueryNodeV n (.slice a4 n.uids.length c4) (.slice a5 n.kids.length c5)] W' fun e w' => e = .returned (.bool (Qu.rUids n)) ∧ Below W'.heap.size W' w' := by
    intro W' hb'
    have hbb := hb.trans (hb'.mono hb.size)
    exact implRightUids n _ _ lo W' ⟨⟨a4, c4, rfl, (t4.below hbb (Nat.le_refl _)).mono (Nat.le_refl _) hbb.size⟩, ⟨a5, c5, rfl, (t5.below hbb (Nat.le_refl _)).mono (Nat.le_refl _) hbb.size⟩⟩ hf
  have htx := hf.2.1
  rw [Qu.right_eq n hkl]
  unfold GQueryNodeV at cN0 cU0 ⊢
  have cN := mkHid cN0
  have cU := mkHid cU0
  have cB := mkHid (fun (h1 : 1 ≤ n.kind) (h2 : n.kind ≤ 16) (w : World) => implQBounds n.kind w h1 h2)
  have cM := mkHid (fun (w : World) => implFromTo n.num 0 (Qu.bNum n.kind) w)
  have HW := mkHid hW
  have Hb := mkHid hb
  clear hW hb t4 t5 hf cN0 cU0
  cases hin : St.within n.kind 1 16
  · rw [hin] at cF
    rw [Bool.false_and]
    clear cN cU cB cM q1 q2 q3 q4 q5
    go_enter Try.func23, Try.ntmps23
    go_wp2_with (go_at_call 33; fail)
    rw [← HW.out]
    refine cF.out.mono ?_
    rintro e w1 ⟨rfl, rfl⟩
    go_wp2
    go_ret
    exact ⟨rfl, Hb.out⟩
  have hk1 : 1 ≤ n.kind ∧ n.kind ≤ 16 := by
    unfold St.within at hin
    simp only [Bool.and_eq_true, decide_eq_true_eq] at hin
    exact hin
  rw [hin] at cF
  rw [Bool.true_and]
  replace cB := mkHid (cB.out hk1.1 hk1.2)
  generalize n.kind = k at *
  generalize Qu.rName n = rn at *
  generalize Qu.rUids n = ru at *
  generalize Qu.bNum k = bn at *
  generalize Qu.bText k = bt at *
  generalize Qu.bLeast k = bl at *
  generalize Qu.bMost k = bm at *
  generalize St.within n.num 0 bn = bw at *
  clear hin hk1
  obtain ⟨R, hR⟩ : ∃ R, (rn && (ru && ((decide (bl ≤ (n.kids.length : Int)) && decide ((n.kids.length : Int) ≤ bm)) && (bw && decide ((n.text.size : Int) ≤ bt))))) = R := ⟨_, rfl⟩
  rw [hR]
  replace hR := mkHid hR
  go_enter Try.func23, Try.ntmps23
  cases rn
  · have hr : Hid (R = false) := by show _ = _; rw [← hR.out]; rfl
    go_wp2_with (go_at_call 33; fail)
    rw [← HW.out]
    refine cF.out.mono ?_
    rintro e w1 ⟨rfl, rfl⟩
    go_wp2_with (go_at_call 34; fail)
    refine cN.out.mono ?_
    rintro e w2 ⟨rfl, hb2⟩
    have hbe := mkHid (Hb.out.trans (hb2.mono Hb.out.size))
    clear cN cU cB cM cF q0 q1 q2 q3 q4 q5 HW Hb
    go_wp2
    go_ret
    rw [hr.out]
    exact ⟨rfl, hbe.out⟩
  go_wp2_with (go_at_call 33; fail)
  rw [← HW.out]
  refine cF.out.mono ?_
  rintro e w1 ⟨rfl, rfl⟩
  go_wp2_with (go_at_call 34; fail)
  refine cN.out.mono ?_
  rintro e w2 ⟨rfl, hb2⟩
  have r0 := (hb2.cell (p := ⟨w.heap.size, 0, none⟩) sW).trans q0
  have r1 := (hb2.cell (p := ⟨w.heap.size, 1, none⟩) sW).trans q1
  have r2 := (hb2.cell (p := ⟨w.heap.size, 2, none⟩) sW).trans q2
  have r3 := (hb2.cell (p := ⟨w.heap.size, 3, none⟩) sW).trans q3
  have r4 := (hb2.cell (p := ⟨w.heap.size, 4, none⟩) sW).trans q4
  have r5 := (hb2.cell (p := ⟨w.heap.size, 5, none⟩) sW).trans q5
  have cU2 := mkHid (cU.out w2 hb2)
  have hB2 := mkHid (Hb.out.trans (hb2.mono Hb.out.size))
  have s2 : w.heap.size < w2.heap.size := Nat.lt_of_lt_of_le sW hb2.size
  clear cN cU cF q0 q1 q2 q3 q4 q5 HW Hb hb2 sW
  go_wp2_with (go_at_call 35; fail)
  refine cU2.out.mono ?_
  rintro e w3 ⟨rfl, hb3⟩
  have p0 := (hb3.cell (p := ⟨w.heap.size, 0, none⟩) s2).trans r0
  have p2 := (hb3.cell (p := ⟨w.heap.size, 2, none⟩) s2).trans r2
  have p3 := (hb3.cell (p := ⟨w.heap.size, 3, none⟩) s2).trans r3
  have p5 := (hb3.cell (p := ⟨w.heap.size, 5, none⟩) s2).trans r5
  have hB3 := mkHid (hB2.out.trans (hb3.mono hB2.out.size))
  have s3 : w.heap.size < w3.heap.size := Nat.lt_of_lt_of_le s2 hb3.size
  have cB3 := mkHid (cB.out w3)
  clear cU2 r0 r1 r2 r3 r4 r5 hB2 hb3 s2 cB
  cases ru
  · have hr : Hid (R = false) := by show _ = _; rw [← hR.out]; rfl
    clear cB3 cM p0 p2 p3 p5
    go_wp2
    go_ret
    rw [hr.out]
    exact ⟨rfl, hB3.out⟩
  go_wp2_with (go_at_call 36; fail)
  refine cB3.out.mono ?_
  rintro e w4 ⟨rfl, hb4⟩
  have j2 := (hb4.cell (p := ⟨w.heap.size, 2, none⟩) s3).trans p2
  have j3 := (hb4.cell (p := ⟨w.heap.size, 3, none⟩) s3).trans p3
  have j5 := (hb4.cell (p := ⟨w.heap.size, 5, none⟩) s3).trans p5
  have hB4 := mkHid (hB3.out.trans (hb4.mono hB3.out.size))
  have s4 : w.heap.size < w4.heap.size := Nat.lt_of_lt_of_le s3 hb4.size
  clear cB3 p0 p2 p3 p5 hB3 hb4 s3
  have hb5 := mkHid (hB4.out.alloc (by omega) (.cells #[.int .i64 bn, .int .i64 bt, .int .i64 bl, .int .i64 bm] 62))
  obtain ⟨V, hV⟩ : ∃ V, V = w4.alloc (.cells #[.int .i64 bn, .int .i64 bt, .int .i64 bl, .int .i64 bm] 62) := ⟨_, rfl⟩
  rw [← hV] at hb5
  have cM4 := mkHid (cM.out V)
  replace hV := mkHid hV
  clear cM hB4
  cases hl1 : decide (bl ≤ (n.kids.length : Int))
  · have y1 : decide ((n.kids.length : Int) < bl) = true := by simp at hl1 ⊢; exact hl1
    have hr : Hid (R = false) := by show _ = _; rw [← hR.out, hl1]; rfl
    clear cM4
    go_wp2
    go_ret
    rw [← hV.out, hr.out]
    exact ⟨rfl, hb5.out⟩
  have y1 : decide ((n.kids.length : Int) < bl) = false := by simp at hl1 ⊢; exact hl1
  cases hl2 : decide ((n.kids.length : Int) ≤ bm)
  · have y2 : decide (bm < (n.kids.length : Int)) = true := by simp at hl2 ⊢; exact hl2
    have hr : Hid (R = false) := by show _ = _; rw [← hR.out, hl1, hl2]; rfl
    clear cM4
    go_wp2
    go_ret
    rw [← hV.out, hr.out]
    exact ⟨rfl, hb5.out⟩
  have y2 : decide (bm < (n.kids.length : Int)) = false := by simp at hl2 ⊢; exact hl2
  cases bw
  · have hr : Hid (R = false) := by show _ = _; rw [← hR.out, hl1, hl2]; rfl
    clear hl1 hl2
    go_wp2_with (go_at_call 33; fail)
    rw [← hV.out]
    refine cM4.out.mono ?_
    rintro e w5 ⟨rfl, rfl⟩
    go_wp2
    go_ret
    rw [hr.out]
    exact ⟨rfl, hb5.out⟩
  have g1 : V.cell? ⟨w4.heap.size, 1, none⟩ = some (.int .i64 bt) := by rw [hV.out]; simp
  have g2 : V.cell? ⟨w.heap.size, 2, none⟩ = some (.string n.text) := by
    rw [hV.out]
    exact (((Below.refl w4.heap.size w4).alloc (Nat.le_refl _) _).cell (p := ⟨w.heap.size, 2, none⟩) s4).trans j2
  cases hl3 : decide ((n.text.size : Int) ≤ bt)
  · have y3 : decide (bt < (n.text.size : Int)) = true := by simp at hl3 ⊢; exact hl3
    have hr : Hid (R = false) := by show _ = _; rw [← hR.out, hl1, hl2, hl3]; rfl
    clear hl3 hl1 hl2
    go_wp2_with (go_at_call 33; fail)
    rw [← hV.out]
    refine cM4.out.mono ?_
    rintro e w5 ⟨rfl, rfl⟩
    go_wp2
    go_ret
    rw [hr.out]
    exact ⟨rfl, hb5.out⟩
  · have y3 : decide (bt < (n.text.size : Int)) = false := by simp at hl3 ⊢; exact hl3
    have hr : Hid (R = true) := by show _ = _; rw [← hR.out, hl1, hl2, hl3]; rfl
    clear hl3 hl1 hl2
    go_wp2_with (go_at_call 33; fail)
    rw [← hV.out]
    refine cM4.out.mono ?_
    rintro e w5 ⟨rfl, rfl⟩
    go_wp2
    go_ret
    rw [hr.out]
    exact ⟨rfl, hb5.out⟩
set_option maxHeartbeats 1000000 in
theorem implIndexQ (o : Option Addr) (F : List GQueryNode) (cap lo : Nat) (w : World) (hF : GQueryNodesL lo w.heap.size w o F) (hl : F.length ≤ 1048576) (hf : ∀ n ∈ F, n.fits 1048576) (hk : ∀ n ∈ F, n.kids.length ≤ 100) :
    Calls Try.prog 32 #[.slice o F.length cap, .func (.func 23) #[] #[]] w fun e w' => ∃ i : Int, e = .returned (.int .i64 i) ∧ decide (0 ≤ i) = !F.all Qu.right ∧ Below w.heap.size w w' := by
  have hE : ∀ (args : Array Value) (w : World), (callFunc 23 args).run Try.prog w = .ok (.enter 23 args) w := Go.Proofs.enters_of Try.func23 (by kernel_rfl) rfl
  have HF := mkHid hF
  have Hf := mkHid hf
  have Hk := mkHid hk
  clear hF hf hk
  obtain ⟨R, hR⟩ : ∃ R, F.all Qu.right = R := ⟨_, rfl⟩
  have HR : Hid ((F.drop 0).all Qu.right = R) := hR
  rw [hR]
  clear hR
  go_enter Try.func32, Try.ntmps32
  go_wp2
  go_loopw [5, 8] (fun _ iv wr => ∃ k : Nat, k ≤ F.length ∧ iv = .int .i64 k ∧ Hid ((F.drop k).all Qu.right = R) ∧ Hid (Below w.heap.size w wr)) (fun _ iv _ => F.length - (Lib.intOf iv).toNat)
  case atStart => exact ⟨0, Nat.zero_le _, rfl, HR, Below.refl _ _⟩
  case round =>
    clear HR
    obtain ⟨k, hk, rfl, hp, hB⟩ := hrel
    by_cases hlt : k < F.length
    · obtain ⟨a, v4, v5, rfl, ha1, ha2, hAt, hIn⟩ := ((HF.out.below hB.out (Nat.le_refl _)).mono (Nat.le_refl _) hB.out.size) k hlt
      have hst := Rg.all_dropR Qu.right F k hlt
      rw [hp.out] at hst
      have cN := mkHid (implNoNode F[k] v4 v5 lo wr hIn (Hf.out _ (List.getElem_mem hlt)) (Hk.out _ (List.getElem_mem hlt)))
      obtain ⟨⟨a4, c4', rfl, -⟩, ⟨a5, c5', rfl, -⟩⟩ := hIn
      have d0 := hAt.c0
      have d1 := hAt.c1
      have d2 := hAt.c2
      have d3 := hAt.c3
      have d4 := hAt.c4
      have d5 := hAt.c5
      have Hst := mkHid hst
      clear hst hp hAt
      unfold GQueryNodeV at cN
      generalize Qu.right F[k] = nb at *
      generalize F[k] = x at *
      go_wp2_with fail
      refine cN.out.mono ?_
      rintro e w1 ⟨rfl, hb1⟩
      have hB1 := mkHid (hB.out.trans (hb1.mono hB.out.size))
      clear cN hb1 hB d0 d1 d2 d3 d4 d5
      cases nb
      · have hR : R = false := by rw [Hst.out, Bool.false_and]
        subst hR
        clear Hst
        go_wp2
        go_ret
        exact ⟨k, rfl, by simp, hB1.out⟩
      · have HN : Hid ((F.drop (k + 1)).all Qu.right = R) := by show _ = _; rw [Hst.out, Bool.true_and]
        clear Hst
        go_wp2
        go_roundw
        case rel => exact ⟨k + 1, by omega, by go_num, HN, hB1⟩
        case measure => simp [Lib.intOf]; omega
    · have hR : R = true := by rw [← hp.out, List.drop_eq_nil_of_le (by omega)]; rfl
      subst hR
      clear hp
      go_wp2
      go_ret
      exact ⟨-1, rfl, rfl, hB.out⟩
theorem implContainsQ (o : Option Addr) (F : List GQueryNode) (cap lo : Nat) (w : World) (hF : GQueryNodesL lo w.heap.size w o F) (hl : F.length ≤ 1048576) (hf : ∀ n ∈ F, n.fits 1048576) (hk : ∀ n ∈ F, n.kids.length ≤ 100) :
    Calls Try.prog 22 #[.slice o F.length cap, .func (.func 23) #[] #[]] w fun e w' => e = .returned (.bool (!F.all Qu.right)) ∧ Below w.heap.size w w' := by
  have hI := mkHid (implIndexQ o F cap lo w hF hl hf hk)
  clear hF hf hk
  go_enter Try.func22, Try.ntmps22
  go_wp2_with fail
  refine hI.out.mono ?_
  rintro e w2 ⟨i, rfl, hi, hb⟩
  go_wp2
  go_ret
  exact ⟨by rw [← hi]; rfl, hb⟩
end Go.Proofs.Ytnfolnngnmiieaa
