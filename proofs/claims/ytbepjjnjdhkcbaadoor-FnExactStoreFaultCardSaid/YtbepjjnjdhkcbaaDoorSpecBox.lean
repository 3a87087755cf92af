
/- The specification's test of a box. (By tools/gen/specbox.py.) -/
import Derived.Test.YtbepjjnjdhkcbaaDoorSpecFlags
namespace Go.Proofs.YtbepjjnjdhkcbaaDoor
open Go.RowKit Go.Lib Go.Maps
namespace St
def okMail (nu tm last : Int) (m : GMail) : Bool := decide (last < m.uid) && (decide (m.uid < nu) && (decide (1 ≤ m.modF) && (decide (m.modF ≤ tm) && (decide (0 ≤ m.time) && (decide (m.time ≤ 253402300799) && (flags m.flags && (rise m.flags && decide (m.message.size ≤ 100000))))))))
def okMails (nu tm : Int) : Int → List GMail → Bool
  | _, [] => true
  | last, m :: r => okMail nu tm last m && okMails nu tm m.uid r
def okGone (nu tm mo : Int) (M : List GMail) (P : List GGone) (g : GGone) : Bool := decide (1 ≤ g.uid) && (decide (g.uid < nu) && (decide (mo ≤ g.modF) && (decide (g.modF ≤ tm) && (!hasUid g.uid M && !P.any (fun x => x.uid == g.uid)))))
def okGones (nu tm : Int) (M : List GMail) : Int → List GGone → List GGone → Bool
  | _, _, [] => true
  | mo, P, g :: r => okGone nu tm mo M P g && okGones nu tm M g.modF (P ++ [g]) r
def okBox (b : GMailbox) : Bool := decide (1 ≤ b.nextUid) && (decide (b.nextUid ≤ 4294967295) && (decide (0 ≤ b.topMod) && (decide (b.topMod ≤ 4294967295) && (decide (b.mails.length ≤ 300) && (decide (b.gones.length ≤ 300) && (okMails b.nextUid b.topMod 0 b.mails && okGones b.nextUid b.topMod b.mails 1 [] b.gones))))))
theorem mails_step (nu tm last : Int) (M : List GMail) (k : Nat) (h : k < M.length) : okMails nu tm last (M.drop k) = (okMail nu tm last M[k] && okMails nu tm M[k].uid (M.drop (k + 1))) := by
  rw [List.drop_eq_getElem_cons h, okMails]
theorem gones_step (nu tm mo : Int) (M : List GMail) (F : List GGone) (k : Nat) (h : k < F.length) : okGones nu tm M mo (F.take k) (F.drop k) = (okGone nu tm mo M (F.take k) F[k] && okGones nu tm M F[k].modF (F.take (k + 1)) (F.drop (k + 1))) := by
  rw [List.drop_eq_getElem_cons h, okGones, List.take_succ_eq_append_getElem h]
theorem any_take {α : Type} (f : α → Bool) (l : List α) (i k : Nat) (h : k < i) (hi : i ≤ l.length) : ((l.take i).drop k).any f = (f (l[k]'(by omega)) || ((l.take i).drop (k + 1)).any f) := by
  rw [any_drop f (l.take i) k (by rw [List.length_take]; omega), List.getElem_take]
end St
set_option maxHeartbeats 20000000 in
set_option maxRecDepth 20000 in
theorem specBoxFault (b : GMailbox) (v4 v5 : Value) (lo : Nat) (w : World) (hI : GMailboxIn lo w.heap.size w b v4 v5) (hf : b.fits 1048576) :
    Calls Tryd.prog 12 #[GMailboxV b v4 v5] w fun e w' => e = .returned (.bool (!St.okBox b)) ∧ Below w.heap.size w w' := by
  obtain ⟨⟨a4, c4, rfl, t4⟩, ⟨a5, c5, rfl, t5⟩⟩ := hI
  obtain ⟨-, f4, f4', f5, -⟩ := hf
  obtain ⟨Z, hZ⟩ : ∃ Z, (!St.okBox b) = Z := ⟨_, rfl⟩
  rw [hZ]
  unfold St.okBox at hZ
  unfold GMailboxV
  obtain ⟨W, hW⟩ : ∃ W, W = w.alloc (.cells #[.string b.name, .int .i64 b.validity, .int .i64 b.nextUid, .int .i64 b.topMod, .slice a4 b.mails.length c4, .slice a5 b.gones.length c5] 38) := ⟨_, rfl⟩
  have hbA : Below w.heap.size w W := by rw [hW]; exact (Below.refl _ _).alloc (Nat.le_refl _) _
  have hWs : w.heap.size < W.heap.size := by rw [hW]; simp
  have q0 : W.cell? ⟨w.heap.size, 0, none⟩ = some (.string b.name) := by rw [hW]; simp
  have q1 : W.cell? ⟨w.heap.size, 1, none⟩ = some (.int .i64 b.validity) := by rw [hW]; simp
  have q2 : W.cell? ⟨w.heap.size, 2, none⟩ = some (.int .i64 b.nextUid) := by rw [hW]; simp
  have q3 : W.cell? ⟨w.heap.size, 3, none⟩ = some (.int .i64 b.topMod) := by rw [hW]; simp
  have q4 : W.cell? ⟨w.heap.size, 4, none⟩ = some (.slice a4 b.mails.length c4) := by rw [hW]; simp
  have q5 : W.cell? ⟨w.heap.size, 5, none⟩ = some (.slice a5 b.gones.length c5) := by rw [hW]; simp
  have HM := mkHid ((t4.below hbA (Nat.le_refl _)).mono (Nat.le_refl _) hbA.size)
  have HG := mkHid ((t5.below hbA (Nat.le_refl _)).mono (Nat.le_refl _) hbA.size)
  have Hf := mkHid f4'
  have HW := mkHid hW
  clear hW t4 t5 f4'
  generalize b.nextUid = nu at *
  generalize b.topMod = tm at *
  generalize b.mails = M at *
  generalize b.gones = D at *
  generalize b.name = nm at *
  generalize b.validity = va at *
  by_cases h0 : 1 ≤ nu
  · have x0 : decide (nu < 1) = false := decide_eq_false (by omega)
    rw [decide_eq_true h0, Bool.true_and] at hZ
    by_cases h1 : nu ≤ 4294967295
    · have x1 : decide (4294967295 < nu) = false := decide_eq_false (by omega)
      rw [decide_eq_true h1, Bool.true_and] at hZ
      by_cases h2 : 0 ≤ tm
      · have x2 : decide (tm < 0) = false := decide_eq_false (by omega)
        rw [decide_eq_true h2, Bool.true_and] at hZ
        by_cases h3 : tm ≤ 4294967295
        · have x3 : decide (4294967295 < tm) = false := decide_eq_false (by omega)
          rw [decide_eq_true h3, Bool.true_and] at hZ
          by_cases h4 : M.length ≤ 300
          · have x4 : decide ((300 : Int) < (M.length : Int)) = false := decide_eq_false (by omega)
            rw [decide_eq_true h4, Bool.true_and] at hZ
            by_cases h5 : D.length ≤ 300
            · have x5 : decide ((300 : Int) < (D.length : Int)) = false := decide_eq_false (by omega)
              rw [decide_eq_true h5, Bool.true_and] at hZ
              have HZ : Hid ((!(St.okMails nu tm 0 (M.drop 0) && St.okGones nu tm M 1 [] D)) = Z) := by rw [List.drop_zero]; exact hZ
              clear hZ
              go_enter Tryd.func12, Tryd.ntmps12
              go_wp2
              rw [← HW.out]
              clear HW
              generalize hG : w.heap.size = G at *
              go_loopw [3, 4] (fun lv iv wr => ∃ (i : Nat) (last : Int), i ≤ M.length ∧ iv = .int .i64 i ∧ lv = .int .i64 last ∧ Hid ((!(St.okMails nu tm last (M.drop i) && St.okGones nu tm M 1 [] D)) = Z) ∧ Below W.heap.size W wr) (fun _ iv _ => M.length - (Lib.intOf iv).toNat)
              case atStart => exact ⟨0, 0, Nat.zero_le _, rfl, rfl, HZ, Below.refl _ _⟩
              case round =>
                clear HZ
                obtain ⟨i, last, hi, rfl, rfl, hz, hb⟩ := hrel
                have r0 := (hb.cell (p := ⟨G, 0, none⟩) hWs).trans q0
                have r1 := (hb.cell (p := ⟨G, 1, none⟩) hWs).trans q1
                have r2 := (hb.cell (p := ⟨G, 2, none⟩) hWs).trans q2
                have r3 := (hb.cell (p := ⟨G, 3, none⟩) hWs).trans q3
                have r4 := (hb.cell (p := ⟨G, 4, none⟩) hWs).trans q4
                have r5 := (hb.cell (p := ⟨G, 5, none⟩) hWs).trans q5
                have hGr : G < wr.heap.size := Nat.lt_of_lt_of_le hWs hb.size
                have hbB := hbA.trans (hb.mono (Nat.le_of_lt hWs))
                by_cases hlt : i < M.length
                · obtain ⟨a, v3, rfl, ha1, ha2, hA, hIn⟩ := (HM.out.below hb (Nat.le_refl _)) i hlt
                  obtain ⟨g0, g1, g2⟩ := Hf.out M[i] (List.getElem_mem hlt)
                  have d0 := hA.c0
                  have d1 := hA.c1
                  have d2 := hA.c2
                  have d3 := hA.c3
                  have d4 := hA.c4
                  obtain ⟨⟨a3, k3, rfl, t3⟩⟩ := hIn
                  have hz1 := hz.out
                  rw [St.mails_step nu tm last M i hlt] at hz1
                  unfold St.okMail at hz1
                  clear hz hA
                  generalize M[i] = m at *
                  have HR : ∃ R, (St.okMails nu tm m.uid (M.drop (i + 1))) = R := ⟨_, rfl⟩
                  obtain ⟨V, hV⟩ : ∃ V, V = wr.alloc (.cells #[.int .i64 m.uid, .int .i64 m.modF, .int .i64 m.time, .slice a3 m.flags.length k3, .string m.message] 53) := ⟨_, rfl⟩
                  have hbV : Below wr.heap.size wr V := by rw [hV]; exact (Below.refl _ _).alloc (Nat.le_refl _) _
                  have hVs : wr.heap.size < V.heap.size := by rw [hV]; simp
                  have e0 : V.cell? ⟨wr.heap.size, 0, none⟩ = some (.int .i64 m.uid) := by rw [hV]; simp
                  have e1 : V.cell? ⟨wr.heap.size, 1, none⟩ = some (.int .i64 m.modF) := by rw [hV]; simp
                  have e2 : V.cell? ⟨wr.heap.size, 2, none⟩ = some (.int .i64 m.time) := by rw [hV]; simp
                  have e3 : V.cell? ⟨wr.heap.size, 3, none⟩ = some (.slice a3 m.flags.length k3) := by rw [hV]; simp
                  have e4 : V.cell? ⟨wr.heap.size, 4, none⟩ = some (.string m.message) := by rw [hV]; simp
                  have s2 := (hbV.cell (p := ⟨G, 2, none⟩) hGr).trans r2
                  have s3 := (hbV.cell (p := ⟨G, 3, none⟩) hGr).trans r3
                  have hbr := hb.trans (hbV.mono hb.size)
                  have hbe := mkHid (hbA.trans (hbr.mono (Nat.le_of_lt hWs)))
                  have tV := (t3.mono (Nat.le_refl _) hb.size |>.below hbV (Nat.le_refl _)).mono (Nat.le_refl _) hbV.size
                  have cF := mkHid (specFlags a3 m.flags k3 lo V.heap.size V tV g0 g1)
                  have cR := mkHid (specRise a3 m.flags k3 lo V tV g0)
                  have HV := mkHid hV
                  clear hV tV t3 g1 HR
                  generalize m.flags = fl at *
                  generalize m.message = msg at *
                  generalize m.uid = uid at *
                  generalize m.modF = mo at *
                  generalize m.time = ti at *
                  by_cases y0 : last < uid
                  · have u0 : decide (uid ≤ last) = false := decide_eq_false (by omega)
                    rw [decide_eq_true y0, Bool.true_and] at hz1
                    by_cases y1 : uid < nu
                    · have u1 : decide (nu ≤ uid) = false := decide_eq_false (by omega)
                      rw [decide_eq_true y1, Bool.true_and] at hz1
                      by_cases y2 : 1 ≤ mo
                      · have u2 : decide (mo < 1) = false := decide_eq_false (by omega)
                        rw [decide_eq_true y2, Bool.true_and] at hz1
                        by_cases y3 : mo ≤ tm
                        · have u3 : decide (tm < mo) = false := decide_eq_false (by omega)
                          rw [decide_eq_true y3, Bool.true_and] at hz1
                          by_cases y4 : 0 ≤ ti
                          · have u4 : decide (ti < 0) = false := decide_eq_false (by omega)
                            rw [decide_eq_true y4, Bool.true_and] at hz1
                            by_cases y5 : ti ≤ 253402300799
                            · have u5 : decide (253402300799 < ti) = false := decide_eq_false (by omega)
                              rw [decide_eq_true y5, Bool.true_and] at hz1
                              cases hfl : St.flags fl
                              · rw [hfl] at cF hz1
                                have hr : Hid (Z = true) := by rw [← hz1]; rfl
                                clear hz1 hfl cR
                                go_wp2_with fail
                                rw [← HV.out]
                                refine cF.out.mono ?_
                                rintro e w2 ⟨rfl, rfl⟩
                                go_wp2
                                go_ret
                                first | rw [hr.out, hG] | rw [hr.out]
                                exact ⟨rfl, hbe.out⟩
                              · rw [hfl] at cF hz1
                                rw [Bool.true_and] at hz1
                                cases hri : St.rise fl
                                · rw [hri] at cR hz1
                                  have hr : Hid (Z = true) := by rw [← hz1]; rfl
                                  clear hz1 hfl hri
                                  go_wp2_with fail
                                  rw [← HV.out]
                                  refine cF.out.mono ?_
                                  rintro e w2 ⟨rfl, rfl⟩
                                  go_wp2_with fail
                                  refine cR.out.mono ?_
                                  rintro e w3 ⟨rfl, hb3⟩
                                  have z4 := (hb3.cell (p := ⟨wr.heap.size, 4, none⟩) hVs).trans e4
                                  have z0 := (hb3.cell (p := ⟨wr.heap.size, 0, none⟩) hVs).trans e0
                                  have hbz := hbr.trans (hb3.mono hbr.size)
                                  have hbz' := mkHid (hbA.trans (hbz.mono (Nat.le_of_lt hWs)))
                                  clear e0 e1 e2 e3 e4 s2 s3 cF cR hb3
                                  go_wp2
                                  go_ret
                                  first | rw [hr.out, hG] | rw [hr.out]
                                  exact ⟨rfl, hbz'.out⟩
                                · rw [hri] at cR hz1
                                  rw [Bool.true_and] at hz1
                                  by_cases y9 : msg.size ≤ 100000
                                  · have u9 : decide ((100000 : Int) < (msg.size : Int)) = false := decide_eq_false (by omega)
                                    rw [decide_eq_true y9, Bool.true_and] at hz1
                                    have hz2 := mkHid hz1
                                    clear hz1 hfl hri
                                    go_wp2_with fail
                                    rw [← HV.out]
                                    refine cF.out.mono ?_
                                    rintro e w2 ⟨rfl, rfl⟩
                                    go_wp2_with fail
                                    refine cR.out.mono ?_
                                    rintro e w3 ⟨rfl, hb3⟩
                                    have z4 := (hb3.cell (p := ⟨wr.heap.size, 4, none⟩) hVs).trans e4
                                    have z0 := (hb3.cell (p := ⟨wr.heap.size, 0, none⟩) hVs).trans e0
                                    have hbz := hbr.trans (hb3.mono hbr.size)
                                    have hbz' := mkHid (hbA.trans (hbz.mono (Nat.le_of_lt hWs)))
                                    clear e0 e1 e2 e3 e4 s2 s3 cF cR hb3
                                    go_wp2
                                    go_roundw
                                    case rel => exact ⟨i + 1, uid, by omega, by go_num, rfl, hz2, hbz⟩
                                    case measure => simp [Lib.intOf]; omega
                                  · have u9 : decide ((100000 : Int) < (msg.size : Int)) = true := decide_eq_true (by omega)
                                    rw [decide_eq_false y9] at hz1
                                    have hr : Hid (Z = true) := by rw [← hz1]; rfl
                                    clear hz1 hfl hri
                                    go_wp2_with fail
                                    rw [← HV.out]
                                    refine cF.out.mono ?_
                                    rintro e w2 ⟨rfl, rfl⟩
                                    go_wp2_with fail
                                    refine cR.out.mono ?_
                                    rintro e w3 ⟨rfl, hb3⟩
                                    have z4 := (hb3.cell (p := ⟨wr.heap.size, 4, none⟩) hVs).trans e4
                                    have z0 := (hb3.cell (p := ⟨wr.heap.size, 0, none⟩) hVs).trans e0
                                    have hbz := hbr.trans (hb3.mono hbr.size)
                                    have hbz' := mkHid (hbA.trans (hbz.mono (Nat.le_of_lt hWs)))
                                    clear e0 e1 e2 e3 e4 s2 s3 cF cR hb3
                                    go_wp2
                                    go_ret
                                    first | rw [hr.out, hG] | rw [hr.out]
                                    exact ⟨rfl, hbz'.out⟩
                            · have u5 : decide (253402300799 < ti) = true := decide_eq_true (by omega)
                              rw [decide_eq_false y5] at hz1
                              have hr : Hid (Z = true) := by rw [← hz1]; rfl
                              clear hz1 cF cR
                              go_wp2
                              go_ret
                              rw [← HV.out]
                              first | rw [hr.out, hG] | rw [hr.out]
                              exact ⟨rfl, hbe.out⟩
                          · have u4 : decide (ti < 0) = true := decide_eq_true (by omega)
                            rw [decide_eq_false y4] at hz1
                            have hr : Hid (Z = true) := by rw [← hz1]; rfl
                            clear hz1 cF cR
                            go_wp2
                            go_ret
                            rw [← HV.out]
                            first | rw [hr.out, hG] | rw [hr.out]
                            exact ⟨rfl, hbe.out⟩
                        · have u3 : decide (tm < mo) = true := decide_eq_true (by omega)
                          rw [decide_eq_false y3] at hz1
                          have hr : Hid (Z = true) := by rw [← hz1]; rfl
                          clear hz1 cF cR
                          go_wp2
                          go_ret
                          rw [← HV.out]
                          first | rw [hr.out, hG] | rw [hr.out]
                          exact ⟨rfl, hbe.out⟩
                      · have u2 : decide (mo < 1) = true := decide_eq_true (by omega)
                        rw [decide_eq_false y2] at hz1
                        have hr : Hid (Z = true) := by rw [← hz1]; rfl
                        clear hz1 cF cR
                        go_wp2
                        go_ret
                        rw [← HV.out]
                        first | rw [hr.out, hG] | rw [hr.out]
                        exact ⟨rfl, hbe.out⟩
                    · have u1 : decide (nu ≤ uid) = true := decide_eq_true (by omega)
                      rw [decide_eq_false y1] at hz1
                      have hr : Hid (Z = true) := by rw [← hz1]; rfl
                      clear hz1 cF cR
                      go_wp2
                      go_ret
                      rw [← HV.out]
                      first | rw [hr.out, hG] | rw [hr.out]
                      exact ⟨rfl, hbe.out⟩
                  · have u0 : decide (uid ≤ last) = true := decide_eq_true (by omega)
                    rw [decide_eq_false y0] at hz1
                    have hr : Hid (Z = true) := by rw [← hz1]; rfl
                    clear hz1 cF cR
                    go_wp2
                    go_ret
                    rw [← HV.out]
                    first | rw [hr.out, hG] | rw [hr.out]
                    exact ⟨rfl, hbe.out⟩
                · have hz1 : Hid ((!St.okGones nu tm M 1 (D.take 0) (D.drop 0)) = Z) := by
                    have := hz.out
                    rw [List.drop_eq_nil_of_le (by omega)] at this
                    exact this
                  clear hz
                  go_wp2
                  obtain ⟨W1, hW1⟩ : ∃ W1, W1 = wr := ⟨_, rfl⟩
                  subst hW1
                  clear q0 q1 q2 q3 q4 q5
                  go_loopw [6, 7] (fun mv iv wr => ∃ (i : Nat) (mo : Int), i ≤ D.length ∧ iv = .int .i64 i ∧ mv = .int .i64 mo ∧ Hid ((!St.okGones nu tm M mo (D.take i) (D.drop i)) = Z) ∧ Below W1.heap.size W1 wr) (fun _ iv _ => D.length - (Lib.intOf iv).toNat)
                  case atStart => exact ⟨0, 1, Nat.zero_le _, rfl, rfl, hz1, Below.refl _ _⟩
                  case round =>
                    clear hz1
                    obtain ⟨i, mo, hi2, rfl, rfl, hz, hb2⟩ := hrel
                    have hb12 := hb.trans (hb2.mono hb.size)
                    have hGr2 : G < wr.heap.size := Nat.lt_of_lt_of_le hGr hb2.size
                    have n0 := (hb2.cell (p := ⟨G, 0, none⟩) hGr).trans r0
                    have n1 := (hb2.cell (p := ⟨G, 1, none⟩) hGr).trans r1
                    have n2 := (hb2.cell (p := ⟨G, 2, none⟩) hGr).trans r2
                    have n3 := (hb2.cell (p := ⟨G, 3, none⟩) hGr).trans r3
                    have n4 := (hb2.cell (p := ⟨G, 4, none⟩) hGr).trans r4
                    have n5 := (hb2.cell (p := ⟨G, 5, none⟩) hGr).trans r5
                    have hbB2 := hbA.trans (hb12.mono (Nat.le_of_lt hWs))
                    by_cases hlt2 : i < D.length
                    · obtain ⟨a', rfl, ha1, ha2, hA⟩ := (HG.out.below hb12 (Nat.le_refl _)) i hlt2
                      have d0 := hA.c0
                      have d1 := hA.c1
                      have hz1 := hz.out
                      rw [St.gones_step nu tm mo M D i hlt2] at hz1
                      unfold St.okGone at hz1
                      clear hz hA
                      generalize D[i] = g at *
                      obtain ⟨V, hV⟩ : ∃ V, V = wr.alloc (.cells #[.int .i64 g.uid, .int .i64 g.modF] 56) := ⟨_, rfl⟩
                      have hbV : Below wr.heap.size wr V := by rw [hV]; exact (Below.refl _ _).alloc (Nat.le_refl _) _
                      have hVs : wr.heap.size < V.heap.size := by rw [hV]; simp
                      have e0 : V.cell? ⟨wr.heap.size, 0, none⟩ = some (.int .i64 g.uid) := by rw [hV]; simp
                      have e1 : V.cell? ⟨wr.heap.size, 1, none⟩ = some (.int .i64 g.modF) := by rw [hV]; simp
                      have s0 := (hbV.cell (p := ⟨G, 0, none⟩) hGr2).trans n0
                      have s1 := (hbV.cell (p := ⟨G, 1, none⟩) hGr2).trans n1
                      have s2 := (hbV.cell (p := ⟨G, 2, none⟩) hGr2).trans n2
                      have s3 := (hbV.cell (p := ⟨G, 3, none⟩) hGr2).trans n3
                      have s4 := (hbV.cell (p := ⟨G, 4, none⟩) hGr2).trans n4
                      have s5 := (hbV.cell (p := ⟨G, 5, none⟩) hGr2).trans n5
                      have hbr := hb12.trans (hbV.mono hb12.size)
                      have hbr1 := hb2.trans (hbV.mono hb2.size)
                      have hbe := mkHid (hbA.trans (hbr.mono (Nat.le_of_lt hWs)))
                      have cM := mkHid (specMail nm va nu tm a4 M c4 (.slice (some a') D.length c5) g.uid lo V ((HM.out.below hbr (Nat.le_refl _)).mono (Nat.le_refl _) hbr.size) f4 ⟨_, _, _, rfl⟩)
                      have HGV := mkHid (HG.out.below hbr (Nat.le_refl _))
                      have HV := mkHid hV
                      clear hV
                      generalize g.uid = uid at *
                      generalize g.modF = gm at *
                      by_cases y0 : 1 ≤ uid
                      · have u0 : decide (uid < 1) = false := decide_eq_false (by omega)
                        rw [decide_eq_true y0, Bool.true_and] at hz1
                        by_cases y1 : uid < nu
                        · have u1 : decide (nu ≤ uid) = false := decide_eq_false (by omega)
                          rw [decide_eq_true y1, Bool.true_and] at hz1
                          by_cases y2 : mo ≤ gm
                          · have u2 : decide (gm < mo) = false := decide_eq_false (by omega)
                            rw [decide_eq_true y2, Bool.true_and] at hz1
                            by_cases y3 : gm ≤ tm
                            · have u3 : decide (tm < gm) = false := decide_eq_false (by omega)
                              rw [decide_eq_true y3, Bool.true_and] at hz1
                              go_wp2_with fail
                              rw [← HV.out]
                              refine cM.out.mono ?_
                              rintro e w3 ⟨rr, rfl, hrr, hb3⟩
                              have hbz := hbr.trans (hb3.mono hbr.size)
                              have hbz1 := hbr1.trans (hb3.mono hbr1.size)
                              have hbz' := mkHid (hbA.trans (hbz.mono (Nat.le_of_lt hWs)))
                              have z0 := (hb3.cell (p := ⟨wr.heap.size, 0, none⟩) hVs).trans e0
                              have z1 := (hb3.cell (p := ⟨wr.heap.size, 1, none⟩) hVs).trans e1
                              have m5 := (hb3.cell (p := ⟨G, 5, none⟩) (Nat.lt_trans hGr2 hVs)).trans s5
                              have HG3 := mkHid (HG.out.below hbz (Nat.le_refl _))
                              have hz3 : wr.heap.size < w3.heap.size := Nat.lt_of_lt_of_le hVs hb3.size
                              clear cM e0 e1 s0 s1 s2 s3 s4 s5 n0 n1 n2 n3 n4 n5 d0 d1
                              have hGw3 : G < w3.heap.size := Nat.lt_trans hGr2 hz3
                              generalize wr.heap.size = Hb at *
                              cases hh : St.hasUid uid M
                              · have u8 : decide (0 ≤ rr) = false := hrr.out.trans hh
                                rw [hh] at hz1
                                obtain ⟨A2, hA2⟩ : ∃ A2, (D.take i).any (fun x => x.uid == uid) = A2 := ⟨_, rfl⟩
                                rw [hA2] at hz1
                                have HA2 : Hid (((D.take i).drop 0).any (fun x => x.uid == uid) = A2) := by rw [List.drop_zero]; exact hA2
                                have hz4 : Hid ((!((!false && !A2) && St.okGones nu tm M gm (D.take (i + 1)) (D.drop (i + 1)))) = Z) := hz1
                                clear hz1 hA2 hh hrr HV HGV
                                go_wp2
                                go_loopw [9] (fun kv wr => ∃ (k : Nat), k ≤ i ∧ kv = .int .i64 k ∧ Hid (((D.take i).drop k).any (fun x => x.uid == uid) = A2) ∧ Below w3.heap.size w3 wr) (fun kv _ => i - (Lib.intOf kv).toNat)
                                case atStart => exact ⟨0, Nat.zero_le _, rfl, HA2, Below.refl _ _⟩
                                case round =>
                                  clear HA2
                                  obtain ⟨k, hk, rfl, hal, hb4⟩ := hrel
                                  have o0 := (hb4.cell (p := ⟨Hb, 0, none⟩) hz3).trans z0
                                  have o1 := (hb4.cell (p := ⟨Hb, 1, none⟩) hz3).trans z1
                                  have o5 := (hb4.cell (p := ⟨G, 5, none⟩) hGw3).trans m5
                                  have hb5 := hbz.trans (hb4.mono hbz.size)
                                  have hb6 := hbz1.trans (hb4.mono hbz1.size)
                                  by_cases hkl : k < i
                                  · obtain ⟨a2, ea, -, -, hB⟩ := (HG.out.below hb5 (Nat.le_refl _)) k (by omega)
                                    cases ea
                                    have p0 := hB.c0
                                    have hst := St.any_take (fun x => x.uid == uid) D i k hkl (by omega)
                                    rw [hal.out] at hst
                                    clear hB hal
                                    have hkD : k < D.length := by omega
                                    generalize D[k]'hkD = x at *
                                    cases hx : (x.uid == uid)
                                    · rw [hx] at hst
                                      have hf : Hid (((D.take i).drop (k + 1)).any (fun x => x.uid == uid) = A2) := hst.symm
                                      clear hst
                                      go_wp2
                                      go_quiet (fail)
                                      have hbq := mkHid (below_drewN hb4 nq)
                                      clear o0 o1 o5 p0
                                      go_wp2
                                      go_roundw
                                      case rel => exact ⟨k + 1, by omega, by go_num, hf, hbq.out⟩
                                      case measure => simp [Lib.intOf]; omega
                                    · rw [hx] at hst
                                      have hr : Hid (Z = true) := by rw [← hz4.out, hst]; rfl
                                      clear hst
                                      go_wp2
                                      go_quiet (fail)
                                      have hbq := mkHid (hbA.trans ((below_drewN hb5 nq).mono (Nat.le_of_lt hWs)))
                                      clear o0 o1 o5 p0
                                      go_wp2
                                      go_ret
                                      first | rw [hr.out, hG] | rw [hr.out]
                                      exact ⟨rfl, hbq.out⟩
                                  · have hf : Hid (A2 = false) := by
                                      have := hal.out
                                      rw [List.drop_eq_nil_of_le (by rw [List.length_take]; omega)] at this
                                      exact this.symm
                                    have hz5 : Hid ((!St.okGones nu tm M gm (D.take (i + 1)) (D.drop (i + 1))) = Z) := by have := hz4.out; rw [hf.out] at this; exact this
                                    clear hal hz4
                                    go_wp2
                                    go_roundw
                                    case rel => exact ⟨i + 1, gm, by omega, by go_num, rfl, hz5, hb6⟩
                                    case measure => simp [Lib.intOf]; omega
                              · have u8 : decide (0 ≤ rr) = true := hrr.out.trans hh
                                rw [hh] at hz1
                                have hr : Hid (Z = true) := by rw [← hz1]; rfl
                                clear hz1 hh hrr HV HGV
                                go_wp2
                                go_ret
                                first | rw [hr.out, hG] | rw [hr.out]
                                exact ⟨rfl, hbz'.out⟩
                            · have u3 : decide (tm < gm) = true := decide_eq_true (by omega)
                              rw [decide_eq_false y3] at hz1
                              have hr : Hid (Z = true) := by rw [← hz1]; rfl
                              clear hz1 cM HGV
                              go_wp2
                              go_ret
                              rw [← HV.out]
                              first | rw [hr.out, hG] | rw [hr.out]
                              exact ⟨rfl, hbe.out⟩
                          · have u2 : decide (gm < mo) = true := decide_eq_true (by omega)
                            rw [decide_eq_false y2] at hz1
                            have hr : Hid (Z = true) := by rw [← hz1]; rfl
                            clear hz1 cM HGV
                            go_wp2
                            go_ret
                            rw [← HV.out]
                            first | rw [hr.out, hG] | rw [hr.out]
                            exact ⟨rfl, hbe.out⟩
                        · have u1 : decide (nu ≤ uid) = true := decide_eq_true (by omega)
                          rw [decide_eq_false y1] at hz1
                          have hr : Hid (Z = true) := by rw [← hz1]; rfl
                          clear hz1 cM HGV
                          go_wp2
                          go_ret
                          rw [← HV.out]
                          first | rw [hr.out, hG] | rw [hr.out]
                          exact ⟨rfl, hbe.out⟩
                      · have u0 : decide (uid < 1) = true := decide_eq_true (by omega)
                        rw [decide_eq_false y0] at hz1
                        have hr : Hid (Z = true) := by rw [← hz1]; rfl
                        clear hz1 cM HGV
                        go_wp2
                        go_ret
                        rw [← HV.out]
                        first | rw [hr.out, hG] | rw [hr.out]
                        exact ⟨rfl, hbe.out⟩
                    · have hr : Hid (Z = false) := by
                        have := hz.out
                        rw [List.drop_eq_nil_of_le (by omega)] at this
                        exact this.symm
                      go_wp2
                      go_ret
                      first | rw [hr.out, hG] | rw [hr.out]
                      exact ⟨rfl, hbB2⟩
            · have x5 : decide ((300 : Int) < (D.length : Int)) = true := decide_eq_true (by omega)
              rw [decide_eq_false h5] at hZ
              have hr : Hid (Z = true) := by rw [← hZ]; rfl
              clear hZ q0 q1 q2 q3 q4 q5
              go_enter Tryd.func12, Tryd.ntmps12
              go_wp2
              go_ret
              rw [← HW.out, hr.out]
              exact ⟨rfl, hbA⟩
          · have x4 : decide ((300 : Int) < (M.length : Int)) = true := decide_eq_true (by omega)
            rw [decide_eq_false h4] at hZ
            have hr : Hid (Z = true) := by rw [← hZ]; rfl
            clear hZ q0 q1 q2 q3 q4 q5
            go_enter Tryd.func12, Tryd.ntmps12
            go_wp2
            go_ret
            rw [← HW.out, hr.out]
            exact ⟨rfl, hbA⟩
        · have x3 : decide (4294967295 < tm) = true := decide_eq_true (by omega)
          rw [decide_eq_false h3] at hZ
          have hr : Hid (Z = true) := by rw [← hZ]; rfl
          clear hZ q0 q1 q2 q3 q4 q5
          go_enter Tryd.func12, Tryd.ntmps12
          go_wp2
          go_ret
          rw [← HW.out, hr.out]
          exact ⟨rfl, hbA⟩
      · have x2 : decide (tm < 0) = true := decide_eq_true (by omega)
        rw [decide_eq_false h2] at hZ
        have hr : Hid (Z = true) := by rw [← hZ]; rfl
        clear hZ q0 q1 q2 q3 q4 q5
        go_enter Tryd.func12, Tryd.ntmps12
        go_wp2
        go_ret
        rw [← HW.out, hr.out]
        exact ⟨rfl, hbA⟩
    · have x1 : decide (4294967295 < nu) = true := decide_eq_true (by omega)
      rw [decide_eq_false h1] at hZ
      have hr : Hid (Z = true) := by rw [← hZ]; rfl
      clear hZ q0 q1 q2 q3 q4 q5
      go_enter Tryd.func12, Tryd.ntmps12
      go_wp2
      go_ret
      rw [← HW.out, hr.out]
      exact ⟨rfl, hbA⟩
  · have x0 : decide (nu < 1) = true := decide_eq_true (by omega)
    rw [decide_eq_false h0] at hZ
    have hr : Hid (Z = true) := by rw [← hZ]; rfl
    clear hZ q0 q1 q2 q3 q4 q5
    go_enter Tryd.func12, Tryd.ntmps12
    go_wp2
    go_ret
    rw [← HW.out, hr.out]
    exact ⟨rfl, hbA⟩
end Go.Proofs.YtbepjjnjdhkcbaaDoor
