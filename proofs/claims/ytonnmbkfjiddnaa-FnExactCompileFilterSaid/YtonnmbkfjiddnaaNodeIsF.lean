
/- The program's isFilter. -/
import Derived.Test.YtonnmbkfjiddnaaNodeRightAll
import Derived.Test.YtonnmbkfjiddnaaNodeDepth
import Derived.Test.YtonnmbkfjiddnaaNodeRKids3
namespace Go.Proofs.Ytonnmbkfjiddnaa
open Go.RowKit Go.Lib Go.Maps
namespace Tr
variable {ok : Nat → Bool} {kids : Nat → List Int}
theorem run_klen : ∀ (n : Nat) (o : List Int), run ok kids n = some o → ∀ i, i < n → (kids i).length ≤ i
  | 0, o, _, i, hi => by omega
  | n + 1, o, h, i, hi => by
    unfold run at h
    split at h
    · cases h
    · rename_i p hp
      split at h
      · rename_i hc
        by_cases e : i = n
        · subst e
          have := run_len i p hp
          omega
        · exact run_klen n p hp i (by omega)
      · cases h
theorem oneT_klen (kids : Nat → List Int) (N : Nat) (h : oneT kids N = true) : ∀ i, i < N → (kids i).length ≤ i := by
  unfold oneT at h
  cases hr : run tt kids N with
  | none => rw [hr] at h; cases h
  | some o => exact run_klen N o hr
end Tr
namespace Fn
theorem isF_ok (F : List Nd) (i : Nat) (hi : i < F.length) (h : okP F i = false) : isF F = false := by
  have : (List.range F.length).all (okP F) = false := by
    rw [List.all_eq_false]
    exact ⟨i, List.mem_range.2 hi, by rw [h]; decide⟩
  unfold isF
  rw [this, Bool.false_and, Bool.and_false, Bool.and_false]
theorem isF_one (F : List Nd) (h : Tr.oneT (kids F) F.length = false) : isF F = false := by
  unfold isF
  rw [h, Bool.false_and]
theorem isF_deep (F : List Nd) (h : ¬ Tr.depTo (kids F) F.length (F.length - 1) ≤ 20) : isF F = false := by
  unfold isF
  rw [decide_eq_false (by omega), Bool.false_and, Bool.and_false]
theorem isF_last (F : List Nd) (h1 : Tr.oneT (kids F) F.length = true) (h2 : Tr.depTo (kids F) F.length (F.length - 1) ≤ 20) (h3 : ∀ i, i < F.length → okP F i = true) : isF F = (kindAt F ((F.length : Int) - 1) == 1) := by
  have : (List.range F.length).all (okP F) = true := by
    rw [List.all_eq_true]
    intro i hi
    exact h3 i (List.mem_range.1 hi)
  unfold isF
  rw [h1, this, decide_eq_true (by omega), Bool.true_and, Bool.true_and, Bool.true_and]
/-- What the program's isFilter says. -/
def isP (F : List Nd) : Bool := decide (F.length ≤ 2000) && isF F
theorem good_isP (F : List Nd) : good F = isP F := by
  by_cases h2 : F.length ≤ 2000
  · by_cases h1 : 1 ≤ F.length
    · rw [good_isF F h1 h2, isP, decide_eq_true h2, Bool.true_and]
    · obtain rfl : F = [] := List.length_eq_zero_iff.1 (by omega)
      rfl
  · unfold good isP
    rw [decide_eq_false h2, Bool.false_and, Bool.false_and, Bool.and_false]
end Fn
set_option maxHeartbeats 20000000 in
set_option maxRecDepth 20000 in
theorem implIsFilter (o : Option Addr) (F : List Nd) (cap : Nat) (w : World) (hF : Nds w.heap.size w o F) (hlF : F.length ≤ 1048576) (hfit : ∀ n ∈ F, n.fits 1048576) :
    Calls Try.prog 37 #[.slice o F.length cap] w fun e w' => e = .returned (.bool (Fn.isP F)) ∧ Below w.heap.size w w' := by
  obtain ⟨R, hR⟩ : ∃ R, Fn.isP F = R := ⟨_, rfl⟩
  rw [hR]
  by_cases h2 : F.length ≤ 2000
  · have hT := mkHid (implOneTree o F cap w hF h2 hfit)
    have b2 : decide ((2000 : Int) < (F.length : Int)) = false := by simp; omega
    rw [Fn.isP, decide_eq_true h2, Bool.true_and] at hR
    replace hR := mkHid hR
    have HF := mkHid hF
    have Hfit := mkHid hfit
    clear hF hfit
    cases hone : Tr.oneT (Fn.kids F) F.length
    · rw [hone] at hT
      have hr0 : Hid (R = false) := by show R = false; rw [← hR.out]; exact Fn.isF_one F hone
      clear hone
      go_enter Try.func37, Try.ntmps37
      go_wp2_with fail
      refine hT.out.mono ?_
      rintro e w1 ⟨rfl, hb1⟩
      go_wp2
      go_ret
      rw [hr0.out]
      exact ⟨rfl, hb1⟩
    · rw [hone] at hT
      have hin := mkHid (Tr.oneT_kids (Fn.kids F) F.length hone)
      have h1 : 1 ≤ F.length := by
        by_cases h1 : 1 ≤ F.length
        · exact h1
        · have e : F.length = 0 := by omega
          rw [e] at hone
          exact Bool.noConfusion hone
      have cD : Hid (∀ W : World, Below w.heap.size w W → Calls Try.prog 51 #[.slice o F.length cap] W fun e w' => e = .returned (.int .i64 (Tr.depTo (Fn.kids F) F.length (F.length - 1))) ∧ Below W.heap.size W w') := fun W hb => implDepth o F cap W ((HF.out.below hb).mono hb.size) h2 h1 Hfit.out hin.out
      have hone' := mkHid hone
      clear hone
      by_cases hd : Tr.depTo (Fn.kids F) F.length (F.length - 1) ≤ 20
      · have hd' := mkHid hd
        generalize Tr.depTo (Fn.kids F) F.length (F.length - 1) = dd at cD hd
        have bd : decide ((20 : Int) < (dd : Int)) = false := by simp; omega
        clear hd
        go_enter Try.func37, Try.ntmps37
        go_wp2_with fail
        refine hT.out.mono ?_
        rintro e w1 ⟨rfl, hb1⟩
        go_wp2_with fail
        refine (cD.out w1 hb1).mono ?_
        rintro e w2 ⟨rfl, hb2⟩
        have hb12 := hb1.trans (hb2.mono hb1.size)
        clear hb1 hb2 hT cD
        go_wp2
        generalize hG : w.heap.size = G at *
        go_loopw [20] (fun iv wr => ∃ i : Nat, i ≤ F.length ∧ iv = .int .i64 i ∧ Hid (∀ j, j < i → Fn.okP F j = true) ∧ Below G w wr) (fun iv _ => F.length - (Lib.intOf iv).toNat)
        case atStart => exact ⟨0, Nat.zero_le _, rfl, fun j h => absurd h (Nat.not_lt_zero _), hb12⟩
        case round =>
          obtain ⟨i, hi', rfl, hok, hb⟩ := hrel
          by_cases hlt : i < F.length
          · obtain ⟨a, vn, vk, vd, rfl, ha, hA0, hI⟩ := HF.out i hlt
            have hA := hA0.below hb (by rw [add_blockN]; exact ha)
            clear hA0
            obtain ⟨⟨a1, e1, rfl, t1⟩, ⟨a2, e2, rfl, t2⟩, ⟨a3, e3, rfl, t3⟩⟩ := hI
            have hokP : Hid (Fn.okP F i = (Fn.right F[i] && Fn.kidsOk F[i].kind (F[i].kids.map (Fn.kindAt F)))) := by show Fn.okP F i = _; unfold Fn.okP; rw [List.getElem?_eq_getElem hlt]; rfl
            have hnf := mkHid (Hfit.out F[i] (List.getElem_mem hlt))
            have hrange := mkHid (hin.out i hlt)
            have hkids : Hid (Fn.kids F i = F[i].kids) := by show Fn.kids F i = _; unfold Fn.kids; rw [List.getElem?_eq_getElem hlt]; rfl
            have c0 := hA.c0
            have c1 := hA.c1
            have c2 := hA.c2
            have c3 := hA.c3
            have c4 := hA.c4
            have c5 := hA.c5
            have c6 := hA.c6
            have hkl : F[i].kids.length ≤ 2000 := by
              have := Tr.oneT_klen (Fn.kids F) F.length hone'.out i hlt
              rw [hkids.out] at this
              omega
            replace t1 := mkHid t1
            replace t2 := mkHid t2
            replace t3 := mkHid t3
            have hsz := hb.size
            clear hA
            generalize F[i] = n at *
            have hbG := mkHid (hb.alloc (by omega) (.cells #[.int .i64 n.kind, .int .i64 n.num, .int .i64 n.mat, .string n.text, .slice a1 n.names.length e1, .slice a2 n.keys.length e2, .slice a3 n.kids.length e3] 44))
            obtain ⟨W1, hV⟩ : ∃ V, V = wr.alloc (.cells #[.int .i64 n.kind, .int .i64 n.num, .int .i64 n.mat, .string n.text, .slice a1 n.names.length e1, .slice a2 n.keys.length e2, .slice a3 n.kids.length e3] 44) := ⟨_, rfl⟩
            replace hV := mkHid hV
            go_wp2
            rw [← hV.out]
            have HFV := mkHid (HF.out.below hbG.out)
            have ht1 := mkHid (t1.out.below hbG.out)
            have ht2 := mkHid (t2.out.below hbG.out)
            have ht3 := mkHid (t3.out.below hbG.out)
            rw [← hV.out] at hbG HFV ht1 ht2 ht3
            have q0 : W1.cell? ⟨wr.heap.size, 0, none⟩ = some (.int .i64 n.kind) := by rw [hV.out]; simp
            have q1 : W1.cell? ⟨wr.heap.size, 1, none⟩ = some (.int .i64 n.num) := by rw [hV.out]; simp
            have q2 : W1.cell? ⟨wr.heap.size, 2, none⟩ = some (.int .i64 n.mat) := by rw [hV.out]; simp
            have q3 : W1.cell? ⟨wr.heap.size, 3, none⟩ = some (.string n.text) := by rw [hV.out]; simp
            have q4 : W1.cell? ⟨wr.heap.size, 4, none⟩ = some (.slice a1 n.names.length e1) := by rw [hV.out]; simp
            have q5 : W1.cell? ⟨wr.heap.size, 5, none⟩ = some (.slice a2 n.keys.length e2) := by rw [hV.out]; simp
            have q6 : W1.cell? ⟨wr.heap.size, 6, none⟩ = some (.slice a3 n.kids.length e3) := by rw [hV.out]; simp
            have hVs : W1.heap.size = wr.heap.size + 1 := by rw [hV.out]; simp
            have hGW : G ≤ W1.heap.size := by omega
            have hg1 : wr.heap.size < W1.heap.size := by omega
            have u1 := mkHid (ht1.out.mono hGW)
            have u2 := mkHid (ht2.out.mono hGW)
            have u3 := mkHid (ht3.out.mono hGW)
            have uF := mkHid (HFV.out.mono hGW)
            have p0 := q0
            have p1 := q1
            have p2 := q2
            have p3 := q3
            have p4 := q4
            have p5 := q5
            have p6 := q6
            clear c0 c1 c2 c3 c4 c5 c6 hV hb hVs ht1 ht2 ht3 HFV
            generalize wr.heap.size = g1 at *
            have cR : Hid (∀ W' : World, Below W1.heap.size W1 W' → Calls Try.prog 52 #[.agg #[.int .i64 n.kind, .int .i64 n.num, .int .i64 n.mat, .string n.text, .slice a1 n.names.length e1, .slice a2 n.keys.length e2, .slice a3 n.kids.length e3]] W' fun e w'' => e = .returned (.bool (Fn.right n)) ∧ Below W1.heap.size W1 w'') := fun W' hb' =>
              (implRight n a1 a2 a3 e1 e2 e3 n.kids.length W' ((u1.out.below hb').mono hb'.size) ((u2.out.below hb').mono hb'.size) hnf.out).mono fun e w'' ⟨x1, x2⟩ => ⟨x1, hb'.trans (x2.mono hb'.size)⟩
            by_cases hright : Fn.right n = true
            · rw [hright] at cR
              obtain ⟨ks, hks⟩ : ∃ ks, n.kids.map (Fn.kindAt F) = ks := ⟨_, rfl⟩
              have hksl : ks.length = n.kids.length := by rw [← hks, List.length_map]
              have hin2 : Hid (∀ j (h : j < n.kids.length) (h' : j < ks.length), ∃ q : Nat, n.kids[j] = (q : Int) ∧ ∃ hq : q < F.length, F[q].kind = ks[j]) := by
                intro j h h'
                have hmem : n.kids[j] ∈ Fn.kids F i := by rw [hkids.out]; exact List.getElem_mem h
                obtain ⟨z1, z2⟩ := hrange.out _ hmem
                refine ⟨n.kids[j].toNat, by omega, by omega, ?_⟩
                subst hks
                rw [List.getElem_map]
                unfold Fn.kindAt
                rw [List.getElem?_eq_getElem (by omega)]
                rfl
              have cK : Hid (∀ W' : World, Below W1.heap.size W1 W' → Calls Try.prog 54 #[.slice (some a) F.length cap, .slice a3 n.kids.length e3] W' fun e w'' => ∃ v, e = .returned v ∧ (∃ o c, v = .slice o ks.length c ∧ ks.length ≤ c ∧ Ints w''.heap.size w'' o ks) ∧ Below W1.heap.size W1 w'') := fun W' hb' =>
                (implKinds (some a) a3 F n.kids ks cap e3 W' ((uF.out.below hb').mono hb'.size) ((u3.out.below hb').mono hb'.size) (by omega) hksl hin2.out).mono fun e w'' ⟨v, x1, x2, x3⟩ => by
                  refine ⟨v, x1, ?_, hb'.trans (x3.mono hb'.size)⟩
                  obtain ⟨o2, c2, y1, y2⟩ := x2.ints
                  obtain ⟨o4, c4, z1, z2, -⟩ := x2.form'
                  subst z1
                  cases y1
                  exact ⟨_, _, rfl, z2, y2⟩
              have hkl2 : ks.length ≤ 1048576 := by omega
              have cA : Hid (∀ (W' : World) (o : Option Addr) (c : Nat), Ints W'.heap.size W' o ks → ks.length ≤ c → Below W1.heap.size W1 W' → Calls Try.prog 53 #[.int .i64 n.kind, .slice o ks.length c] W' fun e w'' => e = .returned (.bool (Fn.kidsOk n.kind ks)) ∧ Below W1.heap.size W1 w'') := fun W' o c hi' hc' hb' =>
                (implRKids n.kind o ks c W' hi' hkl2 hc').mono fun e w'' ⟨x1, x2⟩ => ⟨x1, hb'.trans (x2.mono hb'.size)⟩
              have hbW : Below W1.heap.size W1 W1 := Below.refl _ _
              replace hks := mkHid hks
              replace hright := mkHid hright
              clear hksl hkl2
              by_cases hkok : Fn.kidsOk n.kind ks = true
              · rw [hkok] at cA
                have hok2 : Hid (∀ j, j < i + 1 → Fn.okP F j = true) := fun j hj => by
                  by_cases hji : j = i
                  · rw [hji, hokP.out, hright.out, hks.out, hkok]; rfl
                  · exact hok.out j (by omega)
                clear hkok
                go_wp2
                refine wp_region_any (by kernel_rfl) ?_
                refine wpAny_ready (rs := [0]) (by kernel_rfl) (by simp) ?_
                refine AllReady.cons rfl (fun K hK => ?_) AllReady.nil
                go_simp
                refine hK _ _ ?_
                clear hK K
                go_simp
                refine wpAny_ready (rs := [1]) (by kernel_rfl) (by simp) ?_
                refine AllReady.cons rfl (fun K hK => ?_) AllReady.nil
                go_simp
                go_wp2_with fail
                refine (cR.out _ (by first | exact hbW | exact hbW.drew | exact hbW.drew.drew | exact hbW.drew.drew.drew)).mono ?_
                rintro e w2 ⟨rfl, hb2⟩
                have r0 := (hb2.cell (p := ⟨g1, 0, none⟩) hg1).trans q0
                have r6 := (hb2.cell (p := ⟨g1, 6, none⟩) hg1).trans q6
                show K _ w2
                refine hK _ _ ?_
                clear hK K
                go_simp
                refine wpAny_take (i := 2) (v := .bool false) rfl (by kernel_rfl) (by kernel_rfl) (by kernel_rfl) (fun _ _ _ h => h) (Or.inl ⟨by rfl, ?_⟩) ?_
                · intro w
                  go_simp
                  all_goals first | done | omega | (intro h; exfalso; omega)
                go_simp
                refine wpAny_take (i := 3) (v := .bool false) rfl (by kernel_rfl) (by kernel_rfl) (by kernel_rfl) (fun _ _ _ h => h) (Or.inl ⟨by rfl, ?_⟩) ?_
                · intro w
                  go_simp
                  all_goals first | done | omega | (intro h; exfalso; omega)
                go_simp
                refine wpAny_take (i := 4) (v := .pointer (some ⟨g1, 0, none⟩)) rfl (by kernel_rfl) (by kernel_rfl) (by kernel_rfl) (fun _ _ _ h => h) (Or.inl ⟨by rfl, ?_⟩) ?_
                · intro w
                  go_simp
                  all_goals first | done | omega | (intro h; exfalso; omega)
                go_simp
                refine wpAny_take (i := 6) (v := .slice (some a) F.length cap) rfl (by kernel_rfl) (by kernel_rfl) (by kernel_rfl) (fun _ _ _ h => h) (Or.inl ⟨by rfl, ?_⟩) ?_
                · intro w
                  go_simp
                  all_goals first | done | omega | (intro h; exfalso; omega)
                go_simp
                refine wpAny_take (i := 7) (v := .pointer (some ⟨g1, 6, none⟩)) rfl (by kernel_rfl) (by kernel_rfl) (by kernel_rfl) (fun _ _ _ h => h) (Or.inl ⟨by rfl, ?_⟩) ?_
                · intro w
                  go_simp
                  all_goals first | done | omega | (intro h; exfalso; omega)
                go_simp
                refine wpAny_ready (rs := [5, 8]) (by kernel_rfl) (by simp) ?_
                refine AllReady.cons rfl (fun K hK => ?_) (AllReady.cons rfl (fun K hK => ?_) AllReady.nil)
                · go_simp
                  refine hK _ _ ?_
                  clear hK K
                  go_simp
                  refine wpAny_ready (rs := [8]) (by kernel_rfl) (by simp) ?_
                  refine AllReady.cons rfl (fun K hK => ?_) AllReady.nil
                  go_simp
                  refine hK _ _ ?_
                  clear hK K
                  go_simp
                  refine wpAny_ready (rs := [9]) (by kernel_rfl) (by simp) ?_
                  refine AllReady.cons rfl (fun K hK => ?_) AllReady.nil
                  go_simp
                  go_wp2_with fail
                  refine (cK.out _ (by first | exact hb2 | exact hb2.drew | exact hb2.drew.drew | exact hb2.drew.drew.drew)).mono ?_
                  rintro e w3 ⟨v3, rfl, ⟨o3, c3, rfl, hc3, hi3⟩, hb3⟩
                  have s0 := (hb3.cell (p := ⟨g1, 0, none⟩) hg1).trans q0
                  show K _ w3
                  refine hK _ _ ?_
                  clear hK K
                  go_simp
                  refine wpAny_ready (rs := [10]) (by kernel_rfl) (by simp) ?_
                  refine AllReady.cons rfl (fun K hK => ?_) AllReady.nil
                  go_simp
                  go_wp2_with fail
                  refine (cA.out _ o3 c3 (by first | exact hi3 | exact hi3.drew | exact hi3.below (Below.refl _ _).drew) hc3 (by first | exact hb3 | exact hb3.drew | exact hb3.drew.drew | exact hb3.drew.drew.drew)).mono ?_
                  rintro e w4 ⟨rfl, hb4⟩
                  show K _ w4
                  refine hK _ _ ?_
                  clear hK K
                  go_simp
                  refine wpAny_take (i := 11) (v := .bool false) rfl (by kernel_rfl) (by kernel_rfl) (by kernel_rfl) (fun _ _ _ h => h) (Or.inl ⟨by rfl, ?_⟩) ?_
                  · intro w
                    go_simp
                    all_goals first | done | omega | (intro h; exfalso; omega)
                  go_simp
                  refine wpAny_take (i := 12) (v := .bool false) rfl (by kernel_rfl) (by kernel_rfl) (by kernel_rfl) (fun _ _ _ h => h) (Or.inl ⟨by rfl, ?_⟩) ?_
                  · intro w
                    go_simp
                    all_goals first | done | omega | (intro h; exfalso; omega)
                  go_simp
                  refine wpAny_done (by kernel_rfl) ?_ _
                  have hbe := hbG.out.trans (hb4.mono hGW)
                  go_wp2
                  go_roundw
                  case rel => exact ⟨i + 1, by omega, by go_num, hok2, hbe⟩
                  case measure => simp [Lib.intOf]; omega
                · go_simp
                  refine hK _ _ ?_
                  clear hK K
                  go_simp
                  refine wpAny_ready (rs := [5, 9]) (by kernel_rfl) (by simp) ?_
                  refine AllReady.cons rfl (fun K hK => ?_) (AllReady.cons rfl (fun K hK => ?_) AllReady.nil)
                  · go_simp
                    refine hK _ _ ?_
                    clear hK K
                    go_simp
                    refine wpAny_ready (rs := [9]) (by kernel_rfl) (by simp) ?_
                    refine AllReady.cons rfl (fun K hK => ?_) AllReady.nil
                    go_simp
                    go_wp2_with fail
                    refine (cK.out _ (by first | exact hb2 | exact hb2.drew | exact hb2.drew.drew | exact hb2.drew.drew.drew)).mono ?_
                    rintro e w3 ⟨v3, rfl, ⟨o3, c3, rfl, hc3, hi3⟩, hb3⟩
                    have s0 := (hb3.cell (p := ⟨g1, 0, none⟩) hg1).trans q0
                    show K _ w3
                    refine hK _ _ ?_
                    clear hK K
                    go_simp
                    refine wpAny_ready (rs := [10]) (by kernel_rfl) (by simp) ?_
                    refine AllReady.cons rfl (fun K hK => ?_) AllReady.nil
                    go_simp
                    go_wp2_with fail
                    refine (cA.out _ o3 c3 (by first | exact hi3 | exact hi3.drew | exact hi3.below (Below.refl _ _).drew) hc3 (by first | exact hb3 | exact hb3.drew | exact hb3.drew.drew | exact hb3.drew.drew.drew)).mono ?_
                    rintro e w4 ⟨rfl, hb4⟩
                    show K _ w4
                    refine hK _ _ ?_
                    clear hK K
                    go_simp
                    refine wpAny_take (i := 11) (v := .bool false) rfl (by kernel_rfl) (by kernel_rfl) (by kernel_rfl) (fun _ _ _ h => h) (Or.inl ⟨by rfl, ?_⟩) ?_
                    · intro w
                      go_simp
                      all_goals first | done | omega | (intro h; exfalso; omega)
                    go_simp
                    refine wpAny_take (i := 12) (v := .bool false) rfl (by kernel_rfl) (by kernel_rfl) (by kernel_rfl) (fun _ _ _ h => h) (Or.inl ⟨by rfl, ?_⟩) ?_
                    · intro w
                      go_simp
                      all_goals first | done | omega | (intro h; exfalso; omega)
                    go_simp
                    refine wpAny_done (by kernel_rfl) ?_ _
                    have hbe := hbG.out.trans (hb4.mono hGW)
                    go_wp2
                    go_roundw
                    case rel => exact ⟨i + 1, by omega, by go_num, hok2, hbe⟩
                    case measure => simp [Lib.intOf]; omega
                  · go_simp
                    go_wp2_with fail
                    refine (cK.out _ (by first | exact hb2 | exact hb2.drew | exact hb2.drew.drew | exact hb2.drew.drew.drew)).mono ?_
                    rintro e w3 ⟨v3, rfl, ⟨o3, c3, rfl, hc3, hi3⟩, hb3⟩
                    have s0 := (hb3.cell (p := ⟨g1, 0, none⟩) hg1).trans q0
                    show K _ w3
                    refine hK _ _ ?_
                    clear hK K
                    go_simp
                    refine wpAny_ready (rs := [5]) (by kernel_rfl) (by simp) ?_
                    refine AllReady.cons rfl (fun K hK => ?_) AllReady.nil
                    go_simp
                    refine hK _ _ ?_
                    clear hK K
                    go_simp
                    refine wpAny_ready (rs := [10]) (by kernel_rfl) (by simp) ?_
                    refine AllReady.cons rfl (fun K hK => ?_) AllReady.nil
                    go_simp
                    go_wp2_with fail
                    refine (cA.out _ o3 c3 (by first | exact hi3 | exact hi3.drew | exact hi3.below (Below.refl _ _).drew) hc3 (by first | exact hb3 | exact hb3.drew | exact hb3.drew.drew | exact hb3.drew.drew.drew)).mono ?_
                    rintro e w4 ⟨rfl, hb4⟩
                    show K _ w4
                    refine hK _ _ ?_
                    clear hK K
                    go_simp
                    refine wpAny_take (i := 11) (v := .bool false) rfl (by kernel_rfl) (by kernel_rfl) (by kernel_rfl) (fun _ _ _ h => h) (Or.inl ⟨by rfl, ?_⟩) ?_
                    · intro w
                      go_simp
                      all_goals first | done | omega | (intro h; exfalso; omega)
                    go_simp
                    refine wpAny_take (i := 12) (v := .bool false) rfl (by kernel_rfl) (by kernel_rfl) (by kernel_rfl) (fun _ _ _ h => h) (Or.inl ⟨by rfl, ?_⟩) ?_
                    · intro w
                      go_simp
                      all_goals first | done | omega | (intro h; exfalso; omega)
                    go_simp
                    refine wpAny_done (by kernel_rfl) ?_ _
                    have hbe := hbG.out.trans (hb4.mono hGW)
                    go_wp2
                    go_roundw
                    case rel => exact ⟨i + 1, by omega, by go_num, hok2, hbe⟩
                    case measure => simp [Lib.intOf]; omega
              · have hkok' : Fn.kidsOk n.kind ks = false := by simpa using hkok
                rw [hkok'] at cA
                have hr0 : Hid (R = false) := by
                  show R = false
                  rw [← hR.out]
                  refine Fn.isF_ok F i hlt ?_
                  rw [hokP.out, hks.out, hkok', Bool.and_false]
                clear hkok hkok'
                go_wp2
                refine wp_region_any (by kernel_rfl) ?_
                refine wpAny_ready (rs := [0]) (by kernel_rfl) (by simp) ?_
                refine AllReady.cons rfl (fun K hK => ?_) AllReady.nil
                go_simp
                refine hK _ _ ?_
                clear hK K
                go_simp
                refine wpAny_ready (rs := [1]) (by kernel_rfl) (by simp) ?_
                refine AllReady.cons rfl (fun K hK => ?_) AllReady.nil
                go_simp
                go_wp2_with fail
                refine (cR.out _ (by first | exact hbW | exact hbW.drew | exact hbW.drew.drew | exact hbW.drew.drew.drew)).mono ?_
                rintro e w2 ⟨rfl, hb2⟩
                have r0 := (hb2.cell (p := ⟨g1, 0, none⟩) hg1).trans q0
                have r6 := (hb2.cell (p := ⟨g1, 6, none⟩) hg1).trans q6
                show K _ w2
                refine hK _ _ ?_
                clear hK K
                go_simp
                refine wpAny_take (i := 2) (v := .bool false) rfl (by kernel_rfl) (by kernel_rfl) (by kernel_rfl) (fun _ _ _ h => h) (Or.inl ⟨by rfl, ?_⟩) ?_
                · intro w
                  go_simp
                  all_goals first | done | omega | (intro h; exfalso; omega)
                go_simp
                refine wpAny_take (i := 3) (v := .bool false) rfl (by kernel_rfl) (by kernel_rfl) (by kernel_rfl) (fun _ _ _ h => h) (Or.inl ⟨by rfl, ?_⟩) ?_
                · intro w
                  go_simp
                  all_goals first | done | omega | (intro h; exfalso; omega)
                go_simp
                refine wpAny_take (i := 4) (v := .pointer (some ⟨g1, 0, none⟩)) rfl (by kernel_rfl) (by kernel_rfl) (by kernel_rfl) (fun _ _ _ h => h) (Or.inl ⟨by rfl, ?_⟩) ?_
                · intro w
                  go_simp
                  all_goals first | done | omega | (intro h; exfalso; omega)
                go_simp
                refine wpAny_take (i := 6) (v := .slice (some a) F.length cap) rfl (by kernel_rfl) (by kernel_rfl) (by kernel_rfl) (fun _ _ _ h => h) (Or.inl ⟨by rfl, ?_⟩) ?_
                · intro w
                  go_simp
                  all_goals first | done | omega | (intro h; exfalso; omega)
                go_simp
                refine wpAny_take (i := 7) (v := .pointer (some ⟨g1, 6, none⟩)) rfl (by kernel_rfl) (by kernel_rfl) (by kernel_rfl) (fun _ _ _ h => h) (Or.inl ⟨by rfl, ?_⟩) ?_
                · intro w
                  go_simp
                  all_goals first | done | omega | (intro h; exfalso; omega)
                go_simp
                refine wpAny_ready (rs := [5, 8]) (by kernel_rfl) (by simp) ?_
                refine AllReady.cons rfl (fun K hK => ?_) (AllReady.cons rfl (fun K hK => ?_) AllReady.nil)
                · go_simp
                  refine hK _ _ ?_
                  clear hK K
                  go_simp
                  refine wpAny_ready (rs := [8]) (by kernel_rfl) (by simp) ?_
                  refine AllReady.cons rfl (fun K hK => ?_) AllReady.nil
                  go_simp
                  refine hK _ _ ?_
                  clear hK K
                  go_simp
                  refine wpAny_ready (rs := [9]) (by kernel_rfl) (by simp) ?_
                  refine AllReady.cons rfl (fun K hK => ?_) AllReady.nil
                  go_simp
                  go_wp2_with fail
                  refine (cK.out _ (by first | exact hb2 | exact hb2.drew | exact hb2.drew.drew | exact hb2.drew.drew.drew)).mono ?_
                  rintro e w3 ⟨v3, rfl, ⟨o3, c3, rfl, hc3, hi3⟩, hb3⟩
                  have s0 := (hb3.cell (p := ⟨g1, 0, none⟩) hg1).trans q0
                  show K _ w3
                  refine hK _ _ ?_
                  clear hK K
                  go_simp
                  refine wpAny_ready (rs := [10]) (by kernel_rfl) (by simp) ?_
                  refine AllReady.cons rfl (fun K hK => ?_) AllReady.nil
                  go_simp
                  go_wp2_with fail
                  refine (cA.out _ o3 c3 (by first | exact hi3 | exact hi3.drew | exact hi3.below (Below.refl _ _).drew) hc3 (by first | exact hb3 | exact hb3.drew | exact hb3.drew.drew | exact hb3.drew.drew.drew)).mono ?_
                  rintro e w4 ⟨rfl, hb4⟩
                  show K _ w4
                  refine hK _ _ ?_
                  clear hK K
                  go_simp
                  refine wpAny_take (i := 11) (v := .bool true) rfl (by kernel_rfl) (by kernel_rfl) (by kernel_rfl) (fun _ _ _ h => h) (Or.inl ⟨by rfl, ?_⟩) ?_
                  · intro w
                    go_simp
                    all_goals first | done | omega | (intro h; exfalso; omega)
                  go_simp
                  refine wpAny_take (i := 12) (v := .bool true) rfl (by kernel_rfl) (by kernel_rfl) (by kernel_rfl) (fun _ _ _ h => h) (Or.inl ⟨by rfl, ?_⟩) ?_
                  · intro w
                    go_simp
                    all_goals first | done | omega | (intro h; exfalso; omega)
                  go_simp
                  refine wpAny_done (by kernel_rfl) ?_ _
                  have hbe := mkHid (hbG.out.trans (hb4.mono hGW))
                  go_wp2
                  go_ret
                  rw [hr0.out, hG]
                  exact ⟨rfl, hbe.out⟩
                · go_simp
                  refine hK _ _ ?_
                  clear hK K
                  go_simp
                  refine wpAny_ready (rs := [5, 9]) (by kernel_rfl) (by simp) ?_
                  refine AllReady.cons rfl (fun K hK => ?_) (AllReady.cons rfl (fun K hK => ?_) AllReady.nil)
                  · go_simp
                    refine hK _ _ ?_
                    clear hK K
                    go_simp
                    refine wpAny_ready (rs := [9]) (by kernel_rfl) (by simp) ?_
                    refine AllReady.cons rfl (fun K hK => ?_) AllReady.nil
                    go_simp
                    go_wp2_with fail
                    refine (cK.out _ (by first | exact hb2 | exact hb2.drew | exact hb2.drew.drew | exact hb2.drew.drew.drew)).mono ?_
                    rintro e w3 ⟨v3, rfl, ⟨o3, c3, rfl, hc3, hi3⟩, hb3⟩
                    have s0 := (hb3.cell (p := ⟨g1, 0, none⟩) hg1).trans q0
                    show K _ w3
                    refine hK _ _ ?_
                    clear hK K
                    go_simp
                    refine wpAny_ready (rs := [10]) (by kernel_rfl) (by simp) ?_
                    refine AllReady.cons rfl (fun K hK => ?_) AllReady.nil
                    go_simp
                    go_wp2_with fail
                    refine (cA.out _ o3 c3 (by first | exact hi3 | exact hi3.drew | exact hi3.below (Below.refl _ _).drew) hc3 (by first | exact hb3 | exact hb3.drew | exact hb3.drew.drew | exact hb3.drew.drew.drew)).mono ?_
                    rintro e w4 ⟨rfl, hb4⟩
                    show K _ w4
                    refine hK _ _ ?_
                    clear hK K
                    go_simp
                    refine wpAny_take (i := 11) (v := .bool true) rfl (by kernel_rfl) (by kernel_rfl) (by kernel_rfl) (fun _ _ _ h => h) (Or.inl ⟨by rfl, ?_⟩) ?_
                    · intro w
                      go_simp
                      all_goals first | done | omega | (intro h; exfalso; omega)
                    go_simp
                    refine wpAny_take (i := 12) (v := .bool true) rfl (by kernel_rfl) (by kernel_rfl) (by kernel_rfl) (fun _ _ _ h => h) (Or.inl ⟨by rfl, ?_⟩) ?_
                    · intro w
                      go_simp
                      all_goals first | done | omega | (intro h; exfalso; omega)
                    go_simp
                    refine wpAny_done (by kernel_rfl) ?_ _
                    have hbe := mkHid (hbG.out.trans (hb4.mono hGW))
                    go_wp2
                    go_ret
                    rw [hr0.out, hG]
                    exact ⟨rfl, hbe.out⟩
                  · go_simp
                    go_wp2_with fail
                    refine (cK.out _ (by first | exact hb2 | exact hb2.drew | exact hb2.drew.drew | exact hb2.drew.drew.drew)).mono ?_
                    rintro e w3 ⟨v3, rfl, ⟨o3, c3, rfl, hc3, hi3⟩, hb3⟩
                    have s0 := (hb3.cell (p := ⟨g1, 0, none⟩) hg1).trans q0
                    show K _ w3
                    refine hK _ _ ?_
                    clear hK K
                    go_simp
                    refine wpAny_ready (rs := [5]) (by kernel_rfl) (by simp) ?_
                    refine AllReady.cons rfl (fun K hK => ?_) AllReady.nil
                    go_simp
                    refine hK _ _ ?_
                    clear hK K
                    go_simp
                    refine wpAny_ready (rs := [10]) (by kernel_rfl) (by simp) ?_
                    refine AllReady.cons rfl (fun K hK => ?_) AllReady.nil
                    go_simp
                    go_wp2_with fail
                    refine (cA.out _ o3 c3 (by first | exact hi3 | exact hi3.drew | exact hi3.below (Below.refl _ _).drew) hc3 (by first | exact hb3 | exact hb3.drew | exact hb3.drew.drew | exact hb3.drew.drew.drew)).mono ?_
                    rintro e w4 ⟨rfl, hb4⟩
                    show K _ w4
                    refine hK _ _ ?_
                    clear hK K
                    go_simp
                    refine wpAny_take (i := 11) (v := .bool true) rfl (by kernel_rfl) (by kernel_rfl) (by kernel_rfl) (fun _ _ _ h => h) (Or.inl ⟨by rfl, ?_⟩) ?_
                    · intro w
                      go_simp
                      all_goals first | done | omega | (intro h; exfalso; omega)
                    go_simp
                    refine wpAny_take (i := 12) (v := .bool true) rfl (by kernel_rfl) (by kernel_rfl) (by kernel_rfl) (fun _ _ _ h => h) (Or.inl ⟨by rfl, ?_⟩) ?_
                    · intro w
                      go_simp
                      all_goals first | done | omega | (intro h; exfalso; omega)
                    go_simp
                    refine wpAny_done (by kernel_rfl) ?_ _
                    have hbe := mkHid (hbG.out.trans (hb4.mono hGW))
                    go_wp2
                    go_ret
                    rw [hr0.out, hG]
                    exact ⟨rfl, hbe.out⟩
            · have hright' : Fn.right n = false := by simpa using hright
              rw [hright'] at cR
              have hr0 : Hid (R = false) := by
                show R = false
                rw [← hR.out]
                refine Fn.isF_ok F i hlt ?_
                rw [hokP.out, hright', Bool.false_and]
              have cR' : Hid (∀ d os, Calls Try.prog 52 #[.agg #[.int .i64 n.kind, .int .i64 n.num, .int .i64 n.mat, .string n.text, .slice a1 n.names.length e1, .slice a2 n.keys.length e2, .slice a3 n.kids.length e3]] (Go.Sort.grow (redrawn W1 d) os) fun e w'' => e = .returned (.bool false) ∧ ∃ p : Regrown, w'' = Go.Sort.grow (redrawn W1 p.d) p.os) := fun d os =>
                (cR.out _ (below_regrown W1 d os)).mono fun e w'' ⟨x1, x2⟩ => ⟨x1, regrown_of_below x2⟩
              have k0 := cell_regrown p0
              have k1 := cell_regrown p1
              have k2 := cell_regrown p2
              have k3 := cell_regrown p3
              have k4 := cell_regrown p4
              have k5 := cell_regrown p5
              have k6 := cell_regrown p6
              clear hright hright' cR
              go_wp2
              refine wp_region_quiet_below (by kernel_rfl) (by kernel_rfl) ?_
              quiet_step (fail)
              quiet_step (exact cR'.out _ _)
              repeat (quiet_step (fail))
              refine wpQuiet_nil ?_
              intro _ hw'
              obtain ⟨⟨dr, osr⟩, hw''⟩ := hw'
              subst hw''
              have hbe := mkHid (hbG.out.trans ((below_regrown W1 dr osr).mono hGW))
              go_wp2
              go_ret
              rw [hr0.out, hG]
              exact ⟨rfl, hbe.out⟩
          · obtain rfl : i = F.length := by omega
            obtain ⟨nn, hnn⟩ : ∃ nn, F.length = nn + 1 := ⟨F.length - 1, by omega⟩
            have hnl : nn < F.length := by omega
            have hnI : (F.length : Int) - 1 = (nn : Int) := by omega
            obtain ⟨a, vn, vk, vd, rfl, ha, hA0, -⟩ := HF.out nn hnl
            have c0 := (hA0.below hb (by rw [add_blockN]; exact ha)).c0
            have hRv : Hid (R = (F[nn].kind == 1)) := by
              show R = _
              rw [← hR.out, Fn.isF_last F hone'.out hd'.out hok.out, hnI]
              unfold Fn.kindAt
              rw [Int.toNat_natCast, List.getElem?_eq_getElem hnl]
              rfl
            generalize F[nn].kind = kd at *
            obtain ⟨bk, hbk⟩ : ∃ bk, (kd == 1) = bk := ⟨_, rfl⟩
            rw [hbk] at hRv
            have hnlI : (nn : Int) < (F.length : Int) := by omega
            replace hnn := mkHid hnn
            clear hA0
            go_wp2
            go_ret
            rw [hRv.out, hG]
            exact ⟨rfl, hb⟩
      · have hr0 : Hid (R = false) := by show R = false; rw [← hR.out]; exact Fn.isF_deep F hd
        generalize Tr.depTo (Fn.kids F) F.length (F.length - 1) = dd at cD hd
        have bd : decide ((20 : Int) < (dd : Int)) = true := by simp; omega
        clear hd
        go_enter Try.func37, Try.ntmps37
        go_wp2_with fail
        refine hT.out.mono ?_
        rintro e w1 ⟨rfl, hb1⟩
        go_wp2_with fail
        refine (cD.out w1 hb1).mono ?_
        rintro e w2 ⟨rfl, hb2⟩
        have hb12 := hb1.trans (hb2.mono hb1.size)
        go_wp2
        go_ret
        rw [hr0.out]
        exact ⟨rfl, hb12⟩
  · have hr0 : Hid (R = false) := by show R = false; rw [← hR, Fn.isP, decide_eq_false h2, Bool.false_and]
    have b2 : decide ((2000 : Int) < (F.length : Int)) = true := by simp; omega
    clear hF hfit hR h2
    go_enter Try.func37, Try.ntmps37
    go_wp2
    go_ret
    rw [hr0.out]
    exact ⟨rfl, Below.refl _ _⟩
end Go.Proofs.Ytonnmbkfjiddnaa
