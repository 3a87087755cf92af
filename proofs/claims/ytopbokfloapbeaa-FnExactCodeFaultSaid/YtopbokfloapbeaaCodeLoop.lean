
/- Both CodeFaults. -/
import Derived.Test.YtopbokfloapbeaaCodeRight
import Derived.Test.YtopbokfloapbeaaCodeImpl
namespace Go.Proofs.Ytopbokfloapbeaa
open Go.RowKit Go.Lib Go.Maps
set_option maxHeartbeats 2000000 in
set_option maxRecDepth 20000 in
theorem specCode (o : Option Addr) (F : List Cd) (cap : Nat) (w : World) (hF : Cds w.heap.size w o F) (hlF : F.length ≤ 1048576) (hfit : ∀ c ∈ F, c.nd.fits 1048576) :
    Calls Try.prog 5 #[.slice o F.length cap] w fun e w' => e = .returned (.int .i64 (Co.code (Co.good F))) ∧ Below w.heap.size w w' := by
  obtain ⟨Z, hZ⟩ : ∃ Z, Co.code (Co.good F) = Z := ⟨_, rfl⟩
  rw [hZ]
  unfold Co.good at hZ
  by_cases h1 : 1 ≤ F.length
  · by_cases h2 : F.length ≤ 20000
    · rw [decide_eq_true h1, decide_eq_true h2, Bool.true_and, Bool.true_and] at hZ
      obtain ⟨m, hm⟩ : ∃ m, F.length = m + 1 := ⟨F.length - 1, by omega⟩
      have hml : m < F.length := by omega
      rw [Co.last_at F m hm hml] at hZ
      have HZ : Hid (Co.code (((F[m].op == 10) || (F[m].op == 2)) && ((F.drop 0).all fun c => Co.right c F.length)) = Z) := by rw [List.drop_zero]; exact hZ
      have hmI : (F.length : Int) - 1 = (m : Int) := by omega
      have HF := mkH hF
      have Hfit := mkH hfit
      replace hm := mkH hm
      clear hZ hF hfit
      go_enter Try.func5, Try.ntmps5
      go_wp2
      go_loopw [4] (fun iv wr => ∃ i : Nat, i ≤ F.length ∧ iv = .int .i64 i ∧ Hid (Co.code (((F[m].op == 10) || (F[m].op == 2)) && ((F.drop i).all fun c => Co.right c F.length)) = Z) ∧ Below w.heap.size w wr) (fun iv _ => F.length - (Lib.intOf iv).toNat)
      case atStart => exact ⟨0, Nat.zero_le _, rfl, HZ, Below.refl _ _⟩
      case round =>
        clear HZ
        obtain ⟨i, hi, rfl, hz, hb⟩ := hrel
        by_cases hlt : i < F.length
        · obtain ⟨a, vn, vk, vd, rfl, ha, hA, hI⟩ := (HF.out.below hb) i hlt
          have cR := mkH (specRight F[i] vn vk vd F.length wr (hI.mono hb.size) (Hfit.out _ (List.getElem_mem hlt)))
          have hz1 := hz.out
          rw [Co.all_drop F F.length i hlt] at hz1
          replace hz1 := mkH hz1
          have c0 := hA.c0
          have c1 := hA.c1
          have c2 := hA.c2
          have c3 := hA.c3
          have c4 := hA.c4
          have c5 := hA.c5
          have c6 := hA.c6
          have c7 := hA.c7
          have c8 := hA.c8
          clear hA hI hz
          unfold cdV at cR
          generalize Co.right F[i] F.length = b at *
          generalize F[i] = n at *
          cases b
          · have hr : Hid (Z = 1) := by show Z = 1; rw [← hz1.out, Bool.false_and, Bool.and_false]; rfl
            clear hz1
            go_wp2_with fail
            refine cR.out.mono ?_
            rintro e w1 ⟨rfl, hb1⟩
            have hbe := mkH (hb.trans (hb1.mono hb.size))
            clear cR c0 c1 c2 c3 c4 c5 c6 c7 c8 hb1 hb
            go_wp2
            go_ret
            rw [hr.out]
            exact ⟨rfl, hbe.out⟩
          · have hr := hz1.out
            rw [Bool.true_and] at hr
            replace hr := mkH hr
            clear hz1
            go_wp2_with fail
            refine cR.out.mono ?_
            rintro e w1 ⟨rfl, hb1⟩
            have hbe := mkH (hb.trans (hb1.mono hb.size))
            clear cR c0 c1 c2 c3 c4 c5 c6 c7 c8 hb1 hb
            go_wp2
            go_roundw
            case rel => exact ⟨i + 1, by omega, by go_num, hr, hbe.out⟩
            case measure => simp [Lib.intOf]; omega
        · have hz1 := hz.out
          rw [List.drop_eq_nil_of_le (by omega), List.all_nil, Bool.and_true] at hz1
          replace hz1 := mkH hz1
          obtain ⟨a, vn, vk, vd, rfl, ha, hA, -⟩ := (HF.out.below hb) m hml
          have c0 := hA.c0
          clear hz hA
          generalize F[m].op = op at *
          by_cases k10 : op = 10
          · have x1 : (op == 10) = true := by simpa using k10
            have x2 : (op != 10) = false := by simp [k10]
            have hr : Hid (Z = 0) := by show Z = 0; rw [← hz1.out, x1]; rfl
            clear hz1 k10
            go_wp2
            go_ret
            rw [hr.out]
            exact ⟨rfl, hb⟩
          · have x1 : (op == 10) = false := by simpa using k10
            have x2 : (op != 10) = true := by simpa using k10
            by_cases k2 : op = 2
            · have x3 : (op == 2) = true := by simpa using k2
              have x4 : (op != 2) = false := by simp [k2]
              have hr : Hid (Z = 0) := by show Z = 0; rw [← hz1.out, x1, x3]; rfl
              clear hz1 k10 k2
              go_wp2
              go_ret
              rw [hr.out]
              exact ⟨rfl, hb⟩
            · have x3 : (op == 2) = false := by simpa using k2
              have x4 : (op != 2) = true := by simpa using k2
              have hr : Hid (Z = 1) := by show Z = 1; rw [← hz1.out, x1, x3]; rfl
              clear hz1 k10 k2
              go_wp2
              go_ret
              rw [hr.out]
              exact ⟨rfl, hb⟩
    · rw [decide_eq_false h2, Bool.false_and, Bool.and_false] at hZ
      have hr : Hid (Z = 1) := hZ.symm
      have b1 : decide ((F.length : Int) < 1) = false := by simp; omega
      have b2 : decide ((20000 : Int) < (F.length : Int)) = true := by simp; omega
      clear hF hfit h1 h2 hZ
      go_enter Try.func5, Try.ntmps5
      go_wp2
      go_ret
      rw [hr.out]
      exact ⟨rfl, Below.refl _ _⟩
  · rw [decide_eq_false h1, Bool.false_and] at hZ
    have hr : Hid (Z = 1) := hZ.symm
    have b1 : decide ((F.length : Int) < 1) = true := by simp; omega
    clear hF hfit h1 hZ
    go_enter Try.func5, Try.ntmps5
    go_wp2
    go_ret
    rw [hr.out]
    exact ⟨rfl, Below.refl _ _⟩
set_option maxHeartbeats 4000000 in
set_option maxRecDepth 20000 in
theorem implCode (o : Option Addr) (F : List Cd) (cap : Nat) (w : World) (hF : Cds w.heap.size w o F) (hlF : F.length ≤ 1048576) (hfit : ∀ c ∈ F, c.nd.fits 1048576) :
    Calls Try.prog 7 #[.slice o F.length cap] w fun e w' => e = .returned (.int .i64 (Co.code (Co.good F))) ∧ Below w.heap.size w w' := by
  obtain ⟨Z, hZ⟩ : ∃ Z, Co.code (Co.good F) = Z := ⟨_, rfl⟩
  rw [hZ]
  unfold Co.good at hZ
  by_cases h1 : 1 ≤ F.length
  · have b1 : ((F.length : Int) == 0) = false := by rw [beq_eq_false_iff_ne]; omega
    by_cases h2 : F.length ≤ 20000
    · rw [decide_eq_true h1, decide_eq_true h2, Bool.true_and, Bool.true_and] at hZ
      have b2 : decide ((20000 : Int) < (F.length : Int)) = false := by simp; omega
      obtain ⟨m, hm⟩ : ∃ m, F.length = m + 1 := ⟨F.length - 1, by omega⟩
      have hml : m < F.length := by omega
      rw [Co.last_at F m hm hml] at hZ
      have hmI : (F.length : Int) - 1 = (m : Int) := by omega
      have HF := mkH hF
      have Hfit := mkH hfit
      obtain ⟨a, vn, vk, vd, rfl, ha, hA, -⟩ := hF m hml
      have c0 := hA.c0
      have cL := mkH fun (w' : World) => implLast F[m].op w'
      replace hm := mkH hm
      clear hfit hA
      generalize F[m].op = op at *
      generalize ((op == 10) || (op == 2)) = L at *
      cases L
      · have hr : Hid (Z = 1) := by show Z = 1; rw [← hZ, Bool.false_and]; rfl
        clear hZ
        go_enter Try.func7, Try.ntmps7
        go_wp2_with fail
        refine (cL.out _).mono ?_
        rintro e w1 ⟨rfl, rfl⟩
        go_wp2
        go_ret
        rw [hr.out]
        exact ⟨rfl, Below.refl _ _⟩
      · rw [Bool.true_and] at hZ
        have HZ : Hid (Co.code ((F.drop 0).all fun c => Co.right c F.length) = Z) := by rw [List.drop_zero]; exact hZ
        clear hZ
        go_enter Try.func7, Try.ntmps7
        go_wp2_with fail
        refine (cL.out _).mono ?_
        rintro e w1 ⟨rfl, hw1⟩
        subst hw1
        clear cL c0
        go_wp2
        go_loopw [26] (fun iv wr => ∃ i : Nat, i ≤ F.length ∧ iv = .int .i64 i ∧ Hid (Co.code ((F.drop i).all fun c => Co.right c F.length) = Z) ∧ Below w.heap.size w wr) (fun iv _ => F.length - (Lib.intOf iv).toNat)
        case atStart => exact ⟨0, Nat.zero_le _, rfl, HZ, Below.refl _ _⟩
        case round =>
          clear HZ
          obtain ⟨i, hi, rfl, hz, hb⟩ := hrel
          by_cases hlt : i < F.length
          · obtain ⟨a', vn, vk, vd, ea, ha', hA, hI⟩ := (HF.out.below hb) i hlt
            cases ea
            have hz1 := hz.out
            rw [Co.all_drop F F.length i hlt, Co.right, ← Co.node_has] at hz1
            replace hz1 := mkH hz1
            have hnf := mkH (Hfit.out F[i] (List.getElem_mem hlt))
            have c0 := hA.c0
            have c1 := hA.c1
            have c2 := hA.c2
            have c3 := hA.c3
            have c4 := hA.c4
            have c5 := hA.c5
            have c6 := hA.c6
            have c7 := hA.c7
            have c8 := hA.c8
            clear hA hz
            generalize F[i] = n at *
            have hsz := hb.size
            have hI1 := hI.mono hb.size
            obtain ⟨⟨a1, e1, rfl, -⟩, ⟨a2, e2, rfl, -⟩, ⟨a3, e3, rfl, -⟩⟩ := hI
            obtain ⟨V, hV⟩ : ∃ V, V = wr.alloc (.cells #[.int .i64 n.op, .int .i64 n.to, .int .i64 n.nd.kind, .int .i64 n.nd.num, .int .i64 n.nd.mat, .string n.nd.text, .slice a1 n.nd.names.length e1, .slice a2 n.nd.keys.length e2, .slice a3 n.nd.kids.length e3] 39) := ⟨_, rfl⟩
            have hbV : Below wr.heap.size wr V := by rw [hV]; exact (Below.refl _ _).alloc (Nat.le_refl _) _
            have hVs : wr.heap.size < V.heap.size := by rw [hV]; simp
            have q0 : V.cell? ⟨wr.heap.size, 0, none⟩ = some (.int .i64 n.op) := by rw [hV]; simp
            have q1 : V.cell? ⟨wr.heap.size, 1, none⟩ = some (.int .i64 n.to) := by rw [hV]; simp
            have q2 : V.cell? ⟨wr.heap.size, 2, none⟩ = some (.int .i64 n.nd.kind) := by rw [hV]; simp
            have q3 : V.cell? ⟨wr.heap.size, 3, none⟩ = some (.int .i64 n.nd.num) := by rw [hV]; simp
            have q4 : V.cell? ⟨wr.heap.size, 4, none⟩ = some (.int .i64 n.nd.mat) := by rw [hV]; simp
            have q5 : V.cell? ⟨wr.heap.size, 5, none⟩ = some (.string n.nd.text) := by rw [hV]; simp
            have q6 : V.cell? ⟨wr.heap.size, 6, none⟩ = some (.slice a1 n.nd.names.length e1) := by rw [hV]; simp
            have q7 : V.cell? ⟨wr.heap.size, 7, none⟩ = some (.slice a2 n.nd.keys.length e2) := by rw [hV]; simp
            have q8 : V.cell? ⟨wr.heap.size, 8, none⟩ = some (.slice a3 n.nd.kids.length e3) := by rw [hV]; simp
            have cP := mkH (implPlace n _ _ _ F.length V ((hI1.below hbV).mono hbV.size))
            have cH := mkH fun (w' : World) (hb' : Below wr.heap.size wr w') => implHas n _ _ _ w' ((hI1.below hb').mono hb'.size) hnf.out
            unfold cdV at cP cH
            replace hV := mkH hV
            clear hI1
            generalize Co.place n F.length = bp at *
            generalize Co.has n = bh at *
            unfold Co.kid0 at hz1
            generalize n.nd.kids.length = L at *
            cases bp
            · have hr : Hid (Z = 1) := by show Z = 1; rw [← hz1.out, Bool.false_and, Bool.false_and]; rfl
              clear hz1 cH
              go_wp2_with fail
              rw [← hV.out]
              refine cP.out.mono ?_
              rintro e w2 ⟨rfl, hb2⟩
              have hbe := mkH ((hb.trans (hbV.mono hsz)).trans (hb2.mono (by omega)))
              clear cP c0 c1 c2 c3 c4 c5 c6 c7 c8 q0 q1 q2 q3 q4 q5 q6 q7 q8 hb2 hb hbV
              go_wp2
              go_ret
              rw [hr.out]
              exact ⟨rfl, hbe.out⟩
            · go_wp2_with fail
              rw [← hV.out]
              refine cP.out.mono ?_
              rintro e w2 ⟨rfl, hb2⟩
              have hbx := hbV.trans (hb2.mono hbV.size)
              have p0 := (hb2.cell (p := ⟨wr.heap.size, 0, none⟩) hVs).trans q0
              have p1 := (hb2.cell (p := ⟨wr.heap.size, 1, none⟩) hVs).trans q1
              have p2 := (hb2.cell (p := ⟨wr.heap.size, 2, none⟩) hVs).trans q2
              have p3 := (hb2.cell (p := ⟨wr.heap.size, 3, none⟩) hVs).trans q3
              have p4 := (hb2.cell (p := ⟨wr.heap.size, 4, none⟩) hVs).trans q4
              have p5 := (hb2.cell (p := ⟨wr.heap.size, 5, none⟩) hVs).trans q5
              have p6 := (hb2.cell (p := ⟨wr.heap.size, 6, none⟩) hVs).trans q6
              have p7 := (hb2.cell (p := ⟨wr.heap.size, 7, none⟩) hVs).trans q7
              have p8 := (hb2.cell (p := ⟨wr.heap.size, 8, none⟩) hVs).trans q8
              clear cP c0 c1 c2 c3 c4 c5 c6 c7 c8 q0 q1 q2 q3 q4 q5 q6 q7 q8 hb2 hbV hV hVs
              by_cases hk : L = 0
              · subst hk
                have hz2 := hz1.out
                rw [show ((((0 : Nat) : Int)) == 0) = true from rfl, Bool.true_and, Bool.true_and] at hz2
                replace hz2 := mkH hz2
                clear hz1
                cases bh
                · have hr : Hid (Z = 1) := by show Z = 1; rw [← hz2.out, Bool.false_and]; rfl
                  clear hz2
                  go_wp2_with fail
                  refine (cH.out w2 hbx).mono ?_
                  rintro e w3 ⟨rfl, hb3⟩
                  have hby := hbx.trans (hb3.mono hbx.size)
                  have hbe := mkH (hb.trans (hby.mono hsz))
                  clear cH p0 p1 p2 p3 p4 p5 p6 p7 p8 hb3 hb hbx hby
                  go_wp2
                  go_ret
                  rw [hr.out]
                  exact ⟨rfl, hbe.out⟩
                · have hr := hz2.out
                  rw [Bool.true_and] at hr
                  replace hr := mkH hr
                  clear hz2
                  go_wp2_with fail
                  refine (cH.out w2 hbx).mono ?_
                  rintro e w3 ⟨rfl, hb3⟩
                  have hby := hbx.trans (hb3.mono hbx.size)
                  have hbe := mkH (hb.trans (hby.mono hsz))
                  clear cH p0 p1 p2 p3 p4 p5 p6 p7 p8 hb3 hb hbx hby
                  go_wp2
                  go_roundw
                  case rel => exact ⟨i + 1, by omega, by go_num, hr, hbe.out⟩
                  case measure => simp [Lib.intOf]; omega
              · have y1 : ((L : Int) == 0) = false := by rw [beq_eq_false_iff_ne]; omega
                have y2 : 0 < L := by omega
                have hr : Hid (Z = 1) := by show Z = 1; rw [← hz1.out, y1, Bool.false_and, Bool.and_false, Bool.false_and]; rfl
                have hbe := mkH (hb.trans (hbx.mono hsz))
                clear hz1 hk cH hb hbx
                go_wp2
                go_ret
                rw [hr.out]
                exact ⟨rfl, hbe.out⟩
          · have hr : Hid (Z = 0) := by
              show Z = 0
              have := hz.out
              rw [List.drop_eq_nil_of_le (by omega), List.all_nil] at this
              exact this.symm
            go_wp2
            go_ret
            rw [hr.out]
            exact ⟨rfl, hb⟩
    · rw [decide_eq_false h2, Bool.false_and, Bool.and_false] at hZ
      have hr : Hid (Z = 1) := hZ.symm
      have b2 : decide ((20000 : Int) < (F.length : Int)) = true := by simp; omega
      clear hF hfit h1 h2 hZ
      go_enter Try.func7, Try.ntmps7
      go_wp2
      go_ret
      rw [hr.out]
      exact ⟨rfl, Below.refl _ _⟩
  · rw [decide_eq_false h1, Bool.false_and] at hZ
    have hr : Hid (Z = 1) := hZ.symm
    have b1 : ((F.length : Int) == 0) = true := by rw [beq_iff_eq]; omega
    clear hF hfit h1 hZ
    go_enter Try.func7, Try.ntmps7
    go_wp2
    go_ret
    rw [hr.out]
    exact ⟨rfl, Below.refl _ _⟩
end Go.Proofs.Ytopbokfloapbeaa
