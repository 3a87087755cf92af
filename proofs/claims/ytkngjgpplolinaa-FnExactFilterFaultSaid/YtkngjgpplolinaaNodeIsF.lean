
/- The program's isFilter. -/
import Derived.Test.YtkngjgpplolinaaNodeRightAll
import Derived.Lib.QuietBelow
import Derived.BigQuiet
namespace Go.Proofs.Ytkngjgpplolinaa
open Go.RowKit Go.Lib Go.Maps
namespace Tr
variable {ok : Nat → Bool} {kids : Nat → List Int}
theorem run_none (n : Nat) (h : run ok kids n = none) : ∀ m, n ≤ m → run ok kids m = none
  | 0, hm => by obtain rfl : n = 0 := by omega
                exact h
  | m + 1, hm => by
    by_cases e : n = m + 1
    · rw [← e]; exact h
    · have := run_none n h m (by omega)
      unfold run
      rw [this]
theorem run_kids : ∀ (n : Nat) (o : List Int), run ok kids n = some o → ∀ i, i < n → ∀ k ∈ kids i, 0 ≤ k ∧ k < (i : Int)
  | 0, o, _, i, hi => by omega
  | n + 1, o, h, i, hi => by
    unfold run at h
    split at h
    · cases h
    · rename_i p hp
      split at h
      · rename_i hc
        by_cases e : i = n
        · subst e
          intro k hk
          rw [← hc.2.1] at hk
          exact run_range i p hp k (List.mem_of_mem_drop hk)
        · exact run_kids n p hp i (by omega)
      · cases h
theorem run_len : ∀ (n : Nat) (o : List Int), run ok kids n = some o → o.length ≤ n
  | 0, o, h => by cases h; exact Nat.le_refl _
  | n + 1, o, h => by
    unfold run at h
    split at h
    · cases h
    · rename_i p hp
      split at h
      · cases h
        have := run_len n p hp
        rw [List.length_append, List.length_take, List.length_singleton]
        omega
      · cases h
end Tr
namespace Fn
theorem isF_none (F : List Nd) (i : Nat) (hi : i ≤ F.length) (h : Tr.run (okP F) (kids F) i = none) : isF F = false := by
  unfold isF
  rw [Tr.run_none i h F.length hi]
end Fn
theorem OwnN.form' {B : Nat} {v : Value} {P : List Int} {w : World} (h : OwnN B v P w) : ∃ o cap, v = .slice o P.length cap ∧ P.length ≤ cap ∧ (P = [] ∧ o = none ∧ cap = 0 ∨ ∃ g, o = some ⟨g, 0, none⟩ ∧ B ≤ g ∧ g < w.heap.size ∧ ∀ (j : Nat) (hj : j < P.length), w.cell? ⟨g, j, none⟩ = some (.int .i64 P[j])) := by
  have hl := World.ownsRow.lt h
  have hh := h
  rcases h.2 with ⟨rfl, h0⟩ | ⟨g, cap, cur, rfl, hB, -, hc, -⟩
  · exact ⟨none, 0, by rw [h0], by omega, .inl ⟨List.length_eq_zero_iff.1 h0, rfl, rfl⟩⟩
  · refine ⟨_, cap, rfl, hc, .inr ⟨g, rfl, hB, (hl g rfl).2, fun j hj => ?_⟩⟩
    have := World.ownsRow.cells hh (g := g) rfl j (.int .i64 P[j]) (by simp [numCells, hj])
    rwa [add_off] at this
theorem OwnN.cut {B n cap : Nat} {o : Option Addr} {P : List Int} {w : World} (h : OwnN B (.slice o n cap) P w) (k : Nat) (hk : k ≤ P.length) : OwnN B (.slice o k cap) (P.take k) w := by
  obtain ⟨h1, h2⟩ := h
  have hl : (P.take k).length = k := by rw [List.length_take]; omega
  refine ⟨by unfold numCells; rw [List.length_map, Nat.mul_one], ?_⟩
  rcases h2 with ⟨h2, h3⟩ | ⟨g', cap', cur, e1, e2, e3, e4, e5, e6, e7⟩
  · cases h2
    obtain rfl : k = 0 := by omega
    exact .inl ⟨rfl, by simp⟩
  · cases e1
    refine .inr ⟨g', cap, cur, by rw [hl], e2, e3, by omega, e5, e6, ?_⟩
    rw [hl, Nat.mul_one]
    rw [Nat.mul_one] at e7
    have e10 := congrArg (List.take k) e7
    rw [List.take_take, Nat.min_eq_left hk] at e10
    rw [e10]
    unfold numCells
    rw [List.map_take]
/-- What lies from a place on, as a list that is handed on. -/
theorem ints_drop {B : Nat} {P : List Int} {o o' : Option Addr} {cap m : Nat} {w : World} (hm : m ≤ P.length) (hc : P.length ≤ cap) (h : P = [] ∧ o = none ∧ cap = 0 ∨ ∃ g, o = some ⟨g, 0, none⟩ ∧ g < B ∧ ∀ (j : Nat) (hj : j < P.length), w.cell? ⟨g, j, none⟩ = some (.int .i64 P[j])) (ho : o' = (if cap = m then o else o.map (·.add m))) : Ints B w o' (P.drop m) := by
  intro k hk
  rw [List.length_drop] at hk
  rcases h with ⟨rfl, -, -⟩ | ⟨g, rfl, hg, hcell⟩
  · simp at hk
  · rw [if_neg (by omega)] at ho
    refine ⟨⟨g, m, none⟩, by rw [ho, Option.map_some, add_off], hg, ?_⟩
    rw [show (⟨g, m, none⟩ : Addr).add k = ⟨g, m + k, none⟩ by simp [Addr.add], hcell (m + k) (by omega), List.getElem_drop]
set_option maxHeartbeats 20000000 in
set_option maxRecDepth 20000 in
theorem implIsFilter (o : Option Addr) (F : List Nd) (cap : Nat) (w : World) (hF : Nds w.heap.size w o F) (hlF : F.length ≤ 2000) (h1 : 1 ≤ F.length) (hfit : ∀ n ∈ F, n.fits 1048576) :
    Calls Try.prog 12 #[.slice o F.length cap] w fun e w' => e = .returned (.bool (Fn.isF F)) ∧ Below w.heap.size w w' := by
  obtain ⟨i0, hi, hy0, hy1, hy2⟩ := info_parts Try.info2
  have HF := mkH hF
  have Hfit := mkH hfit
  clear hF hfit
  obtain ⟨R, hR⟩ : ∃ R, Fn.isF F = R := ⟨_, rfl⟩
  rw [hR]
  replace hR := mkH hR
  go_enter Try.func12, Try.ntmps12
  go_wp2
  generalize hG : w.heap.size = G at *
  go_loopw [3, 9] (fun v iv wr => ∃ (i : Nat) (P : List Int), i ≤ F.length ∧ iv = .int .i64 i ∧ OwnN G v P wr ∧ Hid (Tr.run (Fn.okP F) (Fn.kids F) i = some P) ∧ Below G w wr) (fun _ iv _ => F.length - (Lib.intOf iv).toNat)
  case atStart => exact ⟨0, [], Nat.zero_le _, rfl, OwnN.nil _ _, rfl, hG ▸ Below.refl _ _⟩
  case round =>
    obtain ⟨i, P, hi', rfl, hown, hrun, hb⟩ := hrel
    obtain ⟨oo, cc, rfl, hcc, hform⟩ := hown.form'
    by_cases hlt : i < F.length
    · obtain ⟨a, vn, vk, vd, rfl, ha, hA0, hI⟩ := HF.out i hlt
      have hA := hA0.below hb (by rw [add_blockN]; exact ha)
      clear hA0
      obtain ⟨⟨a1, e1, rfl, t1⟩, ⟨a2, e2, rfl, t2⟩, ⟨a3, e3, rfl, t3⟩⟩ := hI
      have hkids : Hid (Fn.kids F i = F[i].kids) := by show Fn.kids F i = _; unfold Fn.kids; rw [List.getElem?_eq_getElem hlt]; rfl
      have hokP : Hid (Fn.okP F i = (Fn.right F[i] && Fn.kidsOk F[i].kind (F[i].kids.map (Fn.kindAt F)))) := by show Fn.okP F i = _; unfold Fn.okP; rw [List.getElem?_eq_getElem hlt]; rfl
      have hnf := mkH (Hfit.out F[i] (List.getElem_mem hlt))
      have hrange := mkH (Tr.run_range i P hrun.out)
      have hPl : P.length ≤ 2000 := Nat.le_trans (Tr.run_len i P hrun.out) (by omega)
      have c0 := hA.c0
      have c1 := hA.c1
      have c2 := hA.c2
      have c3 := hA.c3
      have c4 := hA.c4
      have c5 := hA.c5
      have c6 := hA.c6
      have hkl : F[i].kids.length ≤ 1048576 := hnf.out.2.2.2.2.2
      replace t1 := mkH t1
      replace t2 := mkH t2
      replace t3 := mkH t3
      have hsz := hb.size
      clear hA
      generalize F[i] = n at *
      have hb0 := mkH (hb.alloc (by omega) (.cells #[.int .i64 n.kind, .int .i64 n.num, .int .i64 n.mat, .string n.text, .slice a1 n.names.length e1, .slice a2 n.keys.length e2, .slice a3 n.kids.length e3] 34))
      have hown0 := mkH (hown.alloc (.cells #[.int .i64 n.kind, .int .i64 n.num, .int .i64 n.mat, .string n.text, .slice a1 n.names.length e1, .slice a2 n.keys.length e2, .slice a3 n.kids.length e3] 34))
      obtain ⟨V, hV⟩ : ∃ V, V = wr.alloc (.cells #[.int .i64 n.kind, .int .i64 n.num, .int .i64 n.mat, .string n.text, .slice a1 n.names.length e1, .slice a2 n.keys.length e2, .slice a3 n.kids.length e3] 34) := ⟨_, rfl⟩
      replace hV := mkH hV
      by_cases hle : n.kids.length ≤ P.length
      · obtain ⟨m, hm⟩ : ∃ m, P.length = m + n.kids.length := ⟨P.length - n.kids.length, by omega⟩
        have hmI : (P.length : Int) - (n.kids.length : Int) = (m : Int) := by omega
        have hneg : decide ((m : Int) < 0) = false := by simp
        have hm' := mkH hm
        have Hcc := mkH hcc
        clear hm
        clear hcc
        go_wp2
        rw [← hV.out]
        have HFV := mkH (HF.out.below hb0.out)
        have ht1 := mkH (t1.out.below hb0.out)
        have ht2 := mkH (t2.out.below hb0.out)
        have ht3 := mkH (t3.out.below hb0.out)
        rw [← hV.out] at hb0 hown0 HFV ht1 ht2 ht3
        have q0 : V.cell? ⟨wr.heap.size, 0, none⟩ = some (.int .i64 n.kind) := by rw [hV.out]; simp
        have q1 : V.cell? ⟨wr.heap.size, 1, none⟩ = some (.int .i64 n.num) := by rw [hV.out]; simp
        have q2 : V.cell? ⟨wr.heap.size, 2, none⟩ = some (.int .i64 n.mat) := by rw [hV.out]; simp
        have q3 : V.cell? ⟨wr.heap.size, 3, none⟩ = some (.string n.text) := by rw [hV.out]; simp
        have q4 : V.cell? ⟨wr.heap.size, 4, none⟩ = some (.slice a1 n.names.length e1) := by rw [hV.out]; simp
        have q5 : V.cell? ⟨wr.heap.size, 5, none⟩ = some (.slice a2 n.keys.length e2) := by rw [hV.out]; simp
        have q6 : V.cell? ⟨wr.heap.size, 6, none⟩ = some (.slice a3 n.kids.length e3) := by rw [hV.out]; simp
        have hVs : V.heap.size = wr.heap.size + 1 := by rw [hV.out]; simp
        have hGV : G ≤ V.heap.size := by omega
        have hformV := OwnN.form' (show OwnN G (.slice oo P.length cc) P V from hown0.out)
        clear c0 c1 c2 c3 c4 c5 c6 hform hV hb hown
        generalize wr.heap.size = g1 at *
        have hdl : Hid ((P.drop m).length = n.kids.length) := by show _ = _; rw [List.length_drop]; have := hm'.out; omega
        have hEq : Hid (∀ o' c, o' = (if cc = m then oo else oo.map (·.add m)) → ∀ d os, Calls Try.prog 20 #[.slice o' n.kids.length c, .slice a3 n.kids.length e3] (Go.Sort.grow (redrawn V d) os) fun e w'' => e = .returned (.bool (decide (P.drop m = n.kids))) ∧ ∃ p : Regrown, w'' = Go.Sort.grow (redrawn V p.d) p.os) := by
          intro o' c ho d os
          have hbb := below_regrown V d os
          have i1 : Ints V.heap.size V o' (P.drop m) := by
            obtain ⟨o2, c2, e2', l2, f2⟩ := hformV
            cases e2'
            refine ints_drop (cap := cc) (o := oo) (by have := hm'.out; omega) Hcc.out ?_ ho
            rcases f2 with f2 | ⟨g, f2, -, f3, f4⟩
            · exact .inl f2
            · exact .inr ⟨g, f2, f3, f4⟩
          have := implEqual o' a3 (P.drop m) n.kids c e3 (Go.Sort.grow (redrawn V d) os) ((i1.below hbb).mono hbb.size) (((ht3.out.mono hGV).below hbb).mono hbb.size) (by rw [hdl.out]; exact hkl) hkl
          rw [hdl.out] at this
          exact Calls.regrown_of this
        clear hformV
        have q6' := cell_regrown q6
        have hmle : m ≤ P.length := by have := hm'.out; omega
        have hPm : P.length - m = n.kids.length := by have := hm'.out; omega
        by_cases heq : P.drop m = n.kids
        · rw [decide_eq_true heq] at hEq
          replace heq := mkH heq
          refine wp_region_quiet_below (by kernel_rfl) (by kernel_rfl) ?_
          quiet_step (fail)
          quiet_step (fail)
          quiet_step (fail)
          quiet_step (fail)
          quiet_step (fail)
          quiet_step (fail)
          quiet_step (fail)
          quiet_step (fail)
          quiet_step (exact hEq.out _ _ rfl _ _)
          repeat (quiet_step (fail))
          refine wpQuiet_nil ?_
          intro _ hw'
          obtain ⟨⟨dq, osq⟩, hw''⟩ := hw'
          subst hw''
          clear hEq
          generalize (if cc = m then oo else Option.map (fun x => x.add m) oo) = od
          have hbq := mkH (hb0.out.trans ((below_regrown V dq osq).mono hGV))
          have hbV := below_regrown V dq osq
          have hg1 : g1 < V.heap.size := by omega
          have p0 := (hbV.cell (p := ⟨g1, 0, none⟩) hg1).trans q0
          have p1 := (hbV.cell (p := ⟨g1, 1, none⟩) hg1).trans q1
          have p2 := (hbV.cell (p := ⟨g1, 2, none⟩) hg1).trans q2
          have p3 := (hbV.cell (p := ⟨g1, 3, none⟩) hg1).trans q3
          have p4 := (hbV.cell (p := ⟨g1, 4, none⟩) hg1).trans q4
          have p5 := (hbV.cell (p := ⟨g1, 5, none⟩) hg1).trans q5
          have p6 := (hbV.cell (p := ⟨g1, 6, none⟩) hg1).trans q6
          have u1 := mkH (((ht1.out.mono hGV).below hbV).mono hbV.size)
          have u2 := mkH (((ht2.out.mono hGV).below hbV).mono hbV.size)
          have u3 := mkH (((ht3.out.mono hGV).below hbV).mono hbV.size)
          have uF := mkH (((HFV.out.mono hGV).below hbV).mono hbV.size)
          have hownW := mkH (OwnN.keep (show OwnN G (.slice oo P.length cc) P V from hown0.out) (Nat.le_refl _) hbV)
          replace hg1 : g1 < (Go.Sort.grow (redrawn V dq) osq).heap.size := Nat.lt_of_lt_of_le hg1 hbV.size
          have hGW : G ≤ (Go.Sort.grow (redrawn V dq) osq).heap.size := Nat.le_trans hGV hbV.size
          clear q0 q1 q2 q3 q4 q5 q6 q6' hbV ht1 ht2 ht3 HFV hown0 hVs hGV
          generalize Go.Sort.grow (redrawn V dq) osq = W1 at *
          have hbG := hbq
          clear hbq hb0
          have q0 := p0
          have q6 := p6
          have cR : Hid (∀ W' : World, Below W1.heap.size W1 W' → Calls Try.prog 21 #[.agg #[.int .i64 n.kind, .int .i64 n.num, .int .i64 n.mat, .string n.text, .slice a1 n.names.length e1, .slice a2 n.keys.length e2, .slice a3 n.kids.length e3]] W' fun e w'' => e = .returned (.bool (Fn.right n)) ∧ Below W1.heap.size W1 w'') := fun W' hb' =>
            (implRight n a1 a2 a3 e1 e2 e3 n.kids.length W' ((u1.out.below hb').mono hb'.size) ((u2.out.below hb').mono hb'.size) hnf.out).mono fun e w'' ⟨x1, x2⟩ => ⟨x1, hb'.trans (x2.mono hb'.size)⟩
          by_cases hright : Fn.right n = true
          · rw [hright] at cR
            obtain ⟨ks, hks⟩ : ∃ ks, n.kids.map (Fn.kindAt F) = ks := ⟨_, rfl⟩
            have hksl : ks.length = n.kids.length := by rw [← hks, List.length_map]
            have hin : Hid (∀ j (h : j < n.kids.length) (h' : j < ks.length), ∃ q : Nat, n.kids[j] = (q : Int) ∧ ∃ hq : q < F.length, F[q].kind = ks[j]) := by
              intro j h h'
              have hmem : n.kids[j] ∈ P := by
                have : n.kids[j] ∈ P.drop m := by rw [heq.out]; exact List.getElem_mem h
                exact List.mem_of_mem_drop this
              obtain ⟨z1, z2⟩ := hrange.out _ hmem
              refine ⟨n.kids[j].toNat, by omega, by omega, ?_⟩
              subst hks
              rw [List.getElem_map]
              unfold Fn.kindAt
              rw [List.getElem?_eq_getElem (by omega)]
              rfl
            have cK : Hid (∀ W' : World, Below W1.heap.size W1 W' → Calls Try.prog 23 #[.slice (some a) F.length cap, .slice a3 n.kids.length e3] W' fun e w'' => ∃ v, e = .returned v ∧ (∃ o c, v = .slice o ks.length c ∧ ks.length ≤ c ∧ Ints w''.heap.size w'' o ks) ∧ Below W1.heap.size W1 w'') := fun W' hb' =>
              (implKinds (some a) a3 F n.kids ks cap e3 W' ((uF.out.below hb').mono hb'.size) ((u3.out.below hb').mono hb'.size) (by omega) hksl hin.out).mono fun e w'' ⟨v, x1, x2, x3⟩ => by
                refine ⟨v, x1, ?_, hb'.trans (x3.mono hb'.size)⟩
                obtain ⟨o2, c2, y1, y2⟩ := x2.ints
                obtain ⟨o4, c4, z1, z2, -⟩ := x2.form'
                subst z1
                cases y1
                exact ⟨_, _, rfl, z2, y2⟩
            have hkl2 : ks.length ≤ 1048576 := by omega
            have cA : Hid (∀ (W' : World) (o : Option Addr) (c : Nat), Ints W'.heap.size W' o ks → ks.length ≤ c → Below W1.heap.size W1 W' → Calls Try.prog 22 #[.int .i64 n.kind, .slice o ks.length c] W' fun e w'' => e = .returned (.bool (Fn.kidsOk n.kind ks)) ∧ Below W1.heap.size W1 w'') := fun W' o c hi' hc' hb' =>
              (implRKids n.kind o ks c W' hi' hkl2 hc').mono fun e w'' ⟨x1, x2⟩ => ⟨x1, hb'.trans (x2.mono hb'.size)⟩
            have hbW : Below W1.heap.size W1 W1 := Below.refl _ _
            replace hks := mkH hks
            replace hright := mkH hright
            clear hksl hkl2
            by_cases hkok : Fn.kidsOk n.kind ks = true
            · rw [hkok] at cA
              have hrun' : Hid (Tr.run (Fn.okP F) (Fn.kids F) (i + 1) = some (P.take m ++ [(i : Int)])) := by
                show _ = _
                unfold Tr.run
                rw [hrun.out]
                dsimp only
                rw [hkids.out, show P.length - n.kids.length = m by have := hm'.out; omega]
                rw [if_pos ⟨hle, heq.out, by rw [hokP.out, hright.out, hks.out, hkok]; rfl⟩]
              have htl : (P.take m).length ≤ 1000000 := by rw [List.length_take]; omega
              have hmcc : m ≤ cc := by have := Hcc.out; omega
              clear hkok
              go_wp2
              refine wp_region_any (by kernel_rfl) ?_
              refine wpAny_ready (rs := [0]) (by kernel_rfl) (by simp) ?_
              refine AllReady.cons rfl (fun K hK => ?_) AllReady.nil
              go_simp
              refine hK _ _ ?_
              clear hK K
              go_simp
              refine wpAny_ready (rs := [1]) (by kernel_rfl) (by simp) ?_
              refine AllReady.cons rfl (fun K hK => ?_) AllReady.nil
              go_simp
              go_wp2_with fail
              refine (cR.out _ (by first | exact hbW | exact hbW.drew | exact hbW.drew.drew | exact hbW.drew.drew.drew)).mono ?_
              rintro e w2 ⟨rfl, hb2⟩
              have r0 := (hb2.cell (p := ⟨g1, 0, none⟩) hg1).trans q0
              have r6 := (hb2.cell (p := ⟨g1, 6, none⟩) hg1).trans q6
              show K _ w2
              refine hK _ _ ?_
              clear hK K
              go_simp
              refine wpAny_take (i := 2) (v := .bool false) rfl (by kernel_rfl) (by kernel_rfl) (by kernel_rfl) (fun _ _ _ h => h) (Or.inl ⟨by rfl, ?_⟩) ?_
              · intro w
                go_simp
                all_goals first | done | omega | (intro h; exfalso; omega)
              go_simp
              refine wpAny_take (i := 3) (v := .bool false) rfl (by kernel_rfl) (by kernel_rfl) (by kernel_rfl) (fun _ _ _ h => h) (Or.inl ⟨by rfl, ?_⟩) ?_
              · intro w
                go_simp
                all_goals first | done | omega | (intro h; exfalso; omega)
              go_simp
              refine wpAny_take (i := 4) (v := .pointer (some ⟨g1, 0, none⟩)) rfl (by kernel_rfl) (by kernel_rfl) (by kernel_rfl) (fun _ _ _ h => h) (Or.inl ⟨by rfl, ?_⟩) ?_
              · intro w
                go_simp
                all_goals first | done | omega | (intro h; exfalso; omega)
              go_simp
              refine wpAny_take (i := 6) (v := .slice (some a) F.length cap) rfl (by kernel_rfl) (by kernel_rfl) (by kernel_rfl) (fun _ _ _ h => h) (Or.inl ⟨by rfl, ?_⟩) ?_
              · intro w
                go_simp
                all_goals first | done | omega | (intro h; exfalso; omega)
              go_simp
              refine wpAny_take (i := 7) (v := .pointer (some ⟨g1, 6, none⟩)) rfl (by kernel_rfl) (by kernel_rfl) (by kernel_rfl) (fun _ _ _ h => h) (Or.inl ⟨by rfl, ?_⟩) ?_
              · intro w
                go_simp
                all_goals first | done | omega | (intro h; exfalso; omega)
              go_simp
              refine wpAny_ready (rs := [5, 8]) (by kernel_rfl) (by simp) ?_
              refine AllReady.cons rfl (fun K hK => ?_) (AllReady.cons rfl (fun K hK => ?_) AllReady.nil)
              · go_simp
                refine hK _ _ ?_
                clear hK K
                go_simp
                refine wpAny_ready (rs := [8]) (by kernel_rfl) (by simp) ?_
                refine AllReady.cons rfl (fun K hK => ?_) AllReady.nil
                go_simp
                refine hK _ _ ?_
                clear hK K
                go_simp
                refine wpAny_ready (rs := [9]) (by kernel_rfl) (by simp) ?_
                refine AllReady.cons rfl (fun K hK => ?_) AllReady.nil
                go_simp
                go_wp2_with fail
                refine (cK.out _ (by first | exact hb2 | exact hb2.drew | exact hb2.drew.drew | exact hb2.drew.drew.drew)).mono ?_
                rintro e w3 ⟨v3, rfl, ⟨o3, c3, rfl, hc3, hi3⟩, hb3⟩
                have s0 := (hb3.cell (p := ⟨g1, 0, none⟩) hg1).trans q0
                show K _ w3
                refine hK _ _ ?_
                clear hK K
                go_simp
                refine wpAny_ready (rs := [10]) (by kernel_rfl) (by simp) ?_
                refine AllReady.cons rfl (fun K hK => ?_) AllReady.nil
                go_simp
                go_wp2_with fail
                refine (cA.out _ o3 c3 (by first | exact hi3 | exact hi3.drew | exact hi3.below (Below.refl _ _).drew) hc3 (by first | exact hb3 | exact hb3.drew | exact hb3.drew.drew | exact hb3.drew.drew.drew)).mono ?_
                rintro e w4 ⟨rfl, hb4⟩
                show K _ w4
                refine hK _ _ ?_
                clear hK K
                go_simp
                refine wpAny_take (i := 11) (v := .bool false) rfl (by kernel_rfl) (by kernel_rfl) (by kernel_rfl) (fun _ _ _ h => h) (Or.inl ⟨by rfl, ?_⟩) ?_
                · intro w
                  go_simp
                  all_goals first | done | omega | (intro h; exfalso; omega)
                go_simp
                refine wpAny_take (i := 12) (v := .bool false) rfl (by kernel_rfl) (by kernel_rfl) (by kernel_rfl) (fun _ _ _ h => h) (Or.inl ⟨by rfl, ?_⟩) ?_
                · intro w
                  go_simp
                  all_goals first | done | omega | (intro h; exfalso; omega)
                go_simp
                refine wpAny_done (by kernel_rfl) ?_ _
                have hbe := hbG.out.trans (hb4.mono hGW)
                have hcut := OwnN.cut (OwnN.keep hownW.out (Nat.le_refl _) hb4) m hmle
                go_wp2_with (at_builtin; go_must (refine wp_appN (W := w) rfl _ _ 31 rfl i0 Try.underlying31 hi hy0 hy1 hy2 G (.slice oo m cc) (P.take m) rfl hcut (i : Int) rfl htl (by omega) hbe ?_; intro v' w' hown' hb'))
                go_roundw
                case rel => exact ⟨i + 1, P.take m ++ [(i : Int)], by omega, by go_num, hown', hrun', hb'⟩
                case measure => simp [Lib.intOf]; omega
              · go_simp
                refine hK _ _ ?_
                clear hK K
                go_simp
                refine wpAny_ready (rs := [5, 9]) (by kernel_rfl) (by simp) ?_
                refine AllReady.cons rfl (fun K hK => ?_) (AllReady.cons rfl (fun K hK => ?_) AllReady.nil)
                · go_simp
                  refine hK _ _ ?_
                  clear hK K
                  go_simp
                  refine wpAny_ready (rs := [9]) (by kernel_rfl) (by simp) ?_
                  refine AllReady.cons rfl (fun K hK => ?_) AllReady.nil
                  go_simp
                  go_wp2_with fail
                  refine (cK.out _ (by first | exact hb2 | exact hb2.drew | exact hb2.drew.drew | exact hb2.drew.drew.drew)).mono ?_
                  rintro e w3 ⟨v3, rfl, ⟨o3, c3, rfl, hc3, hi3⟩, hb3⟩
                  have s0 := (hb3.cell (p := ⟨g1, 0, none⟩) hg1).trans q0
                  show K _ w3
                  refine hK _ _ ?_
                  clear hK K
                  go_simp
                  refine wpAny_ready (rs := [10]) (by kernel_rfl) (by simp) ?_
                  refine AllReady.cons rfl (fun K hK => ?_) AllReady.nil
                  go_simp
                  go_wp2_with fail
                  refine (cA.out _ o3 c3 (by first | exact hi3 | exact hi3.drew | exact hi3.below (Below.refl _ _).drew) hc3 (by first | exact hb3 | exact hb3.drew | exact hb3.drew.drew | exact hb3.drew.drew.drew)).mono ?_
                  rintro e w4 ⟨rfl, hb4⟩
                  show K _ w4
                  refine hK _ _ ?_
                  clear hK K
                  go_simp
                  refine wpAny_take (i := 11) (v := .bool false) rfl (by kernel_rfl) (by kernel_rfl) (by kernel_rfl) (fun _ _ _ h => h) (Or.inl ⟨by rfl, ?_⟩) ?_
                  · intro w
                    go_simp
                    all_goals first | done | omega | (intro h; exfalso; omega)
                  go_simp
                  refine wpAny_take (i := 12) (v := .bool false) rfl (by kernel_rfl) (by kernel_rfl) (by kernel_rfl) (fun _ _ _ h => h) (Or.inl ⟨by rfl, ?_⟩) ?_
                  · intro w
                    go_simp
                    all_goals first | done | omega | (intro h; exfalso; omega)
                  go_simp
                  refine wpAny_done (by kernel_rfl) ?_ _
                  have hbe := hbG.out.trans (hb4.mono hGW)
                  have hcut := OwnN.cut (OwnN.keep hownW.out (Nat.le_refl _) hb4) m hmle
                  go_wp2_with (at_builtin; go_must (refine wp_appN (W := w) rfl _ _ 31 rfl i0 Try.underlying31 hi hy0 hy1 hy2 G (.slice oo m cc) (P.take m) rfl hcut (i : Int) rfl htl (by omega) hbe ?_; intro v' w' hown' hb'))
                  go_roundw
                  case rel => exact ⟨i + 1, P.take m ++ [(i : Int)], by omega, by go_num, hown', hrun', hb'⟩
                  case measure => simp [Lib.intOf]; omega
                · go_simp
                  go_wp2_with fail
                  refine (cK.out _ (by first | exact hb2 | exact hb2.drew | exact hb2.drew.drew | exact hb2.drew.drew.drew)).mono ?_
                  rintro e w3 ⟨v3, rfl, ⟨o3, c3, rfl, hc3, hi3⟩, hb3⟩
                  have s0 := (hb3.cell (p := ⟨g1, 0, none⟩) hg1).trans q0
                  show K _ w3
                  refine hK _ _ ?_
                  clear hK K
                  go_simp
                  refine wpAny_ready (rs := [5]) (by kernel_rfl) (by simp) ?_
                  refine AllReady.cons rfl (fun K hK => ?_) AllReady.nil
                  go_simp
                  refine hK _ _ ?_
                  clear hK K
                  go_simp
                  refine wpAny_ready (rs := [10]) (by kernel_rfl) (by simp) ?_
                  refine AllReady.cons rfl (fun K hK => ?_) AllReady.nil
                  go_simp
                  go_wp2_with fail
                  refine (cA.out _ o3 c3 (by first | exact hi3 | exact hi3.drew | exact hi3.below (Below.refl _ _).drew) hc3 (by first | exact hb3 | exact hb3.drew | exact hb3.drew.drew | exact hb3.drew.drew.drew)).mono ?_
                  rintro e w4 ⟨rfl, hb4⟩
                  show K _ w4
                  refine hK _ _ ?_
                  clear hK K
                  go_simp
                  refine wpAny_take (i := 11) (v := .bool false) rfl (by kernel_rfl) (by kernel_rfl) (by kernel_rfl) (fun _ _ _ h => h) (Or.inl ⟨by rfl, ?_⟩) ?_
                  · intro w
                    go_simp
                    all_goals first | done | omega | (intro h; exfalso; omega)
                  go_simp
                  refine wpAny_take (i := 12) (v := .bool false) rfl (by kernel_rfl) (by kernel_rfl) (by kernel_rfl) (fun _ _ _ h => h) (Or.inl ⟨by rfl, ?_⟩) ?_
                  · intro w
                    go_simp
                    all_goals first | done | omega | (intro h; exfalso; omega)
                  go_simp
                  refine wpAny_done (by kernel_rfl) ?_ _
                  have hbe := hbG.out.trans (hb4.mono hGW)
                  have hcut := OwnN.cut (OwnN.keep hownW.out (Nat.le_refl _) hb4) m hmle
                  go_wp2_with (at_builtin; go_must (refine wp_appN (W := w) rfl _ _ 31 rfl i0 Try.underlying31 hi hy0 hy1 hy2 G (.slice oo m cc) (P.take m) rfl hcut (i : Int) rfl htl (by omega) hbe ?_; intro v' w' hown' hb'))
                  go_roundw
                  case rel => exact ⟨i + 1, P.take m ++ [(i : Int)], by omega, by go_num, hown', hrun', hb'⟩
                  case measure => simp [Lib.intOf]; omega
            · have hkok' : Fn.kidsOk n.kind ks = false := by simpa using hkok
              rw [hkok'] at cA
              have hr0 : Hid (R = false) := by
                show R = false
                rw [← hR.out]
                refine Fn.isF_none F (i + 1) (by omega) ?_
                unfold Tr.run
                rw [hrun.out]
                dsimp only
                rw [if_neg]
                rw [hokP.out, hks.out, hkok', Bool.and_false]
                exact fun h => Bool.noConfusion h.2.2
              clear hkok hkok'
              go_wp2
              refine wp_region_any (by kernel_rfl) ?_
              refine wpAny_ready (rs := [0]) (by kernel_rfl) (by simp) ?_
              refine AllReady.cons rfl (fun K hK => ?_) AllReady.nil
              go_simp
              refine hK _ _ ?_
              clear hK K
              go_simp
              refine wpAny_ready (rs := [1]) (by kernel_rfl) (by simp) ?_
              refine AllReady.cons rfl (fun K hK => ?_) AllReady.nil
              go_simp
              go_wp2_with fail
              refine (cR.out _ (by first | exact hbW | exact hbW.drew | exact hbW.drew.drew | exact hbW.drew.drew.drew)).mono ?_
              rintro e w2 ⟨rfl, hb2⟩
              have r0 := (hb2.cell (p := ⟨g1, 0, none⟩) hg1).trans q0
              have r6 := (hb2.cell (p := ⟨g1, 6, none⟩) hg1).trans q6
              show K _ w2
              refine hK _ _ ?_
              clear hK K
              go_simp
              refine wpAny_take (i := 2) (v := .bool false) rfl (by kernel_rfl) (by kernel_rfl) (by kernel_rfl) (fun _ _ _ h => h) (Or.inl ⟨by rfl, ?_⟩) ?_
              · intro w
                go_simp
                all_goals first | done | omega | (intro h; exfalso; omega)
              go_simp
              refine wpAny_take (i := 3) (v := .bool false) rfl (by kernel_rfl) (by kernel_rfl) (by kernel_rfl) (fun _ _ _ h => h) (Or.inl ⟨by rfl, ?_⟩) ?_
              · intro w
                go_simp
                all_goals first | done | omega | (intro h; exfalso; omega)
              go_simp
              refine wpAny_take (i := 4) (v := .pointer (some ⟨g1, 0, none⟩)) rfl (by kernel_rfl) (by kernel_rfl) (by kernel_rfl) (fun _ _ _ h => h) (Or.inl ⟨by rfl, ?_⟩) ?_
              · intro w
                go_simp
                all_goals first | done | omega | (intro h; exfalso; omega)
              go_simp
              refine wpAny_take (i := 6) (v := .slice (some a) F.length cap) rfl (by kernel_rfl) (by kernel_rfl) (by kernel_rfl) (fun _ _ _ h => h) (Or.inl ⟨by rfl, ?_⟩) ?_
              · intro w
                go_simp
                all_goals first | done | omega | (intro h; exfalso; omega)
              go_simp
              refine wpAny_take (i := 7) (v := .pointer (some ⟨g1, 6, none⟩)) rfl (by kernel_rfl) (by kernel_rfl) (by kernel_rfl) (fun _ _ _ h => h) (Or.inl ⟨by rfl, ?_⟩) ?_
              · intro w
                go_simp
                all_goals first | done | omega | (intro h; exfalso; omega)
              go_simp
              refine wpAny_ready (rs := [5, 8]) (by kernel_rfl) (by simp) ?_
              refine AllReady.cons rfl (fun K hK => ?_) (AllReady.cons rfl (fun K hK => ?_) AllReady.nil)
              · go_simp
                refine hK _ _ ?_
                clear hK K
                go_simp
                refine wpAny_ready (rs := [8]) (by kernel_rfl) (by simp) ?_
                refine AllReady.cons rfl (fun K hK => ?_) AllReady.nil
                go_simp
                refine hK _ _ ?_
                clear hK K
                go_simp
                refine wpAny_ready (rs := [9]) (by kernel_rfl) (by simp) ?_
                refine AllReady.cons rfl (fun K hK => ?_) AllReady.nil
                go_simp
                go_wp2_with fail
                refine (cK.out _ (by first | exact hb2 | exact hb2.drew | exact hb2.drew.drew | exact hb2.drew.drew.drew)).mono ?_
                rintro e w3 ⟨v3, rfl, ⟨o3, c3, rfl, hc3, hi3⟩, hb3⟩
                have s0 := (hb3.cell (p := ⟨g1, 0, none⟩) hg1).trans q0
                show K _ w3
                refine hK _ _ ?_
                clear hK K
                go_simp
                refine wpAny_ready (rs := [10]) (by kernel_rfl) (by simp) ?_
                refine AllReady.cons rfl (fun K hK => ?_) AllReady.nil
                go_simp
                go_wp2_with fail
                refine (cA.out _ o3 c3 (by first | exact hi3 | exact hi3.drew | exact hi3.below (Below.refl _ _).drew) hc3 (by first | exact hb3 | exact hb3.drew | exact hb3.drew.drew | exact hb3.drew.drew.drew)).mono ?_
                rintro e w4 ⟨rfl, hb4⟩
                show K _ w4
                refine hK _ _ ?_
                clear hK K
                go_simp
                refine wpAny_take (i := 11) (v := .bool true) rfl (by kernel_rfl) (by kernel_rfl) (by kernel_rfl) (fun _ _ _ h => h) (Or.inl ⟨by rfl, ?_⟩) ?_
                · intro w
                  go_simp
                  all_goals first | done | omega | (intro h; exfalso; omega)
                go_simp
                refine wpAny_take (i := 12) (v := .bool true) rfl (by kernel_rfl) (by kernel_rfl) (by kernel_rfl) (fun _ _ _ h => h) (Or.inl ⟨by rfl, ?_⟩) ?_
                · intro w
                  go_simp
                  all_goals first | done | omega | (intro h; exfalso; omega)
                go_simp
                refine wpAny_done (by kernel_rfl) ?_ _
                have hbe := mkH (hbG.out.trans (hb4.mono hGW))
                go_wp2
                go_ret
                rw [hr0.out, hG]
                exact ⟨rfl, hbe.out⟩
              · go_simp
                refine hK _ _ ?_
                clear hK K
                go_simp
                refine wpAny_ready (rs := [5, 9]) (by kernel_rfl) (by simp) ?_
                refine AllReady.cons rfl (fun K hK => ?_) (AllReady.cons rfl (fun K hK => ?_) AllReady.nil)
                · go_simp
                  refine hK _ _ ?_
                  clear hK K
                  go_simp
                  refine wpAny_ready (rs := [9]) (by kernel_rfl) (by simp) ?_
                  refine AllReady.cons rfl (fun K hK => ?_) AllReady.nil
                  go_simp
                  go_wp2_with fail
                  refine (cK.out _ (by first | exact hb2 | exact hb2.drew | exact hb2.drew.drew | exact hb2.drew.drew.drew)).mono ?_
                  rintro e w3 ⟨v3, rfl, ⟨o3, c3, rfl, hc3, hi3⟩, hb3⟩
                  have s0 := (hb3.cell (p := ⟨g1, 0, none⟩) hg1).trans q0
                  show K _ w3
                  refine hK _ _ ?_
                  clear hK K
                  go_simp
                  refine wpAny_ready (rs := [10]) (by kernel_rfl) (by simp) ?_
                  refine AllReady.cons rfl (fun K hK => ?_) AllReady.nil
                  go_simp
                  go_wp2_with fail
                  refine (cA.out _ o3 c3 (by first | exact hi3 | exact hi3.drew | exact hi3.below (Below.refl _ _).drew) hc3 (by first | exact hb3 | exact hb3.drew | exact hb3.drew.drew | exact hb3.drew.drew.drew)).mono ?_
                  rintro e w4 ⟨rfl, hb4⟩
                  show K _ w4
                  refine hK _ _ ?_
                  clear hK K
                  go_simp
                  refine wpAny_take (i := 11) (v := .bool true) rfl (by kernel_rfl) (by kernel_rfl) (by kernel_rfl) (fun _ _ _ h => h) (Or.inl ⟨by rfl, ?_⟩) ?_
                  · intro w
                    go_simp
                    all_goals first | done | omega | (intro h; exfalso; omega)
                  go_simp
                  refine wpAny_take (i := 12) (v := .bool true) rfl (by kernel_rfl) (by kernel_rfl) (by kernel_rfl) (fun _ _ _ h => h) (Or.inl ⟨by rfl, ?_⟩) ?_
                  · intro w
                    go_simp
                    all_goals first | done | omega | (intro h; exfalso; omega)
                  go_simp
                  refine wpAny_done (by kernel_rfl) ?_ _
                  have hbe := mkH (hbG.out.trans (hb4.mono hGW))
                  go_wp2
                  go_ret
                  rw [hr0.out, hG]
                  exact ⟨rfl, hbe.out⟩
                · go_simp
                  go_wp2_with fail
                  refine (cK.out _ (by first | exact hb2 | exact hb2.drew | exact hb2.drew.drew | exact hb2.drew.drew.drew)).mono ?_
                  rintro e w3 ⟨v3, rfl, ⟨o3, c3, rfl, hc3, hi3⟩, hb3⟩
                  have s0 := (hb3.cell (p := ⟨g1, 0, none⟩) hg1).trans q0
                  show K _ w3
                  refine hK _ _ ?_
                  clear hK K
                  go_simp
                  refine wpAny_ready (rs := [5]) (by kernel_rfl) (by simp) ?_
                  refine AllReady.cons rfl (fun K hK => ?_) AllReady.nil
                  go_simp
                  refine hK _ _ ?_
                  clear hK K
                  go_simp
                  refine wpAny_ready (rs := [10]) (by kernel_rfl) (by simp) ?_
                  refine AllReady.cons rfl (fun K hK => ?_) AllReady.nil
                  go_simp
                  go_wp2_with fail
                  refine (cA.out _ o3 c3 (by first | exact hi3 | exact hi3.drew | exact hi3.below (Below.refl _ _).drew) hc3 (by first | exact hb3 | exact hb3.drew | exact hb3.drew.drew | exact hb3.drew.drew.drew)).mono ?_
                  rintro e w4 ⟨rfl, hb4⟩
                  show K _ w4
                  refine hK _ _ ?_
                  clear hK K
                  go_simp
                  refine wpAny_take (i := 11) (v := .bool true) rfl (by kernel_rfl) (by kernel_rfl) (by kernel_rfl) (fun _ _ _ h => h) (Or.inl ⟨by rfl, ?_⟩) ?_
                  · intro w
                    go_simp
                    all_goals first | done | omega | (intro h; exfalso; omega)
                  go_simp
                  refine wpAny_take (i := 12) (v := .bool true) rfl (by kernel_rfl) (by kernel_rfl) (by kernel_rfl) (fun _ _ _ h => h) (Or.inl ⟨by rfl, ?_⟩) ?_
                  · intro w
                    go_simp
                    all_goals first | done | omega | (intro h; exfalso; omega)
                  go_simp
                  refine wpAny_done (by kernel_rfl) ?_ _
                  have hbe := mkH (hbG.out.trans (hb4.mono hGW))
                  go_wp2
                  go_ret
                  rw [hr0.out, hG]
                  exact ⟨rfl, hbe.out⟩
          · have hright' : Fn.right n = false := by simpa using hright
            rw [hright'] at cR
            have hr0 : Hid (R = false) := by
              show R = false
              rw [← hR.out]
              refine Fn.isF_none F (i + 1) (by omega) ?_
              unfold Tr.run
              rw [hrun.out]
              dsimp only
              rw [if_neg]
              rw [hokP.out, hright', Bool.false_and]
              exact fun h => Bool.noConfusion h.2.2
            have cR' : Hid (∀ d os, Calls Try.prog 21 #[.agg #[.int .i64 n.kind, .int .i64 n.num, .int .i64 n.mat, .string n.text, .slice a1 n.names.length e1, .slice a2 n.keys.length e2, .slice a3 n.kids.length e3]] (Go.Sort.grow (redrawn W1 d) os) fun e w'' => e = .returned (.bool false) ∧ ∃ p : Regrown, w'' = Go.Sort.grow (redrawn W1 p.d) p.os) := fun d os =>
              (cR.out _ (below_regrown W1 d os)).mono fun e w'' ⟨x1, x2⟩ => ⟨x1, regrown_of_below x2⟩
            have k0 := cell_regrown p0
            have k1 := cell_regrown p1
            have k2 := cell_regrown p2
            have k3 := cell_regrown p3
            have k4 := cell_regrown p4
            have k5 := cell_regrown p5
            have k6 := cell_regrown p6
            clear hright hright' cR
            go_wp2
            refine wp_region_quiet_below (by kernel_rfl) (by kernel_rfl) ?_
            quiet_step (fail)
            quiet_step (exact cR'.out _ _)
            repeat (quiet_step (fail))
            refine wpQuiet_nil ?_
            intro _ hw'
            obtain ⟨⟨dr, osr⟩, hw''⟩ := hw'
            subst hw''
            have hbe := mkH (hbG.out.trans ((below_regrown W1 dr osr).mono hGW))
            go_wp2
            go_ret
            rw [hr0.out, hG]
            exact ⟨rfl, hbe.out⟩
        · rw [decide_eq_false heq] at hEq
          replace heq := mkH heq
          refine wp_region_quiet_below (by kernel_rfl) (by kernel_rfl) ?_
          quiet_step (fail)
          quiet_step (fail)
          quiet_step (fail)
          quiet_step (fail)
          quiet_step (fail)
          quiet_step (fail)
          quiet_step (fail)
          quiet_step (fail)
          quiet_step (exact hEq.out _ _ rfl _ _)
          repeat (quiet_step (fail))
          refine wpQuiet_nil ?_
          intro _ hw'
          obtain ⟨⟨dq, osq⟩, hw''⟩ := hw'
          subst hw''
          clear hEq
          generalize (if cc = m then oo else Option.map (fun x => x.add m) oo) = od
          have hbq := mkH (hb0.out.trans ((below_regrown V dq osq).mono hGV))
          have hr0 : Hid (R = false) := by
            show R = false
            rw [← hR.out]
            refine Fn.isF_none F (i + 1) (by omega) ?_
            unfold Tr.run
            rw [hrun.out]
            dsimp only
            rw [if_neg]
            rw [hkids.out, show P.length - n.kids.length = m by have := hm'.out; omega]
            exact fun h => heq.out h.2.1
          go_wp2
          go_ret
          rw [hr0.out, hG]
          exact ⟨rfl, hbq.out⟩
      · have hneg : decide ((P.length : Int) - (n.kids.length : Int) < 0) = true := by simp; omega
        have hr0 : Hid (R = false) := by
          show R = false
          rw [← hR.out]
          refine Fn.isF_none F (i + 1) (by omega) ?_
          unfold Tr.run
          rw [hrun.out]
          dsimp only
          rw [if_neg]
          rw [hkids.out]
          exact fun h => hle h.1
        have Hle := mkH hle
        clear hle
        go_wp2
        go_quiet (fail)
        have hbq := mkH (below_drewN hb0.out nq)
        go_wp2
        go_ret
        rw [hr0.out, hG]
        exact ⟨rfl, hbq.out⟩
    · obtain rfl : i = F.length := by omega
      obtain ⟨nn, hnn⟩ : ∃ nn, F.length = nn + 1 := ⟨F.length - 1, by omega⟩
      have hrn := hrun.out
      rw [hnn] at hrn
      obtain ⟨p, hp⟩ := Tr.run_last nn P hrn
      have hkk := mkH (Tr.run_kids F.length P hrun.out)
      have hnl : nn < F.length := by omega
      have hkA : Fn.kindAt F ((F.length : Int) - 1) = F[nn].kind := by
        unfold Fn.kindAt
        rw [show ((F.length : Int) - 1).toNat = nn by omega, List.getElem?_eq_getElem hnl]
        rfl
      have hRv : Hid (R = (((P.length : Int) == 1) && ((F[nn].kind == 1) && decide ((Fn.depTo F F.length (F.length - 1) : Int) ≤ 20)))) := by
        show R = _
        rw [← hR.out]
        unfold Fn.isF
        rw [hrun.out, ← hkA]
      clear hkA hrn
      by_cases hl1 : P.length = 1
      · obtain rfl : p = [] := by
          rw [hp, List.length_append, List.length_singleton] at hl1
          exact List.length_eq_zero_iff.1 (by omega)
        rw [List.nil_append] at hp
        rcases hform with ⟨hn0, -, -⟩ | ⟨g, rfl, hgG, hgl, hcell⟩
        · rw [hn0] at hl1; cases hl1
        have d0 := hcell 0 (by omega)
        have d0' : P[0]'(by omega) = (nn : Int) := by simp only [hp, List.getElem_cons_zero]
        rw [d0'] at d0
        clear hcell d0' hp
        have cD := mkH (implDepth o F cap wr ((HF.out.below hb).mono (hG ▸ hb.size)) hlF h1 Hfit.out hkk.out)
        obtain ⟨a, vn, vk, vd, rfl, ha, hA0, -⟩ := HF.out nn hnl
        have c0 := (hA0.below hb (by rw [add_blockN]; exact ha)).c0
        have b1 : ((P.length : Int) == 1) = true := by rw [hl1]; rfl
        have hRv2 := hRv.out
        rw [b1, Bool.true_and] at hRv2
        have hpl : 0 < P.length := by omega
        replace hnn := mkH hnn
        clear hRv hA0 hown hl1 hrun
        generalize F[nn].kind = kd at *
        have hsz := hb.size
        by_cases hk1 : kd = 1
        · have k1 : (kd == 1) = true := by simpa using hk1
          rw [k1, Bool.true_and] at hRv2
          replace hRv2 := mkH hRv2
          generalize Fn.depTo F F.length (F.length - 1) = dd at *
          clear hk1
          go_wp2_with fail
          refine cD.out.mono ?_
          rintro e w2 ⟨rfl, hb2⟩
          have hbe := mkH (hb.trans (hb2.mono (by omega)))
          obtain ⟨bd, hbd⟩ : ∃ bd, decide ((dd : Int) ≤ 20) = bd := ⟨_, rfl⟩
          go_wp2
          go_ret
          rw [hRv2.out, hG, hbd]
          exact ⟨rfl, hbe.out⟩
        · have k1 : (kd == 1) = false := by simpa using hk1
          rw [k1, Bool.false_and] at hRv2
          replace hRv2 := mkH hRv2
          clear hk1
          go_wp2
          go_ret
          rw [hRv2.out, hG]
          exact ⟨rfl, hb⟩
      · have b1 : ((P.length : Int) == 1) = false := by simp; omega
        have hRv2 := hRv.out
        rw [b1, Bool.false_and] at hRv2
        replace hRv2 := mkH hRv2
        clear hRv hl1 hp
        go_wp2
        go_ret
        rw [hRv2.out, hG]
        exact ⟨rfl, hb⟩
end Go.Proofs.Ytkngjgpplolinaa
