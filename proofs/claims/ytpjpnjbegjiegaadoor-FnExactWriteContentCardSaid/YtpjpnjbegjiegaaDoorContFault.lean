/- ContentFault, the specification's side. -/
import Derived.Test.YtpjpnjbegjiegaaDoorContDec
namespace Go.Proofs.YtpjpnjbegjiegaaDoor
open Go.RowKit Go.Lib
theorem ne_list (a b : ByteArray) (h : ¬ a = b) : (a.toList == b.toList) = false := by
  rw [beq_eq_false_iff_ne, ByteArray.toList_eq, ByteArray.toList_eq]
  intro e
  apply h
  obtain ⟨⟨x⟩⟩ := a
  obtain ⟨⟨y⟩⟩ := b
  simp at e
  rw [e]
set_option maxHeartbeats 4000000 in
theorem specFault (T S : ByteArray) (o : Option Addr) (F : List Fd) (cap : Nat) (w : World) (hT : T.size ≤ 1048576) (hS : S.size ≤ 1048576) (hF : Fld w.heap.size w o F) (hlen : F.length ≤ 1048576) (hsz : ∀ f ∈ F, f.1.size ≤ 1048576 ∧ f.2.size ≤ 1048576) :
    Calls Tryd.prog 6 #[ct T S o F.length cap] w fun e w' => e = .returned (.int .i64 (Pl.code T S F)) ∧ Below w.heap.size w w' := by
  have cT := fun w => specWord T w (by omega)
  have cS := fun w => specWord S w (by omega)
  have hbA : ∀ b, Below w.heap.size w (w.alloc b) := fun b => (Below.refl _ _).alloc (Nat.le_refl _) _
  have HF := mkHid hF
  have Hsz := mkHid hsz
  obtain ⟨R, HR⟩ : ∃ R, Hid (Pl.code T S F = R) := ⟨_, rfl⟩
  rw [HR.out]
  clear hF hsz
  cases hwT : Pl.word T
  · rw [← HR.out, Pl.code_no (fun h => by have := h.1; rw [hwT] at this; cases this)]
    simp only [hwT] at cT
    go_enter Tryd.func6, Tryd.ntmps6
    go_wp2_with (go_at_call 13; go_must (refine (cT _).mono ?_; rintro e w2 ⟨rfl, rfl⟩))
    go_ret
    exact ⟨rfl, hbA _⟩
  · simp only [hwT] at cT
    by_cases hbad : ¬ S.size = 0 ∧ Pl.word S = false
    · have hne := isEmpty_ne S hbad.1
      simp only [hbad.2] at cS
      rw [← HR.out, Pl.code_no (fun h => by rcases h.2.1 with e | e; exact hbad.1 e; rw [hbad.2] at e; cases e)]
      go_enter Tryd.func6, Tryd.ntmps6
      go_wp2_with fail
      refine (cT _).mono ?_
      rintro e w2 ⟨rfl, rfl⟩
      go_wp2_with fail
      refine (cS _).mono ?_
      rintro e w2 ⟨rfl, rfl⟩
      go_wp2
      go_ret
      exact ⟨rfl, hbA _⟩
    · have hSok : S.size = 0 ∨ Pl.word S = true := by
        by_cases e : S.size = 0
        · exact .inl e
        · exact .inr (by cases h : Pl.word S; exact absurd ⟨e, h⟩ hbad; rfl)
      have hcase : (S.toList.isEmpty = true) ∨ (S.toList.isEmpty = false ∧ Pl.word S = true) := by
        by_cases h1 : S.size = 0
        · exact .inl (isEmpty_of S h1)
        · exact .inr ⟨isEmpty_ne S h1, by rcases hSok with h | h; exact absurd h h1; exact h⟩
      clear hbad
      by_cases hmany : 32 < F.length
      · rw [← HR.out, Pl.code_no (fun h => by have := h.2.2.1; omega)]
        rcases hcase with hE | ⟨hE, hwS⟩
        · go_enter Tryd.func6, Tryd.ntmps6
          go_wp2_with (go_at_call 13; go_must (refine (cT _).mono ?_; rintro e w2 ⟨rfl, rfl⟩))
          go_ret
          exact ⟨rfl, hbA _⟩
        · simp only [hwS] at cS
          go_enter Tryd.func6, Tryd.ntmps6
          go_wp2_with fail
          refine (cT _).mono ?_
          rintro e w2 ⟨rfl, rfl⟩
          go_wp2_with fail
          refine (cS _).mono ?_
          rintro e w2 ⟨rfl, rfl⟩
          go_wp2
          go_ret
          exact ⟨rfl, hbA _⟩
      · have hlen32 : F.length ≤ 32 := by omega
        have Hok : Hid (Pl.okP F F.length → R = 0) := fun h => by rw [← HR.out]; exact Pl.code_yes ⟨hwT, hSok, hlen32, h⟩
        have Hno : Hid (¬ Pl.okP F F.length → R = 1) := fun h => by rw [← HR.out]; exact Pl.code_no (fun c => h c.2.2.2)
        clear HR hwT hlen hmany hSok
        rcases hcase with hE | ⟨hE, hwS⟩
        · go_enter Tryd.func6, Tryd.ntmps6
          go_wp2_with (go_at_call 13; go_must (refine (cT _).mono ?_; rintro e w2 ⟨rfl, rfl⟩))
          go_loopw [3] (fun i wr => ∃ k : Nat, k ≤ F.length ∧ i = .int .i64 k ∧ Hid (Pl.okP F k) ∧ Below (w.heap.size + 1) (w.alloc (.cells #[.string T, .string S, .slice o F.length cap] 29)) wr) (fun i _ => F.length - (Lib.intOf i).toNat)
          case atStart => exact ⟨0, Nat.zero_le _, rfl, fun i h h0 => absurd h0 (Nat.not_lt_zero _), Below.refl _ _⟩
          case round =>
            obtain ⟨k, hk, rfl, hall, hb⟩ := hrel
            have hbw := mkHid ((hbA _).trans (hb.mono (by simp)))
            obtain ⟨q0, q1, q2⟩ := boxed _ _ _ (by simpa using hb)
            by_cases hlt : k < F.length
            · obtain ⟨a, rfl, ha, hc0, hc1⟩ := (HF.out.below hbw.out) k hlt
              obtain ⟨hs0, hs1⟩ := Hsz.out F[k] (List.getElem_mem _)
              have Hnext := mkHid (Pl.okP_next hlt hall.out)
              have Hbad : Hid (Pl.okP F F.length → Pl.word F[k].1 = true ∧ Pl.pval F[k].2 = true ∧ ∀ j (hj : j < k), F[j].1 ≠ F[k].1) := fun h => h k hlt hlt
              generalize hf : F[k] = f at *
              have Hf := mkHid hf
              clear hf
              have cW := fun w => specWord f.1 w (by omega)
              have cG := fun w => specGood f.2 w (by omega)
              have Hb := mkHid hb
              clear hb
              cases hw : Pl.word f.1
              · have hR := mkHid (Hno.out (fun h => by have := (Hbad.out h).1; rw [hw] at this; cases this))
                simp only [hw] at cW
                clear Hno Hok Hbad Hnext cG
                go_wp2_with (go_at_call 13; go_must (refine (cW _).mono ?_; rintro e w2 ⟨rfl, rfl⟩))
                go_ret
                exact ⟨by rw [hR.out]; rfl, hbw.out⟩
              · simp only [hw] at cW
                cases hv : Pl.pval f.2
                · have hR := mkHid (Hno.out (fun h => by have := (Hbad.out h).2.1; rw [hv] at this; cases this))
                  simp only [hv] at cG
                  clear Hno Hok Hbad Hnext
                  go_wp2_with fail
                  refine (cW _).mono ?_
                  rintro e w2 ⟨rfl, rfl⟩
                  go_wp2_with fail
                  refine (cG _).mono ?_
                  rintro e w2 ⟨rfl, hb2⟩
                  go_wp2
                  go_ret
                  exact ⟨by rw [hR.out]; rfl, hbw.out.trans (hb2.mono hbw.out.size)⟩
                · simp only [hv] at cG
                  have Hne := mkHid (Hnext.out hw hv)
                  have Hd : Hid ((∃ j, ∃ hj : j < k, F[j].1 = f.1) → R = 1) := fun ⟨j, hj, e⟩ => Hno.out (fun h => (Hbad.out h).2.2 j hj e)
                  clear Hno Hok Hbad Hnext hw hv
                  go_wp2_with fail
                  refine (cW _).mono ?_
                  rintro e w2 ⟨rfl, rfl⟩
                  go_wp2_with fail
                  refine (cG _).mono ?_
                  rintro e w2 ⟨rfl, hb2⟩
                  have Hb2 := mkHid (Hb.out.trans (hb2.mono (by have := Hb.out.size; simpa using this)))
                  have hbz := mkHid (hbw.out.trans (hb2.mono hbw.out.size))
                  clear hb2 Hb hbw q0 q1 q2 hc0 hc1 cW cG
                  go_wp2
                  go_loopw [4] (fun i wr2 => ∃ j : Nat, j ≤ k ∧ i = .int .i64 j ∧ Hid (∀ i (_ : i < j) (hi : i < F.length), F[i].1 ≠ f.1) ∧ Below (w.heap.size + 1) (w.alloc (.cells #[.string T, .string S, .slice (some a) F.length cap] 29)) wr2) (fun i _ => k - (Lib.intOf i).toNat)
                  case atStart => exact ⟨0, Nat.zero_le _, rfl, fun i h0 _ => absurd h0 (Nat.not_lt_zero _), Hb2.out⟩
                  case round =>
                    obtain ⟨j, hj, rfl, hno, hb⟩ := hrel
                    have hbw := mkHid ((hbA _).trans (hb.mono (by simp)))
                    have Hb := mkHid hb
                    by_cases hjk : j < k
                    · have hjl : j < F.length := by omega
                      obtain ⟨q0, q1, q2⟩ := boxed _ _ _ (by simpa using hb)
                      obtain ⟨a1, ea1, ha1, hd0, hd1⟩ := (HF.out.below hbw.out) j hjl
                      obtain ⟨a2, ea2, ha2, he0, he1⟩ := (HF.out.below hbw.out) k hlt
                      cases ea1
                      cases ea2
                      rw [Hf.out] at he0
                      have Hg := mkHid (rfl : F[j] = F[j])
                      have Hstep : Hid (F[j].1 ≠ f.1 → ∀ i (_ : i < j + 1) (hi : i < F.length), F[i].1 ≠ f.1) := by
                        intro hne i h1 h2
                        by_cases e : i < j
                        · exact hno.out i e h2
                        · obtain rfl : i = j := by omega
                          exact hne
                      have Hhit : Hid (F[j].1 = f.1 → R = 1) := fun e => Hd.out ⟨j, hjk, e⟩
                      generalize hg : F[j] = g at *
                      clear hg Hg q0 q1 hd1 he1 hb hno Hd Hne
                      have k2 := cell_regrown q2
                      have k3 := cell_regrown hd0
                      have k4 := cell_regrown he0
                      have i1 : (j : Int) < (F.length : Int) := by omega
                      have i2 : (k : Int) < (F.length : Int) := by omega
                      obtain ⟨g1, g2⟩ := g
                      obtain ⟨f1, f2⟩ := f
                      simp only at *
                      by_cases he : g1 = f1
                      · have hR := mkHid (Hhit.out he)
                        subst he
                        clear Hhit Hstep
                        go_wp2
                        refine wp_region_quiet_below (by kernel_rfl) (by kernel_rfl) ?_
                        repeat (quiet_step (fail))
                        refine wpQuiet_nil ?_
                        rintro _ ⟨⟨dq, osq⟩, rfl⟩
                        have hbq := mkHid (hbw.out.trans ((below_regrown wr dq osq).mono hbw.out.size))
                        go_wp2
                        go_ret
                        exact ⟨by rw [hR.out]; rfl, hbq.out⟩
                      · have hst := mkHid (Hstep.out he)
                        have hne := ne_list g1 f1 he
                        clear Hhit Hstep
                        go_wp2
                        refine wp_region_quiet_below (by kernel_rfl) (by kernel_rfl) ?_
                        repeat (quiet_step (fail))
                        refine wpQuiet_nil ?_
                        rintro _ ⟨⟨dq, osq⟩, rfl⟩
                        have hbq := mkHid (Hb.out.trans ((below_regrown wr dq osq).mono (by have := Hb.out.size; simpa using this)))
                        go_wp2
                        go_roundw
                        case rel => exact ⟨j + 1, by omega, by go_num, hst.out, hbq.out⟩
                        case measure => simp [Lib.intOf]; omega
                    · obtain rfl : j = k := by omega
                      have hgo : Hid (Pl.okP F (j + 1)) := Hne.out (fun i hi => hno.out i hi (by omega))
                      clear Hd Hne hno
                      go_wp2
                      go_roundw
                      case rel => exact ⟨j + 1, by omega, by go_num, hgo, Hb.out⟩
                      case measure => simp [Lib.intOf]; omega
            · obtain rfl : k = F.length := by omega
              have h0 := mkHid (Hok.out hall.out)
              clear Hok Hno hall
              go_wp2
              go_ret
              exact ⟨by rw [h0.out]; rfl, hbw.out⟩
        · simp only [hwS] at cS
          go_enter Tryd.func6, Tryd.ntmps6
          go_wp2_with fail
          refine (cT _).mono ?_
          rintro e w2 ⟨rfl, rfl⟩
          go_wp2_with fail
          refine (cS _).mono ?_
          rintro e w2 ⟨rfl, rfl⟩
          go_wp2
          go_loopw [3] (fun i wr => ∃ k : Nat, k ≤ F.length ∧ i = .int .i64 k ∧ Hid (Pl.okP F k) ∧ Below (w.heap.size + 1) (w.alloc (.cells #[.string T, .string S, .slice o F.length cap] 29)) wr) (fun i _ => F.length - (Lib.intOf i).toNat)
          case atStart => exact ⟨0, Nat.zero_le _, rfl, fun i h h0 => absurd h0 (Nat.not_lt_zero _), Below.refl _ _⟩
          case round =>
            obtain ⟨k, hk, rfl, hall, hb⟩ := hrel
            have hbw := mkHid ((hbA _).trans (hb.mono (by simp)))
            obtain ⟨q0, q1, q2⟩ := boxed _ _ _ (by simpa using hb)
            by_cases hlt : k < F.length
            · obtain ⟨a, rfl, ha, hc0, hc1⟩ := (HF.out.below hbw.out) k hlt
              obtain ⟨hs0, hs1⟩ := Hsz.out F[k] (List.getElem_mem _)
              have Hnext := mkHid (Pl.okP_next hlt hall.out)
              have Hbad : Hid (Pl.okP F F.length → Pl.word F[k].1 = true ∧ Pl.pval F[k].2 = true ∧ ∀ j (hj : j < k), F[j].1 ≠ F[k].1) := fun h => h k hlt hlt
              generalize hf : F[k] = f at *
              have Hf := mkHid hf
              clear hf
              have cW := fun w => specWord f.1 w (by omega)
              have cG := fun w => specGood f.2 w (by omega)
              have Hb := mkHid hb
              clear hb
              cases hw : Pl.word f.1
              · have hR := mkHid (Hno.out (fun h => by have := (Hbad.out h).1; rw [hw] at this; cases this))
                simp only [hw] at cW
                clear Hno Hok Hbad Hnext cG
                go_wp2_with (go_at_call 13; go_must (refine (cW _).mono ?_; rintro e w2 ⟨rfl, rfl⟩))
                go_ret
                exact ⟨by rw [hR.out]; rfl, hbw.out⟩
              · simp only [hw] at cW
                cases hv : Pl.pval f.2
                · have hR := mkHid (Hno.out (fun h => by have := (Hbad.out h).2.1; rw [hv] at this; cases this))
                  simp only [hv] at cG
                  clear Hno Hok Hbad Hnext
                  go_wp2_with fail
                  refine (cW _).mono ?_
                  rintro e w2 ⟨rfl, rfl⟩
                  go_wp2_with fail
                  refine (cG _).mono ?_
                  rintro e w2 ⟨rfl, hb2⟩
                  go_wp2
                  go_ret
                  exact ⟨by rw [hR.out]; rfl, hbw.out.trans (hb2.mono hbw.out.size)⟩
                · simp only [hv] at cG
                  have Hne := mkHid (Hnext.out hw hv)
                  have Hd : Hid ((∃ j, ∃ hj : j < k, F[j].1 = f.1) → R = 1) := fun ⟨j, hj, e⟩ => Hno.out (fun h => (Hbad.out h).2.2 j hj e)
                  clear Hno Hok Hbad Hnext hw hv
                  go_wp2_with fail
                  refine (cW _).mono ?_
                  rintro e w2 ⟨rfl, rfl⟩
                  go_wp2_with fail
                  refine (cG _).mono ?_
                  rintro e w2 ⟨rfl, hb2⟩
                  have Hb2 := mkHid (Hb.out.trans (hb2.mono (by have := Hb.out.size; simpa using this)))
                  have hbz := mkHid (hbw.out.trans (hb2.mono hbw.out.size))
                  clear hb2 Hb hbw q0 q1 q2 hc0 hc1 cW cG
                  go_wp2
                  go_loopw [4] (fun i wr2 => ∃ j : Nat, j ≤ k ∧ i = .int .i64 j ∧ Hid (∀ i (_ : i < j) (hi : i < F.length), F[i].1 ≠ f.1) ∧ Below (w.heap.size + 1) (w.alloc (.cells #[.string T, .string S, .slice (some a) F.length cap] 29)) wr2) (fun i _ => k - (Lib.intOf i).toNat)
                  case atStart => exact ⟨0, Nat.zero_le _, rfl, fun i h0 _ => absurd h0 (Nat.not_lt_zero _), Hb2.out⟩
                  case round =>
                    obtain ⟨j, hj, rfl, hno, hb⟩ := hrel
                    have hbw := mkHid ((hbA _).trans (hb.mono (by simp)))
                    have Hb := mkHid hb
                    by_cases hjk : j < k
                    · have hjl : j < F.length := by omega
                      obtain ⟨q0, q1, q2⟩ := boxed _ _ _ (by simpa using hb)
                      obtain ⟨a1, ea1, ha1, hd0, hd1⟩ := (HF.out.below hbw.out) j hjl
                      obtain ⟨a2, ea2, ha2, he0, he1⟩ := (HF.out.below hbw.out) k hlt
                      cases ea1
                      cases ea2
                      rw [Hf.out] at he0
                      have Hg := mkHid (rfl : F[j] = F[j])
                      have Hstep : Hid (F[j].1 ≠ f.1 → ∀ i (_ : i < j + 1) (hi : i < F.length), F[i].1 ≠ f.1) := by
                        intro hne i h1 h2
                        by_cases e : i < j
                        · exact hno.out i e h2
                        · obtain rfl : i = j := by omega
                          exact hne
                      have Hhit : Hid (F[j].1 = f.1 → R = 1) := fun e => Hd.out ⟨j, hjk, e⟩
                      generalize hg : F[j] = g at *
                      clear hg Hg q0 q1 hd1 he1 hb hno Hd Hne
                      have k2 := cell_regrown q2
                      have k3 := cell_regrown hd0
                      have k4 := cell_regrown he0
                      have i1 : (j : Int) < (F.length : Int) := by omega
                      have i2 : (k : Int) < (F.length : Int) := by omega
                      obtain ⟨g1, g2⟩ := g
                      obtain ⟨f1, f2⟩ := f
                      simp only at *
                      by_cases he : g1 = f1
                      · have hR := mkHid (Hhit.out he)
                        subst he
                        clear Hhit Hstep
                        go_wp2
                        refine wp_region_quiet_below (by kernel_rfl) (by kernel_rfl) ?_
                        repeat (quiet_step (fail))
                        refine wpQuiet_nil ?_
                        rintro _ ⟨⟨dq, osq⟩, rfl⟩
                        have hbq := mkHid (hbw.out.trans ((below_regrown wr dq osq).mono hbw.out.size))
                        go_wp2
                        go_ret
                        exact ⟨by rw [hR.out]; rfl, hbq.out⟩
                      · have hst := mkHid (Hstep.out he)
                        have hne := ne_list g1 f1 he
                        clear Hhit Hstep
                        go_wp2
                        refine wp_region_quiet_below (by kernel_rfl) (by kernel_rfl) ?_
                        repeat (quiet_step (fail))
                        refine wpQuiet_nil ?_
                        rintro _ ⟨⟨dq, osq⟩, rfl⟩
                        have hbq := mkHid (Hb.out.trans ((below_regrown wr dq osq).mono (by have := Hb.out.size; simpa using this)))
                        go_wp2
                        go_roundw
                        case rel => exact ⟨j + 1, by omega, by go_num, hst.out, hbq.out⟩
                        case measure => simp [Lib.intOf]; omega
                    · obtain rfl : j = k := by omega
                      have hgo : Hid (Pl.okP F (j + 1)) := Hne.out (fun i hi => hno.out i hi (by omega))
                      clear Hd Hne hno
                      go_wp2
                      go_roundw
                      case rel => exact ⟨j + 1, by omega, by go_num, hgo, Hb.out⟩
                      case measure => simp [Lib.intOf]; omega
            · obtain rfl : k = F.length := by omega
              have h0 := mkHid (Hok.out hall.out)
              clear Hok Hno hall
              go_wp2
              go_ret
              exact ⟨by rw [h0.out]; rfl, hbw.out⟩
end Go.Proofs.YtpjpnjbegjiegaaDoor
