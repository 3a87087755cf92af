
/- FnExactSubjectOf: the specification's side, walked. -/
import Derived.Test.YtajkahpkbeobaaaGreatDoorSubjFields
import Derived.Test.YtajkahpkbeobaaaGreatDoorRunsSpec
namespace Go.Proofs.YtajkahpkbeobaaaGreatDoor
open Go.RowKit Go.Lib Go.Maps Go.Shelf
set_option maxRecDepth 40000 in
set_option maxHeartbeats 32000000 in
theorem specSubjectOf (s : ByteArray) (w : World) (hs : s.size ≤ 1048576) :
    Calls Tryz.prog 4 #[.string s] w fun e w' => e = .returned (.string (Sj.subj s)) ∧ Below w.heap.size w w' := by
  have cR := mkHid (specRH s w hs)
  have HL := mkHid (RH_len s)
  have Hz := mkHid (Sj.toBA_size s)
  have Hvz := mkHid (Sj.values_size s)
  have Hill := mkHid (Sj.rh_ill s)
  have HV := mkHid (show Sj.values s = Sj.named (toBA (RH s).fields) Sj.subjectT from rfl)
  have HR : Hid (Sj.subj s = match Sj.values s with | [] => ⟨#[]⟩ | v :: _ => ⟨(Sj.norm (Sj.low v)).toArray⟩) := mkHid rfl
  generalize RH s = H at *
  generalize Sj.values s = VS at *
  generalize Sj.subj s = R at *
  go_enter Tryz.func4, Tryz.ntmps4
  go_wp2_with fail
  refine cR.out.mono ?_
  rintro e w1 ⟨o, c, rfl, hF1, hb1⟩
  obtain ⟨o', c', he, hfld⟩ := hF1.fld
  simp only [Value.slice.injEq] at he
  obtain ⟨rfl, -, rfl⟩ := he
  obtain ⟨V, hV⟩ : ∃ V, V = w1.alloc (.cells #[.int .i64 H.code, .int .i64 H.at_, .slice o H.fields.length c, .int .i64 H.body] 26) := ⟨_, rfl⟩
  have hb1V : Below w1.heap.size w1 V := by rw [hV]; exact (Below.refl _ _).alloc (Nat.le_refl _) _
  have hhdV : V.heap[w1.heap.size]? = some (.cells #[.int .i64 H.code, .int .i64 H.at_, .slice o H.fields.length c, .int .i64 H.body] 26 (0, 0)) := by rw [hV]; exact heap_alloc_at _ _
  have q0 : V.cell? ⟨w1.heap.size, 0, none⟩ = some (.int .i64 (H.code : Int)) := by simp [World.cell?, hhdV]
  have q2 : V.cell? ⟨w1.heap.size, 2, none⟩ = some (.slice o H.fields.length c) := by simp [World.cell?, hhdV]
  have Hb2 := mkHid (hb1.trans (hb1V.mono hb1.size))
  have hfV := (hfld.below hb1V).mono hb1V.size
  rw [hV] at q0 q2
  have cF := specFindField o (toBA H.fields) c ⟨#[83, 117, 98, 106, 101, 99, 116]⟩ V hfV (by rw [toBA_len]; exact HL.out) (fun f hf => (Hz.out f hf).1) (by decide)
  rw [toBA_len] at cF
  have e0 : Sj.named (toBA H.fields) ⟨#[83, 117, 98, 106, 101, 99, 116]⟩ = VS := HV.out.symm
  rw [e0] at cF
  replace cF := mkHid cF
  have Hill2 : Hid (H.code ≠ 0 → VS = []) := fun h => by
    rw [HV.out, Hill.out h]
    rfl
  clear e0 Hill hfV hhdV hb1V
  have HVe := mkHid hV
  clear hV hfld hF1 hb1 cR HL Hz HV
  by_cases h0 : H.code = 0
  · have hcb : ((H.code : Int) != 0) = false := by rw [h0]; rfl
    clear h0
    go_wp2_with fail
    rw [← HVe.out]
    refine cF.out.mono ?_
    rintro e w2 ⟨v, rfl, hX, hb2⟩
    obtain ⟨ox, cx, rfl⟩ := hX.shape
    have hz1 := Hb2.out.size
    have Hb3 := mkHid (Hb2.out.trans (hb2.mono hz1))
    have HX := mkHid hX
    clear cF hX hb2 HVe q0 q2 Hb2 hz1
    cases VS with
    | nil =>
      go_wp2
      go_ret
      exact ⟨by rw [HR.out]; rfl, Hb3.out⟩
    | cons x r =>
      have hxz : x.size ≤ 100000 := Hvz.out x (.head _)
      obtain ⟨a, rfl, hc0⟩ := Sj.firstOf HX.out
      have HR2 : Hid (R = ⟨(Sj.norm (Sj.low x)).toArray⟩) := HR.out
      have hl0 : (((x :: r).length : Int) == 0) = false := by simp; omega
      have hl1 : 0 < (x :: r).length := by simp
      obtain ⟨N, hN⟩ : ∃ N, (x :: r).length = N := ⟨_, rfl⟩
      rw [hN] at hl0 hl1 ⊢
      clear hN HR HX Hvz Hill2
      have cU := mkHid (specUnfold x w2 hxz)
      obtain ⟨bg, Hed0⟩ := Sj.enc_val x
      have Hed := mkHid Hed0
      have fB := fieldBy bg (Sj.said x)
      clear Hed0
      have Hlow : Hid (Sj.low x = Sj.trim (Sj.col small [] (Sj.said x).data.toList)) := (Sj.trim_col Sj.small_is _).symm
      have Hsz := mkHid (Sj.said_le x)
      have Hll := mkHid (Sj.low_len x)
      have Hcl := mkHid (Sj.col_le small (Sj.said x).data.toList [])
      have huz : (⟨(Pl.unf false x.data.toList).toArray⟩ : ByteArray).size ≤ 1048576 := by
        have := Pl.unf_len x.data.toList false
        have e : x.data.toList.length = x.size := by simp
        show (Pl.unf false x.data.toList).toArray.size ≤ _
        simp; omega
      generalize Sj.said x = sd at *
      generalize Sj.low x = lw at *
      generalize (⟨(Pl.unf false x.data.toList).toArray⟩ : ByteArray) = u at *
      go_wp2_with fail
      refine cU.out.mono ?_
      rintro e w3 ⟨rfl, hb3⟩
      have hz3 := Hb3.out.size
      have Hb4 := mkHid (Hb3.out.trans (hb3.mono hz3))
      have cW := mkHid (specReadAny u w3 huz)
      have hlen := rwOf_len u
      generalize rwOf u = P at *
      clear cU hb3 Hb3 hc0 hz3
      go_wp2_with fail
      refine cW.out.mono ?_
      rintro e w4 ⟨v4, rfl, hO, hb4⟩
      obtain ⟨o4, c4, rfl⟩ := hO.shape
      have hz4 := Hb4.out.size
      have Hb5 := mkHid (Hb4.out.trans (hb4.mono hz4))
      have cE := specEncode 4 o4 P c4 w4 (Sj.nOwn hO) (by omega)
      rw [Hed.out] at cE
      replace cE := mkHid cE
      clear cW hO hb4 Hb4 hz4 Hed hlen
      go_wp2_with fail
      refine cE.out.mono ?_
      rintro e w5 ⟨rfl, hb5⟩
      have hz5 := Hb5.out.size
      have hb6 := Hb5.out.trans (hb5.mono hz5)
      clear cE hb5 Hb5 hz5
      obtain ⟨i0, hi, hi0, hi1, hi2⟩ := info_parts Tryz.info5
      have hsz := Hsz.out
      obtain ⟨K0, hK0⟩ : ∃ K0, Sj.col small [] sd.data.toList = K0 := ⟨_, rfl⟩
      rw [hK0] at Hlow Hcl
      have HK0 := mkHid hK0
      clear hK0
      have hcl : K0.length ≤ sd.size := by
        have := Hcl.out
        have e : sd.data.toList.length = sd.size := by simp
        simp only [List.length_nil] at this
        omega
      have hbs := mkHid hb6.size
      go_wp2
      go_loopw [6, 7] (fun v i wr => ∃ (k : Nat) (C : List UInt8), k ≤ sd.size ∧ i = .int .i64 k ∧ C.length ≤ k ∧ Hid (Sj.col small C (sd.data.toList.drop k) = K0) ∧ Own w.heap.size v C wr ∧ Below w.heap.size w wr) (fun _ i _ => sd.size - (Lib.intOf i).toNat)
      case atStart => exact ⟨0, [], Nat.zero_le _, rfl, Nat.le_refl _, HK0, Own.made _ _ hbs.out, hb6.alloc hbs.out _⟩
      case round =>
        clear hb6
        obtain ⟨k, C, hk, rfl, hCk, hC, hown, hb⟩ := hrel
        have hll : sd.data.toList.length = sd.size := by simp
        by_cases hlt : k < sd.size
        · have h8 : (small sd[k]).toNat < 256 := UInt8.toNat_lt _
          have hd : sd.data.toList.drop k = sd[k] :: sd.data.toList.drop (k + 1) := Sj.drop_one sd k hlt
          rw [hd] at hC
          have cB := fun W => specBlank sd[k] W
          have cS := mkHid (fun W => specSmall sd[k] W)
          have hbl : Pl.blank sd[k] = Sj.bl sd[k] := rfl
          cases hb0 : Pl.blank sd[k]
          · have hC2 : Hid (Sj.col small (C ++ [small sd[k]]) (sd.data.toList.drop (k + 1)) = K0) := by
              show _ = _
              rw [← hC.out, Sj.col, if_neg (by rw [← hbl, hb0]; simp)]
            rw [hb0] at cB
            have hCs : (C ++ [small sd[k]]).length ≤ k + 1 := by simp; omega
            have HB := mkHid cB
            generalize small sd[k] = sc at *
            clear cB hC hd hbl hb0 hll HK0 Hlow
            go_wp2_with (go_at_call 11; go_must (refine (HB.out _).mono ?_; rintro e wB ⟨rfl, rfl⟩))
            refine (cS.out _).mono ?_
            rintro e wB ⟨rfl, rfl⟩
            go_wp2_with (at_builtin; go_must (refine wp_app (W := w) rfl _ _ 35 rfl i0 Tryz.underlying35 hi hi0 hi1 hi2 w.heap.size u6 C rfl hown _ [sc] rfl 1 1 rfl rfl (by simp; omega) (Nat.le_refl _) hb ?_; intro v' w' hown' hb'; have Hown' := mkHid hown'; have Hb' := mkHid hb'))
            go_roundw
            case rel => exact ⟨k + 1, C ++ [sc], by omega, by go_num, hCs, hC2, Hown'.out, Hb'.out⟩
            case measure => simp [Lib.intOf]; omega
          · rw [hb0] at cB
            have HB := mkHid cB
            by_cases h0 : C.length = 0
            · obtain rfl : C = [] := List.length_eq_zero_iff.1 h0
              have hC2 : Hid (Sj.col small [] (sd.data.toList.drop (k + 1)) = K0) := by
                show _ = _
                rw [← hC.out, Sj.col, if_pos (by rw [← hbl, hb0]), if_pos (by rfl)]
              clear cB cS hC hd hbl hb0 hll HK0 Hlow h0 hCk
              rcases hown.form with ⟨rfl, -⟩ | ⟨g, cap, rfl⟩
              all_goals
                go_wp2_with fail
                refine (HB.out _).mono ?_
                rintro e wB ⟨rfl, rfl⟩
                go_wp2
                go_roundw
                case rel => exact ⟨k + 1, [], by omega, by go_num, Nat.zero_le _, hC2, hown, hb⟩
                case measure => simp [Lib.intOf]; omega
            · rcases hown.form with ⟨-, hnil⟩ | ⟨g, cap, rfl⟩
              · rw [hnil] at h0; exact absurd rfl h0
              · obtain ⟨m, hm⟩ : ∃ m, C.length = m + 1 := ⟨C.length - 1, by omega⟩
                have hml : m < C.length := by omega
                have hc := hown.cell m hml
                have hidx : (C.length : Int) - 1 = (m : Int) := by omega
                have hn0 : (0 : Int) < (C.length : Int) := by omega
                have hlast : (C.isEmpty || C.getLast? == some 32) = (C[m] == 32) := by
                  rw [List.getLast?_eq_getElem?, show C.length - 1 = m by omega, List.getElem?_eq_getElem hml]
                  cases C with
                  | nil => simp at hml
                  | cons x r => simp
                cases h32 : ((C[m].toNat : Int) == 32)
                · have hne : ((C[m].toNat : Int) != 32) = true := by rw [bne, h32]; rfl
                  have hls : (C[m] == 32) = false := beq_eq_false_iff_ne.2 (Pl.byte_ne _ 32 _ rfl h32)
                  have hC2 : Hid (Sj.col small (C ++ [32]) (sd.data.toList.drop (k + 1)) = K0) := by
                    show _ = _
                    rw [← hC.out, Sj.col, if_pos (by rw [← hbl, hb0]), if_neg (by rw [hlast, hls]; simp)]
                  have hCs : (C ++ [32]).length ≤ k + 1 := by simp; omega
                  clear cB cS hC hd hbl hb0 hll HK0 Hlow hlast hls hm
                  generalize C[m] = pc at *
                  go_wp2_with fail
                  refine (HB.out _).mono ?_
                  rintro e wB ⟨rfl, rfl⟩
                  go_wp2_with (at_builtin; go_must (refine wp_app (W := w) rfl _ _ 35 rfl i0 Tryz.underlying35 hi hi0 hi1 hi2 w.heap.size (.slice (some ⟨g, 0, none⟩) C.length cap) C rfl hown _ [32] rfl 1 1 rfl rfl (by first | (simp; done) | (simp; omega)) (Nat.le_refl _) hb ?_; intro v' w' hown' hb'; have Hown' := mkHid hown'; have Hb' := mkHid hb'))
                  go_roundw
                  case rel => exact ⟨k + 1, _, by omega, by go_num, hCs, hC2, Hown'.out, Hb'.out⟩
                  case measure => simp [Lib.intOf]; omega
                · have hne : ((C[m].toNat : Int) != 32) = false := by rw [bne, h32]; rfl
                  have hls : (C[m] == 32) = true := by rw [Pl.byte_eq _ 32 _ rfl h32]; rfl
                  have hC2 : Hid (Sj.col small C (sd.data.toList.drop (k + 1)) = K0) := by
                    show _ = _
                    rw [← hC.out, Sj.col, if_pos (by rw [← hbl, hb0]), if_pos (by rw [hlast, hls])]
                  clear cB cS hC hd hbl hb0 hll HK0 Hlow hlast hls hm
                  generalize C[m] = pc at *
                  go_wp2_with fail
                  refine (HB.out _).mono ?_
                  rintro e wB ⟨rfl, rfl⟩
                  go_wp2
                  go_roundw
                  case rel => exact ⟨k + 1, C, by omega, by go_num, by omega, hC2, hown, hb⟩
                  case measure => simp [Lib.intOf]; omega
        · have hCK : C = K0 := by
            rw [← hC.out, List.drop_eq_nil_of_le (by rw [hll]; omega), Sj.col]
          subst hCK
          have hbk := hown.back (P := Tryz.prog) 35 9 Tryz.underlying35 Tryz.underlying5 Tryz.underlying9
          have hCz : (⟨C.toArray⟩ : ByteArray).size ≤ 400000 := by show C.toArray.size ≤ _; simp; omega
          have cT := mkHid (fun W => specTrimB ⟨C.toArray⟩ W (by omega))
          have hT0 : Hid ((⟨(Pl.trimB (⟨C.toArray⟩ : ByteArray).data.toList).toArray⟩ : ByteArray) = ⟨lw.toArray⟩) := by
            show _ = _
            rw [Hlow.out]
            rfl
          rw [hT0.out] at cT
          have hcl0 : Hid (Sj.Clean lw) := by rw [Hlow.out]; exact Sj.trim_clean _
          clear hT0 hC HK0 Hlow hCk hCz hll
          have Hb' := mkHid hb
          clear hown
          go_wp2_with fail
          refine (cT.out _).mono ?_
          rintro e wT ⟨rfl, rfl⟩
          go_wp2
          go_loopw [8] (fun v wr => ∃ t : ByteArray, t.size ≤ 400000 ∧ v = .string t ∧ Hid (Sj.Clean t.data.toList) ∧ Hid (Sj.norm t.data.toList = Sj.norm lw) ∧ Below w.heap.size w wr) (fun v _ => match v with | .string t => t.size | _ => 0)
          case atStart => exact ⟨⟨lw.toArray⟩, by show lw.toArray.size ≤ _; have := Hll.out; simp; omega, rfl, hcl0, mkHid rfl, Hb'.out⟩
          case round =>
            obtain ⟨t, htz, rfl, hcln, hnorm, hbt⟩ := hrel
            have Hbt := mkHid hbt
            have el : ∀ x : ByteArray, x.data.toList.length = x.size := fun x => by simp
            have Hel := mkHid el
            clear hbt el Hb' cT hcl0 hbk Hll
            have cE : ∀ W, Calls Tryz.prog 14 #[.string t, .string ⟨#[40, 102, 119, 100, 41]⟩] W fun e w' => e = .returned (.bool (hasSuffix t.data.toList [40, 102, 119, 100, 41])) ∧ W = w' := fun W => specEndsS t ⟨#[40, 102, 119, 100, 41]⟩ W (by omega) (by decide)
            cases h1 : hasSuffix t.data.toList [40, 102, 119, 100, 41]
            · rw [h1] at cE
              have HE := mkHid cE
              clear cE
              have E1 := mkHid (Sj.r1_no h1)
              have s1 : t.size ≤ t.size := Nat.le_refl _
              clear h1
              have cA : ∀ W, Calls Tryz.prog 15 #[.string t, .string ⟨#[114, 101, 58]⟩] W fun e w' => e = .returned (.bool (hasPrefix t.data.toList [114, 101, 58])) ∧ W = w' := fun W => specBeginsS t ⟨#[114, 101, 58]⟩ W (by omega) (by decide)
              have cB : ∀ W, Calls Tryz.prog 15 #[.string t, .string ⟨#[102, 119, 58]⟩] W fun e w' => e = .returned (.bool (hasPrefix t.data.toList [102, 119, 58])) ∧ W = w' := fun W => specBeginsS t ⟨#[102, 119, 58]⟩ W (by omega) (by decide)
              cases h2 : hasPrefix t.data.toList [114, 101, 58]
              · rw [h2] at cA
                cases h2b : hasPrefix t.data.toList [102, 119, 58]
                · rw [h2b] at cB
                  have HA := mkHid cA
                  have HB := mkHid cB
                  clear cA cB
                  have E2 := mkHid (Sj.r2_no h2 h2b)
                  have s2 : t.size ≤ t.size := Nat.le_refl _
                  clear h2 h2b
                  have cC : ∀ W, Calls Tryz.prog 15 #[.string t, .string ⟨#[102, 119, 100, 58]⟩] W fun e w' => e = .returned (.bool (hasPrefix t.data.toList [102, 119, 100, 58])) ∧ W = w' := fun W => specBeginsS t ⟨#[102, 119, 100, 58]⟩ W (by omega) (by decide)
                  cases h3 : hasPrefix t.data.toList [102, 119, 100, 58]
                  · rw [h3] at cC
                    have e3 := Sj.r3_no h3
                    have s3 : t.size ≤ t.size := by
                      have a1 := congrArg List.length e3
                      have a2 := Sj.r3_le t.data.toList
                      rw [Hel.out] at a1
                      rcases a2 with a2 | a2
                      · rw [Hel.out] at a2; omega
                      · have a3 := congrArg List.length a2.1; rw [Hel.out] at a3; omega
                    have eR : Hid (t.data.toList = Sj.round t.data.toList) := by show _ = _; unfold Sj.round; rw [← E1.out, ← E2.out]; exact e3
                    have HC := mkHid cC
                    clear h3 e3 cC E1 E2
                    have hRet : Hid (t.size = t.size → t = ⟨(Sj.norm lw).toArray⟩) := fun hq => by
                      have a := Sj.round_same (l := t.data.toList) (by rw [← eR.out] <;> (rw [Hel.out, Hel.out]; exact hq))
                      refine Sj.ba_same ?_
                      rw [eR.out, a.1, ← hnorm.out, a.2]
                    have hNx : Hid (Sj.Clean t.data.toList ∧ Sj.norm t.data.toList = Sj.norm lw) := by
                      show _ ∧ _
                      rw [eR.out]
                      exact ⟨Sj.round_clean hcln.out, (Sj.norm_round hcln.out).trans hnorm.out⟩
                    clear eR hcln hnorm Hel
                    have hq : t.size = t.size := rfl
                    · have hq2 : ((t.size : Int) == (t.size : Int)) = true := by rw [hq]; simp
                      have hv := mkHid (hRet.out hq)
                      clear hRet hNx
                      have Hq := mkHid hq
                      clear hq
                      go_wp2_with fail
                      refine (HE.out _).mono ?_
                      rintro e wq ⟨rfl, rfl⟩
                      go_wp2_with fail
                      refine (HA.out _).mono ?_
                      rintro e wq ⟨rfl, rfl⟩
                      go_wp2_with fail
                      refine (HB.out _).mono ?_
                      rintro e wq ⟨rfl, rfl⟩
                      go_wp2_with fail
                      refine (HC.out _).mono ?_
                      rintro e wq ⟨rfl, rfl⟩
                      go_wp2
                      go_ret
                      exact ⟨by rw [HR2.out, hv.out]; rfl, Hbt.out⟩
                  · rw [h3] at cC
                    have z4 : 4 ≤ t.size := Sj.pre_size h3
                    obtain ⟨t3, ht3⟩ : ∃ x : ByteArray, x = ⟨(Pl.trimB (t.extract 4 t.size).data.toList).toArray⟩ := ⟨_, rfl⟩
                    have e3 := Sj.r3_yes h3 ht3
                    have cU3 : Hid (∀ W, Calls Tryz.prog 13 #[.string (t.extract 4 t.size)] W fun e w' => e = .returned (.string t3) ∧ W = w') := fun W => by rw [ht3]; exact specTrimB _ W (by rw [ByteArray.size_extract]; omega)
                    clear ht3
                    have s3 : t3.size ≤ t.size := by
                      have a1 := congrArg List.length e3
                      have a2 := Sj.r3_le t.data.toList
                      rw [Hel.out] at a1
                      rcases a2 with a2 | a2
                      · rw [Hel.out] at a2; omega
                      · have a3 := congrArg List.length a2.1; rw [Hel.out] at a3; omega
                    have eR : Hid (t3.data.toList = Sj.round t.data.toList) := by show _ = _; unfold Sj.round; rw [← E1.out, ← E2.out]; exact e3
                    have HC := mkHid cC
                    clear h3 e3 cC E1 E2
                    have hRet : Hid (t3.size = t.size → t3 = ⟨(Sj.norm lw).toArray⟩) := fun hq => by
                      have a := Sj.round_same (l := t.data.toList) (by rw [← eR.out] <;> (rw [Hel.out, Hel.out]; exact hq))
                      refine Sj.ba_same ?_
                      rw [eR.out, a.1, ← hnorm.out, a.2]
                    have hNx : Hid (Sj.Clean t3.data.toList ∧ Sj.norm t3.data.toList = Sj.norm lw) := by
                      show _ ∧ _
                      rw [eR.out]
                      exact ⟨Sj.round_clean hcln.out, (Sj.norm_round hcln.out).trans hnorm.out⟩
                    clear eR hcln hnorm Hel
                    by_cases hq : t3.size = t.size
                    · have hq2 : ((t3.size : Int) == (t.size : Int)) = true := by rw [hq]; simp
                      have hv := mkHid (hRet.out hq)
                      clear hRet hNx
                      have Hq := mkHid hq
                      clear hq
                      go_wp2_with fail
                      refine (HE.out _).mono ?_
                      rintro e wq ⟨rfl, rfl⟩
                      go_wp2_with fail
                      refine (HA.out _).mono ?_
                      rintro e wq ⟨rfl, rfl⟩
                      go_wp2_with fail
                      refine (HB.out _).mono ?_
                      rintro e wq ⟨rfl, rfl⟩
                      go_wp2_with fail
                      refine (HC.out _).mono ?_
                      rintro e wq ⟨rfl, rfl⟩
                      go_wp2_with fail
                      refine (cU3.out _).mono ?_
                      rintro e wq ⟨rfl, rfl⟩
                      go_wp2
                      go_ret
                      exact ⟨by rw [HR2.out, hv.out]; rfl, Hbt.out⟩
                    · have hq2 : ((t3.size : Int) == (t.size : Int)) = false := by simp; omega
                      clear hRet
                      go_wp2_with fail
                      refine (HE.out _).mono ?_
                      rintro e wq ⟨rfl, rfl⟩
                      go_wp2_with fail
                      refine (HA.out _).mono ?_
                      rintro e wq ⟨rfl, rfl⟩
                      go_wp2_with fail
                      refine (HB.out _).mono ?_
                      rintro e wq ⟨rfl, rfl⟩
                      go_wp2_with fail
                      refine (HC.out _).mono ?_
                      rintro e wq ⟨rfl, rfl⟩
                      go_wp2_with fail
                      refine (cU3.out _).mono ?_
                      rintro e wq ⟨rfl, rfl⟩
                      go_wp2
                      go_roundw
                      case rel => exact ⟨t3, by omega, rfl, hNx.out.1, hNx.out.2, Hbt.out⟩
                      case measure => simp; omega
                · rw [h2b] at cB
                  have HA := mkHid cA
                  have HB := mkHid cB
                  clear cA cB
                  have z3 : 3 ≤ t.size := Sj.pre_size h2b
                  obtain ⟨t2, ht2⟩ : ∃ x : ByteArray, x = ⟨(Pl.trimB (t.extract 3 t.size).data.toList).toArray⟩ := ⟨_, rfl⟩
                  have E2 := mkHid (Sj.r2_yes (.inr h2b) ht2)
                  have cU2 : Hid (∀ W, Calls Tryz.prog 13 #[.string (t.extract 3 t.size)] W fun e w' => e = .returned (.string t2) ∧ W = w') := fun W => by rw [ht2]; exact specTrimB _ W (by rw [ByteArray.size_extract]; omega)
                  have s2 : t2.size ≤ t.size := by
                    have a1 := congrArg List.length E2.out
                    have a2 := Sj.r2_le t.data.toList
                    rw [Hel.out] at a1
                    rcases a2 with a2 | a2
                    · rw [Hel.out] at a2; omega
                    · have a3 := congrArg List.length a2.1; rw [Hel.out] at a3; omega
                  clear ht2
                  clear h2 h2b
                  have cC : ∀ W, Calls Tryz.prog 15 #[.string t2, .string ⟨#[102, 119, 100, 58]⟩] W fun e w' => e = .returned (.bool (hasPrefix t2.data.toList [102, 119, 100, 58])) ∧ W = w' := fun W => specBeginsS t2 ⟨#[102, 119, 100, 58]⟩ W (by omega) (by decide)
                  cases h3 : hasPrefix t2.data.toList [102, 119, 100, 58]
                  · rw [h3] at cC
                    have e3 := Sj.r3_no h3
                    have s3 : t2.size ≤ t2.size := by
                      have a1 := congrArg List.length e3
                      have a2 := Sj.r3_le t2.data.toList
                      rw [Hel.out] at a1
                      rcases a2 with a2 | a2
                      · rw [Hel.out] at a2; omega
                      · have a3 := congrArg List.length a2.1; rw [Hel.out] at a3; omega
                    have eR : Hid (t2.data.toList = Sj.round t.data.toList) := by show _ = _; unfold Sj.round; rw [← E1.out, ← E2.out]; exact e3
                    have HC := mkHid cC
                    clear h3 e3 cC E1 E2
                    have hRet : Hid (t2.size = t.size → t2 = ⟨(Sj.norm lw).toArray⟩) := fun hq => by
                      have a := Sj.round_same (l := t.data.toList) (by rw [← eR.out] <;> (rw [Hel.out, Hel.out]; exact hq))
                      refine Sj.ba_same ?_
                      rw [eR.out, a.1, ← hnorm.out, a.2]
                    have hNx : Hid (Sj.Clean t2.data.toList ∧ Sj.norm t2.data.toList = Sj.norm lw) := by
                      show _ ∧ _
                      rw [eR.out]
                      exact ⟨Sj.round_clean hcln.out, (Sj.norm_round hcln.out).trans hnorm.out⟩
                    clear eR hcln hnorm Hel
                    by_cases hq : t2.size = t.size
                    · have hq2 : ((t2.size : Int) == (t.size : Int)) = true := by rw [hq]; simp
                      have hv := mkHid (hRet.out hq)
                      clear hRet hNx
                      have Hq := mkHid hq
                      clear hq
                      go_wp2_with fail
                      refine (HE.out _).mono ?_
                      rintro e wq ⟨rfl, rfl⟩
                      go_wp2_with fail
                      refine (HA.out _).mono ?_
                      rintro e wq ⟨rfl, rfl⟩
                      go_wp2_with fail
                      refine (HB.out _).mono ?_
                      rintro e wq ⟨rfl, rfl⟩
                      go_wp2_with fail
                      refine (cU2.out _).mono ?_
                      rintro e wq ⟨rfl, rfl⟩
                      go_wp2_with fail
                      refine (HC.out _).mono ?_
                      rintro e wq ⟨rfl, rfl⟩
                      go_wp2
                      go_ret
                      exact ⟨by rw [HR2.out, hv.out]; rfl, Hbt.out⟩
                    · have hq2 : ((t2.size : Int) == (t.size : Int)) = false := by simp; omega
                      clear hRet
                      go_wp2_with fail
                      refine (HE.out _).mono ?_
                      rintro e wq ⟨rfl, rfl⟩
                      go_wp2_with fail
                      refine (HA.out _).mono ?_
                      rintro e wq ⟨rfl, rfl⟩
                      go_wp2_with fail
                      refine (HB.out _).mono ?_
                      rintro e wq ⟨rfl, rfl⟩
                      go_wp2_with fail
                      refine (cU2.out _).mono ?_
                      rintro e wq ⟨rfl, rfl⟩
                      go_wp2_with fail
                      refine (HC.out _).mono ?_
                      rintro e wq ⟨rfl, rfl⟩
                      go_wp2
                      go_roundw
                      case rel => exact ⟨t2, by omega, rfl, hNx.out.1, hNx.out.2, Hbt.out⟩
                      case measure => simp; omega
                  · rw [h3] at cC
                    have z4 : 4 ≤ t2.size := Sj.pre_size h3
                    obtain ⟨t3, ht3⟩ : ∃ x : ByteArray, x = ⟨(Pl.trimB (t2.extract 4 t2.size).data.toList).toArray⟩ := ⟨_, rfl⟩
                    have e3 := Sj.r3_yes h3 ht3
                    have cU3 : Hid (∀ W, Calls Tryz.prog 13 #[.string (t2.extract 4 t2.size)] W fun e w' => e = .returned (.string t3) ∧ W = w') := fun W => by rw [ht3]; exact specTrimB _ W (by rw [ByteArray.size_extract]; omega)
                    clear ht3
                    have s3 : t3.size ≤ t2.size := by
                      have a1 := congrArg List.length e3
                      have a2 := Sj.r3_le t2.data.toList
                      rw [Hel.out] at a1
                      rcases a2 with a2 | a2
                      · rw [Hel.out] at a2; omega
                      · have a3 := congrArg List.length a2.1; rw [Hel.out] at a3; omega
                    have eR : Hid (t3.data.toList = Sj.round t.data.toList) := by show _ = _; unfold Sj.round; rw [← E1.out, ← E2.out]; exact e3
                    have HC := mkHid cC
                    clear h3 e3 cC E1 E2
                    have hRet : Hid (t3.size = t.size → t3 = ⟨(Sj.norm lw).toArray⟩) := fun hq => by
                      have a := Sj.round_same (l := t.data.toList) (by rw [← eR.out] <;> (rw [Hel.out, Hel.out]; exact hq))
                      refine Sj.ba_same ?_
                      rw [eR.out, a.1, ← hnorm.out, a.2]
                    have hNx : Hid (Sj.Clean t3.data.toList ∧ Sj.norm t3.data.toList = Sj.norm lw) := by
                      show _ ∧ _
                      rw [eR.out]
                      exact ⟨Sj.round_clean hcln.out, (Sj.norm_round hcln.out).trans hnorm.out⟩
                    clear eR hcln hnorm Hel
                    by_cases hq : t3.size = t.size
                    · have hq2 : ((t3.size : Int) == (t.size : Int)) = true := by rw [hq]; simp
                      have hv := mkHid (hRet.out hq)
                      clear hRet hNx
                      have Hq := mkHid hq
                      clear hq
                      go_wp2_with fail
                      refine (HE.out _).mono ?_
                      rintro e wq ⟨rfl, rfl⟩
                      go_wp2_with fail
                      refine (HA.out _).mono ?_
                      rintro e wq ⟨rfl, rfl⟩
                      go_wp2_with fail
                      refine (HB.out _).mono ?_
                      rintro e wq ⟨rfl, rfl⟩
                      go_wp2_with fail
                      refine (cU2.out _).mono ?_
                      rintro e wq ⟨rfl, rfl⟩
                      go_wp2_with fail
                      refine (HC.out _).mono ?_
                      rintro e wq ⟨rfl, rfl⟩
                      go_wp2_with fail
                      refine (cU3.out _).mono ?_
                      rintro e wq ⟨rfl, rfl⟩
                      go_wp2
                      go_ret
                      exact ⟨by rw [HR2.out, hv.out]; rfl, Hbt.out⟩
                    · have hq2 : ((t3.size : Int) == (t.size : Int)) = false := by simp; omega
                      clear hRet
                      go_wp2_with fail
                      refine (HE.out _).mono ?_
                      rintro e wq ⟨rfl, rfl⟩
                      go_wp2_with fail
                      refine (HA.out _).mono ?_
                      rintro e wq ⟨rfl, rfl⟩
                      go_wp2_with fail
                      refine (HB.out _).mono ?_
                      rintro e wq ⟨rfl, rfl⟩
                      go_wp2_with fail
                      refine (cU2.out _).mono ?_
                      rintro e wq ⟨rfl, rfl⟩
                      go_wp2_with fail
                      refine (HC.out _).mono ?_
                      rintro e wq ⟨rfl, rfl⟩
                      go_wp2_with fail
                      refine (cU3.out _).mono ?_
                      rintro e wq ⟨rfl, rfl⟩
                      go_wp2
                      go_roundw
                      case rel => exact ⟨t3, by omega, rfl, hNx.out.1, hNx.out.2, Hbt.out⟩
                      case measure => simp; omega
              · rw [h2] at cA
                have HA := mkHid cA
                have HB := mkHid cB
                clear cA cB
                have z3 : 3 ≤ t.size := Sj.pre_size h2
                obtain ⟨t2, ht2⟩ : ∃ x : ByteArray, x = ⟨(Pl.trimB (t.extract 3 t.size).data.toList).toArray⟩ := ⟨_, rfl⟩
                have E2 := mkHid (Sj.r2_yes (.inl h2) ht2)
                have cU2 : Hid (∀ W, Calls Tryz.prog 13 #[.string (t.extract 3 t.size)] W fun e w' => e = .returned (.string t2) ∧ W = w') := fun W => by rw [ht2]; exact specTrimB _ W (by rw [ByteArray.size_extract]; omega)
                have s2 : t2.size ≤ t.size := by
                  have a1 := congrArg List.length E2.out
                  have a2 := Sj.r2_le t.data.toList
                  rw [Hel.out] at a1
                  rcases a2 with a2 | a2
                  · rw [Hel.out] at a2; omega
                  · have a3 := congrArg List.length a2.1; rw [Hel.out] at a3; omega
                clear ht2
                clear h2
                have cC : ∀ W, Calls Tryz.prog 15 #[.string t2, .string ⟨#[102, 119, 100, 58]⟩] W fun e w' => e = .returned (.bool (hasPrefix t2.data.toList [102, 119, 100, 58])) ∧ W = w' := fun W => specBeginsS t2 ⟨#[102, 119, 100, 58]⟩ W (by omega) (by decide)
                cases h3 : hasPrefix t2.data.toList [102, 119, 100, 58]
                · rw [h3] at cC
                  have e3 := Sj.r3_no h3
                  have s3 : t2.size ≤ t2.size := by
                    have a1 := congrArg List.length e3
                    have a2 := Sj.r3_le t2.data.toList
                    rw [Hel.out] at a1
                    rcases a2 with a2 | a2
                    · rw [Hel.out] at a2; omega
                    · have a3 := congrArg List.length a2.1; rw [Hel.out] at a3; omega
                  have eR : Hid (t2.data.toList = Sj.round t.data.toList) := by show _ = _; unfold Sj.round; rw [← E1.out, ← E2.out]; exact e3
                  have HC := mkHid cC
                  clear h3 e3 cC E1 E2
                  have hRet : Hid (t2.size = t.size → t2 = ⟨(Sj.norm lw).toArray⟩) := fun hq => by
                    have a := Sj.round_same (l := t.data.toList) (by rw [← eR.out] <;> (rw [Hel.out, Hel.out]; exact hq))
                    refine Sj.ba_same ?_
                    rw [eR.out, a.1, ← hnorm.out, a.2]
                  have hNx : Hid (Sj.Clean t2.data.toList ∧ Sj.norm t2.data.toList = Sj.norm lw) := by
                    show _ ∧ _
                    rw [eR.out]
                    exact ⟨Sj.round_clean hcln.out, (Sj.norm_round hcln.out).trans hnorm.out⟩
                  clear eR hcln hnorm Hel
                  by_cases hq : t2.size = t.size
                  · have hq2 : ((t2.size : Int) == (t.size : Int)) = true := by rw [hq]; simp
                    have hv := mkHid (hRet.out hq)
                    clear hRet hNx
                    have Hq := mkHid hq
                    clear hq
                    go_wp2_with fail
                    refine (HE.out _).mono ?_
                    rintro e wq ⟨rfl, rfl⟩
                    go_wp2_with fail
                    refine (HA.out _).mono ?_
                    rintro e wq ⟨rfl, rfl⟩
                    go_wp2_with fail
                    refine (cU2.out _).mono ?_
                    rintro e wq ⟨rfl, rfl⟩
                    go_wp2_with fail
                    refine (HC.out _).mono ?_
                    rintro e wq ⟨rfl, rfl⟩
                    go_wp2
                    go_ret
                    exact ⟨by rw [HR2.out, hv.out]; rfl, Hbt.out⟩
                  · have hq2 : ((t2.size : Int) == (t.size : Int)) = false := by simp; omega
                    clear hRet
                    go_wp2_with fail
                    refine (HE.out _).mono ?_
                    rintro e wq ⟨rfl, rfl⟩
                    go_wp2_with fail
                    refine (HA.out _).mono ?_
                    rintro e wq ⟨rfl, rfl⟩
                    go_wp2_with fail
                    refine (cU2.out _).mono ?_
                    rintro e wq ⟨rfl, rfl⟩
                    go_wp2_with fail
                    refine (HC.out _).mono ?_
                    rintro e wq ⟨rfl, rfl⟩
                    go_wp2
                    go_roundw
                    case rel => exact ⟨t2, by omega, rfl, hNx.out.1, hNx.out.2, Hbt.out⟩
                    case measure => simp; omega
                · rw [h3] at cC
                  have z4 : 4 ≤ t2.size := Sj.pre_size h3
                  obtain ⟨t3, ht3⟩ : ∃ x : ByteArray, x = ⟨(Pl.trimB (t2.extract 4 t2.size).data.toList).toArray⟩ := ⟨_, rfl⟩
                  have e3 := Sj.r3_yes h3 ht3
                  have cU3 : Hid (∀ W, Calls Tryz.prog 13 #[.string (t2.extract 4 t2.size)] W fun e w' => e = .returned (.string t3) ∧ W = w') := fun W => by rw [ht3]; exact specTrimB _ W (by rw [ByteArray.size_extract]; omega)
                  clear ht3
                  have s3 : t3.size ≤ t2.size := by
                    have a1 := congrArg List.length e3
                    have a2 := Sj.r3_le t2.data.toList
                    rw [Hel.out] at a1
                    rcases a2 with a2 | a2
                    · rw [Hel.out] at a2; omega
                    · have a3 := congrArg List.length a2.1; rw [Hel.out] at a3; omega
                  have eR : Hid (t3.data.toList = Sj.round t.data.toList) := by show _ = _; unfold Sj.round; rw [← E1.out, ← E2.out]; exact e3
                  have HC := mkHid cC
                  clear h3 e3 cC E1 E2
                  have hRet : Hid (t3.size = t.size → t3 = ⟨(Sj.norm lw).toArray⟩) := fun hq => by
                    have a := Sj.round_same (l := t.data.toList) (by rw [← eR.out] <;> (rw [Hel.out, Hel.out]; exact hq))
                    refine Sj.ba_same ?_
                    rw [eR.out, a.1, ← hnorm.out, a.2]
                  have hNx : Hid (Sj.Clean t3.data.toList ∧ Sj.norm t3.data.toList = Sj.norm lw) := by
                    show _ ∧ _
                    rw [eR.out]
                    exact ⟨Sj.round_clean hcln.out, (Sj.norm_round hcln.out).trans hnorm.out⟩
                  clear eR hcln hnorm Hel
                  by_cases hq : t3.size = t.size
                  · have hq2 : ((t3.size : Int) == (t.size : Int)) = true := by rw [hq]; simp
                    have hv := mkHid (hRet.out hq)
                    clear hRet hNx
                    have Hq := mkHid hq
                    clear hq
                    go_wp2_with fail
                    refine (HE.out _).mono ?_
                    rintro e wq ⟨rfl, rfl⟩
                    go_wp2_with fail
                    refine (HA.out _).mono ?_
                    rintro e wq ⟨rfl, rfl⟩
                    go_wp2_with fail
                    refine (cU2.out _).mono ?_
                    rintro e wq ⟨rfl, rfl⟩
                    go_wp2_with fail
                    refine (HC.out _).mono ?_
                    rintro e wq ⟨rfl, rfl⟩
                    go_wp2_with fail
                    refine (cU3.out _).mono ?_
                    rintro e wq ⟨rfl, rfl⟩
                    go_wp2
                    go_ret
                    exact ⟨by rw [HR2.out, hv.out]; rfl, Hbt.out⟩
                  · have hq2 : ((t3.size : Int) == (t.size : Int)) = false := by simp; omega
                    clear hRet
                    go_wp2_with fail
                    refine (HE.out _).mono ?_
                    rintro e wq ⟨rfl, rfl⟩
                    go_wp2_with fail
                    refine (HA.out _).mono ?_
                    rintro e wq ⟨rfl, rfl⟩
                    go_wp2_with fail
                    refine (cU2.out _).mono ?_
                    rintro e wq ⟨rfl, rfl⟩
                    go_wp2_with fail
                    refine (HC.out _).mono ?_
                    rintro e wq ⟨rfl, rfl⟩
                    go_wp2_with fail
                    refine (cU3.out _).mono ?_
                    rintro e wq ⟨rfl, rfl⟩
                    go_wp2
                    go_roundw
                    case rel => exact ⟨t3, by omega, rfl, hNx.out.1, hNx.out.2, Hbt.out⟩
                    case measure => simp; omega
            · rw [h1] at cE
              have HE := mkHid cE
              clear cE
              have z5 : 5 ≤ t.size := Sj.suf_size h1
              have hn5 : ((t.size : Int) - 5).toNat = t.size - 5 := by omega
              have h50 : (0 : Int) ≤ (t.size : Int) - 5 := by omega
              obtain ⟨t1, ht1⟩ : ∃ x : ByteArray, x = ⟨(Pl.trimB (t.extract 0 (t.size - 5)).data.toList).toArray⟩ := ⟨_, rfl⟩
              have E1 := mkHid (Sj.r1_yes h1 ht1)
              have cU1 : Hid (∀ W, Calls Tryz.prog 13 #[.string (t.extract 0 (t.size - 5))] W fun e w' => e = .returned (.string t1) ∧ W = w') := fun W => by rw [ht1]; exact specTrimB _ W (by rw [ByteArray.size_extract]; omega)
              have s1 : t1.size ≤ t.size := by
                have a1 := congrArg List.length E1.out
                have a2 := Sj.r1_le t.data.toList
                rw [Hel.out] at a1
                rcases a2 with a2 | a2
                · rw [Hel.out] at a2; omega
                · have a3 := congrArg List.length a2.1; rw [Hel.out] at a3; omega
              clear ht1 h1
              have cA : ∀ W, Calls Tryz.prog 15 #[.string t1, .string ⟨#[114, 101, 58]⟩] W fun e w' => e = .returned (.bool (hasPrefix t1.data.toList [114, 101, 58])) ∧ W = w' := fun W => specBeginsS t1 ⟨#[114, 101, 58]⟩ W (by omega) (by decide)
              have cB : ∀ W, Calls Tryz.prog 15 #[.string t1, .string ⟨#[102, 119, 58]⟩] W fun e w' => e = .returned (.bool (hasPrefix t1.data.toList [102, 119, 58])) ∧ W = w' := fun W => specBeginsS t1 ⟨#[102, 119, 58]⟩ W (by omega) (by decide)
              cases h2 : hasPrefix t1.data.toList [114, 101, 58]
              · rw [h2] at cA
                cases h2b : hasPrefix t1.data.toList [102, 119, 58]
                · rw [h2b] at cB
                  have HA := mkHid cA
                  have HB := mkHid cB
                  clear cA cB
                  have E2 := mkHid (Sj.r2_no h2 h2b)
                  have s2 : t1.size ≤ t1.size := Nat.le_refl _
                  clear h2 h2b
                  have cC : ∀ W, Calls Tryz.prog 15 #[.string t1, .string ⟨#[102, 119, 100, 58]⟩] W fun e w' => e = .returned (.bool (hasPrefix t1.data.toList [102, 119, 100, 58])) ∧ W = w' := fun W => specBeginsS t1 ⟨#[102, 119, 100, 58]⟩ W (by omega) (by decide)
                  cases h3 : hasPrefix t1.data.toList [102, 119, 100, 58]
                  · rw [h3] at cC
                    have e3 := Sj.r3_no h3
                    have s3 : t1.size ≤ t1.size := by
                      have a1 := congrArg List.length e3
                      have a2 := Sj.r3_le t1.data.toList
                      rw [Hel.out] at a1
                      rcases a2 with a2 | a2
                      · rw [Hel.out] at a2; omega
                      · have a3 := congrArg List.length a2.1; rw [Hel.out] at a3; omega
                    have eR : Hid (t1.data.toList = Sj.round t.data.toList) := by show _ = _; unfold Sj.round; rw [← E1.out, ← E2.out]; exact e3
                    have HC := mkHid cC
                    clear h3 e3 cC E1 E2
                    have hRet : Hid (t1.size = t.size → t1 = ⟨(Sj.norm lw).toArray⟩) := fun hq => by
                      have a := Sj.round_same (l := t.data.toList) (by rw [← eR.out] <;> (rw [Hel.out, Hel.out]; exact hq))
                      refine Sj.ba_same ?_
                      rw [eR.out, a.1, ← hnorm.out, a.2]
                    have hNx : Hid (Sj.Clean t1.data.toList ∧ Sj.norm t1.data.toList = Sj.norm lw) := by
                      show _ ∧ _
                      rw [eR.out]
                      exact ⟨Sj.round_clean hcln.out, (Sj.norm_round hcln.out).trans hnorm.out⟩
                    clear eR hcln hnorm Hel
                    by_cases hq : t1.size = t.size
                    · have hq2 : ((t1.size : Int) == (t.size : Int)) = true := by rw [hq]; simp
                      have hv := mkHid (hRet.out hq)
                      clear hRet hNx
                      have Hq := mkHid hq
                      clear hq
                      go_wp2_with fail
                      refine (HE.out _).mono ?_
                      rintro e wq ⟨rfl, rfl⟩
                      go_wp2_with fail
                      refine (cU1.out _).mono ?_
                      rintro e wq ⟨rfl, rfl⟩
                      go_wp2_with fail
                      refine (HA.out _).mono ?_
                      rintro e wq ⟨rfl, rfl⟩
                      go_wp2_with fail
                      refine (HB.out _).mono ?_
                      rintro e wq ⟨rfl, rfl⟩
                      go_wp2_with fail
                      refine (HC.out _).mono ?_
                      rintro e wq ⟨rfl, rfl⟩
                      go_wp2
                      go_ret
                      exact ⟨by rw [HR2.out, hv.out]; rfl, Hbt.out⟩
                    · have hq2 : ((t1.size : Int) == (t.size : Int)) = false := by simp; omega
                      clear hRet
                      go_wp2_with fail
                      refine (HE.out _).mono ?_
                      rintro e wq ⟨rfl, rfl⟩
                      go_wp2_with fail
                      refine (cU1.out _).mono ?_
                      rintro e wq ⟨rfl, rfl⟩
                      go_wp2_with fail
                      refine (HA.out _).mono ?_
                      rintro e wq ⟨rfl, rfl⟩
                      go_wp2_with fail
                      refine (HB.out _).mono ?_
                      rintro e wq ⟨rfl, rfl⟩
                      go_wp2_with fail
                      refine (HC.out _).mono ?_
                      rintro e wq ⟨rfl, rfl⟩
                      go_wp2
                      go_roundw
                      case rel => exact ⟨t1, by omega, rfl, hNx.out.1, hNx.out.2, Hbt.out⟩
                      case measure => simp; omega
                  · rw [h3] at cC
                    have z4 : 4 ≤ t1.size := Sj.pre_size h3
                    obtain ⟨t3, ht3⟩ : ∃ x : ByteArray, x = ⟨(Pl.trimB (t1.extract 4 t1.size).data.toList).toArray⟩ := ⟨_, rfl⟩
                    have e3 := Sj.r3_yes h3 ht3
                    have cU3 : Hid (∀ W, Calls Tryz.prog 13 #[.string (t1.extract 4 t1.size)] W fun e w' => e = .returned (.string t3) ∧ W = w') := fun W => by rw [ht3]; exact specTrimB _ W (by rw [ByteArray.size_extract]; omega)
                    clear ht3
                    have s3 : t3.size ≤ t1.size := by
                      have a1 := congrArg List.length e3
                      have a2 := Sj.r3_le t1.data.toList
                      rw [Hel.out] at a1
                      rcases a2 with a2 | a2
                      · rw [Hel.out] at a2; omega
                      · have a3 := congrArg List.length a2.1; rw [Hel.out] at a3; omega
                    have eR : Hid (t3.data.toList = Sj.round t.data.toList) := by show _ = _; unfold Sj.round; rw [← E1.out, ← E2.out]; exact e3
                    have HC := mkHid cC
                    clear h3 e3 cC E1 E2
                    have hRet : Hid (t3.size = t.size → t3 = ⟨(Sj.norm lw).toArray⟩) := fun hq => by
                      have a := Sj.round_same (l := t.data.toList) (by rw [← eR.out] <;> (rw [Hel.out, Hel.out]; exact hq))
                      refine Sj.ba_same ?_
                      rw [eR.out, a.1, ← hnorm.out, a.2]
                    have hNx : Hid (Sj.Clean t3.data.toList ∧ Sj.norm t3.data.toList = Sj.norm lw) := by
                      show _ ∧ _
                      rw [eR.out]
                      exact ⟨Sj.round_clean hcln.out, (Sj.norm_round hcln.out).trans hnorm.out⟩
                    clear eR hcln hnorm Hel
                    by_cases hq : t3.size = t.size
                    · have hq2 : ((t3.size : Int) == (t.size : Int)) = true := by rw [hq]; simp
                      have hv := mkHid (hRet.out hq)
                      clear hRet hNx
                      have Hq := mkHid hq
                      clear hq
                      go_wp2_with fail
                      refine (HE.out _).mono ?_
                      rintro e wq ⟨rfl, rfl⟩
                      go_wp2_with fail
                      refine (cU1.out _).mono ?_
                      rintro e wq ⟨rfl, rfl⟩
                      go_wp2_with fail
                      refine (HA.out _).mono ?_
                      rintro e wq ⟨rfl, rfl⟩
                      go_wp2_with fail
                      refine (HB.out _).mono ?_
                      rintro e wq ⟨rfl, rfl⟩
                      go_wp2_with fail
                      refine (HC.out _).mono ?_
                      rintro e wq ⟨rfl, rfl⟩
                      go_wp2_with fail
                      refine (cU3.out _).mono ?_
                      rintro e wq ⟨rfl, rfl⟩
                      go_wp2
                      go_ret
                      exact ⟨by rw [HR2.out, hv.out]; rfl, Hbt.out⟩
                    · have hq2 : ((t3.size : Int) == (t.size : Int)) = false := by simp; omega
                      clear hRet
                      go_wp2_with fail
                      refine (HE.out _).mono ?_
                      rintro e wq ⟨rfl, rfl⟩
                      go_wp2_with fail
                      refine (cU1.out _).mono ?_
                      rintro e wq ⟨rfl, rfl⟩
                      go_wp2_with fail
                      refine (HA.out _).mono ?_
                      rintro e wq ⟨rfl, rfl⟩
                      go_wp2_with fail
                      refine (HB.out _).mono ?_
                      rintro e wq ⟨rfl, rfl⟩
                      go_wp2_with fail
                      refine (HC.out _).mono ?_
                      rintro e wq ⟨rfl, rfl⟩
                      go_wp2_with fail
                      refine (cU3.out _).mono ?_
                      rintro e wq ⟨rfl, rfl⟩
                      go_wp2
                      go_roundw
                      case rel => exact ⟨t3, by omega, rfl, hNx.out.1, hNx.out.2, Hbt.out⟩
                      case measure => simp; omega
                · rw [h2b] at cB
                  have HA := mkHid cA
                  have HB := mkHid cB
                  clear cA cB
                  have z3 : 3 ≤ t1.size := Sj.pre_size h2b
                  obtain ⟨t2, ht2⟩ : ∃ x : ByteArray, x = ⟨(Pl.trimB (t1.extract 3 t1.size).data.toList).toArray⟩ := ⟨_, rfl⟩
                  have E2 := mkHid (Sj.r2_yes (.inr h2b) ht2)
                  have cU2 : Hid (∀ W, Calls Tryz.prog 13 #[.string (t1.extract 3 t1.size)] W fun e w' => e = .returned (.string t2) ∧ W = w') := fun W => by rw [ht2]; exact specTrimB _ W (by rw [ByteArray.size_extract]; omega)
                  have s2 : t2.size ≤ t1.size := by
                    have a1 := congrArg List.length E2.out
                    have a2 := Sj.r2_le t1.data.toList
                    rw [Hel.out] at a1
                    rcases a2 with a2 | a2
                    · rw [Hel.out] at a2; omega
                    · have a3 := congrArg List.length a2.1; rw [Hel.out] at a3; omega
                  clear ht2
                  clear h2 h2b
                  have cC : ∀ W, Calls Tryz.prog 15 #[.string t2, .string ⟨#[102, 119, 100, 58]⟩] W fun e w' => e = .returned (.bool (hasPrefix t2.data.toList [102, 119, 100, 58])) ∧ W = w' := fun W => specBeginsS t2 ⟨#[102, 119, 100, 58]⟩ W (by omega) (by decide)
                  cases h3 : hasPrefix t2.data.toList [102, 119, 100, 58]
                  · rw [h3] at cC
                    have e3 := Sj.r3_no h3
                    have s3 : t2.size ≤ t2.size := by
                      have a1 := congrArg List.length e3
                      have a2 := Sj.r3_le t2.data.toList
                      rw [Hel.out] at a1
                      rcases a2 with a2 | a2
                      · rw [Hel.out] at a2; omega
                      · have a3 := congrArg List.length a2.1; rw [Hel.out] at a3; omega
                    have eR : Hid (t2.data.toList = Sj.round t.data.toList) := by show _ = _; unfold Sj.round; rw [← E1.out, ← E2.out]; exact e3
                    have HC := mkHid cC
                    clear h3 e3 cC E1 E2
                    have hRet : Hid (t2.size = t.size → t2 = ⟨(Sj.norm lw).toArray⟩) := fun hq => by
                      have a := Sj.round_same (l := t.data.toList) (by rw [← eR.out] <;> (rw [Hel.out, Hel.out]; exact hq))
                      refine Sj.ba_same ?_
                      rw [eR.out, a.1, ← hnorm.out, a.2]
                    have hNx : Hid (Sj.Clean t2.data.toList ∧ Sj.norm t2.data.toList = Sj.norm lw) := by
                      show _ ∧ _
                      rw [eR.out]
                      exact ⟨Sj.round_clean hcln.out, (Sj.norm_round hcln.out).trans hnorm.out⟩
                    clear eR hcln hnorm Hel
                    by_cases hq : t2.size = t.size
                    · have hq2 : ((t2.size : Int) == (t.size : Int)) = true := by rw [hq]; simp
                      have hv := mkHid (hRet.out hq)
                      clear hRet hNx
                      have Hq := mkHid hq
                      clear hq
                      go_wp2_with fail
                      refine (HE.out _).mono ?_
                      rintro e wq ⟨rfl, rfl⟩
                      go_wp2_with fail
                      refine (cU1.out _).mono ?_
                      rintro e wq ⟨rfl, rfl⟩
                      go_wp2_with fail
                      refine (HA.out _).mono ?_
                      rintro e wq ⟨rfl, rfl⟩
                      go_wp2_with fail
                      refine (HB.out _).mono ?_
                      rintro e wq ⟨rfl, rfl⟩
                      go_wp2_with fail
                      refine (cU2.out _).mono ?_
                      rintro e wq ⟨rfl, rfl⟩
                      go_wp2_with fail
                      refine (HC.out _).mono ?_
                      rintro e wq ⟨rfl, rfl⟩
                      go_wp2
                      go_ret
                      exact ⟨by rw [HR2.out, hv.out]; rfl, Hbt.out⟩
                    · have hq2 : ((t2.size : Int) == (t.size : Int)) = false := by simp; omega
                      clear hRet
                      go_wp2_with fail
                      refine (HE.out _).mono ?_
                      rintro e wq ⟨rfl, rfl⟩
                      go_wp2_with fail
                      refine (cU1.out _).mono ?_
                      rintro e wq ⟨rfl, rfl⟩
                      go_wp2_with fail
                      refine (HA.out _).mono ?_
                      rintro e wq ⟨rfl, rfl⟩
                      go_wp2_with fail
                      refine (HB.out _).mono ?_
                      rintro e wq ⟨rfl, rfl⟩
                      go_wp2_with fail
                      refine (cU2.out _).mono ?_
                      rintro e wq ⟨rfl, rfl⟩
                      go_wp2_with fail
                      refine (HC.out _).mono ?_
                      rintro e wq ⟨rfl, rfl⟩
                      go_wp2
                      go_roundw
                      case rel => exact ⟨t2, by omega, rfl, hNx.out.1, hNx.out.2, Hbt.out⟩
                      case measure => simp; omega
                  · rw [h3] at cC
                    have z4 : 4 ≤ t2.size := Sj.pre_size h3
                    obtain ⟨t3, ht3⟩ : ∃ x : ByteArray, x = ⟨(Pl.trimB (t2.extract 4 t2.size).data.toList).toArray⟩ := ⟨_, rfl⟩
                    have e3 := Sj.r3_yes h3 ht3
                    have cU3 : Hid (∀ W, Calls Tryz.prog 13 #[.string (t2.extract 4 t2.size)] W fun e w' => e = .returned (.string t3) ∧ W = w') := fun W => by rw [ht3]; exact specTrimB _ W (by rw [ByteArray.size_extract]; omega)
                    clear ht3
                    have s3 : t3.size ≤ t2.size := by
                      have a1 := congrArg List.length e3
                      have a2 := Sj.r3_le t2.data.toList
                      rw [Hel.out] at a1
                      rcases a2 with a2 | a2
                      · rw [Hel.out] at a2; omega
                      · have a3 := congrArg List.length a2.1; rw [Hel.out] at a3; omega
                    have eR : Hid (t3.data.toList = Sj.round t.data.toList) := by show _ = _; unfold Sj.round; rw [← E1.out, ← E2.out]; exact e3
                    have HC := mkHid cC
                    clear h3 e3 cC E1 E2
                    have hRet : Hid (t3.size = t.size → t3 = ⟨(Sj.norm lw).toArray⟩) := fun hq => by
                      have a := Sj.round_same (l := t.data.toList) (by rw [← eR.out] <;> (rw [Hel.out, Hel.out]; exact hq))
                      refine Sj.ba_same ?_
                      rw [eR.out, a.1, ← hnorm.out, a.2]
                    have hNx : Hid (Sj.Clean t3.data.toList ∧ Sj.norm t3.data.toList = Sj.norm lw) := by
                      show _ ∧ _
                      rw [eR.out]
                      exact ⟨Sj.round_clean hcln.out, (Sj.norm_round hcln.out).trans hnorm.out⟩
                    clear eR hcln hnorm Hel
                    by_cases hq : t3.size = t.size
                    · have hq2 : ((t3.size : Int) == (t.size : Int)) = true := by rw [hq]; simp
                      have hv := mkHid (hRet.out hq)
                      clear hRet hNx
                      have Hq := mkHid hq
                      clear hq
                      go_wp2_with fail
                      refine (HE.out _).mono ?_
                      rintro e wq ⟨rfl, rfl⟩
                      go_wp2_with fail
                      refine (cU1.out _).mono ?_
                      rintro e wq ⟨rfl, rfl⟩
                      go_wp2_with fail
                      refine (HA.out _).mono ?_
                      rintro e wq ⟨rfl, rfl⟩
                      go_wp2_with fail
                      refine (HB.out _).mono ?_
                      rintro e wq ⟨rfl, rfl⟩
                      go_wp2_with fail
                      refine (cU2.out _).mono ?_
                      rintro e wq ⟨rfl, rfl⟩
                      go_wp2_with fail
                      refine (HC.out _).mono ?_
                      rintro e wq ⟨rfl, rfl⟩
                      go_wp2_with fail
                      refine (cU3.out _).mono ?_
                      rintro e wq ⟨rfl, rfl⟩
                      go_wp2
                      go_ret
                      exact ⟨by rw [HR2.out, hv.out]; rfl, Hbt.out⟩
                    · have hq2 : ((t3.size : Int) == (t.size : Int)) = false := by simp; omega
                      clear hRet
                      go_wp2_with fail
                      refine (HE.out _).mono ?_
                      rintro e wq ⟨rfl, rfl⟩
                      go_wp2_with fail
                      refine (cU1.out _).mono ?_
                      rintro e wq ⟨rfl, rfl⟩
                      go_wp2_with fail
                      refine (HA.out _).mono ?_
                      rintro e wq ⟨rfl, rfl⟩
                      go_wp2_with fail
                      refine (HB.out _).mono ?_
                      rintro e wq ⟨rfl, rfl⟩
                      go_wp2_with fail
                      refine (cU2.out _).mono ?_
                      rintro e wq ⟨rfl, rfl⟩
                      go_wp2_with fail
                      refine (HC.out _).mono ?_
                      rintro e wq ⟨rfl, rfl⟩
                      go_wp2_with fail
                      refine (cU3.out _).mono ?_
                      rintro e wq ⟨rfl, rfl⟩
                      go_wp2
                      go_roundw
                      case rel => exact ⟨t3, by omega, rfl, hNx.out.1, hNx.out.2, Hbt.out⟩
                      case measure => simp; omega
              · rw [h2] at cA
                have HA := mkHid cA
                have HB := mkHid cB
                clear cA cB
                have z3 : 3 ≤ t1.size := Sj.pre_size h2
                obtain ⟨t2, ht2⟩ : ∃ x : ByteArray, x = ⟨(Pl.trimB (t1.extract 3 t1.size).data.toList).toArray⟩ := ⟨_, rfl⟩
                have E2 := mkHid (Sj.r2_yes (.inl h2) ht2)
                have cU2 : Hid (∀ W, Calls Tryz.prog 13 #[.string (t1.extract 3 t1.size)] W fun e w' => e = .returned (.string t2) ∧ W = w') := fun W => by rw [ht2]; exact specTrimB _ W (by rw [ByteArray.size_extract]; omega)
                have s2 : t2.size ≤ t1.size := by
                  have a1 := congrArg List.length E2.out
                  have a2 := Sj.r2_le t1.data.toList
                  rw [Hel.out] at a1
                  rcases a2 with a2 | a2
                  · rw [Hel.out] at a2; omega
                  · have a3 := congrArg List.length a2.1; rw [Hel.out] at a3; omega
                clear ht2
                clear h2
                have cC : ∀ W, Calls Tryz.prog 15 #[.string t2, .string ⟨#[102, 119, 100, 58]⟩] W fun e w' => e = .returned (.bool (hasPrefix t2.data.toList [102, 119, 100, 58])) ∧ W = w' := fun W => specBeginsS t2 ⟨#[102, 119, 100, 58]⟩ W (by omega) (by decide)
                cases h3 : hasPrefix t2.data.toList [102, 119, 100, 58]
                · rw [h3] at cC
                  have e3 := Sj.r3_no h3
                  have s3 : t2.size ≤ t2.size := by
                    have a1 := congrArg List.length e3
                    have a2 := Sj.r3_le t2.data.toList
                    rw [Hel.out] at a1
                    rcases a2 with a2 | a2
                    · rw [Hel.out] at a2; omega
                    · have a3 := congrArg List.length a2.1; rw [Hel.out] at a3; omega
                  have eR : Hid (t2.data.toList = Sj.round t.data.toList) := by show _ = _; unfold Sj.round; rw [← E1.out, ← E2.out]; exact e3
                  have HC := mkHid cC
                  clear h3 e3 cC E1 E2
                  have hRet : Hid (t2.size = t.size → t2 = ⟨(Sj.norm lw).toArray⟩) := fun hq => by
                    have a := Sj.round_same (l := t.data.toList) (by rw [← eR.out] <;> (rw [Hel.out, Hel.out]; exact hq))
                    refine Sj.ba_same ?_
                    rw [eR.out, a.1, ← hnorm.out, a.2]
                  have hNx : Hid (Sj.Clean t2.data.toList ∧ Sj.norm t2.data.toList = Sj.norm lw) := by
                    show _ ∧ _
                    rw [eR.out]
                    exact ⟨Sj.round_clean hcln.out, (Sj.norm_round hcln.out).trans hnorm.out⟩
                  clear eR hcln hnorm Hel
                  by_cases hq : t2.size = t.size
                  · have hq2 : ((t2.size : Int) == (t.size : Int)) = true := by rw [hq]; simp
                    have hv := mkHid (hRet.out hq)
                    clear hRet hNx
                    have Hq := mkHid hq
                    clear hq
                    go_wp2_with fail
                    refine (HE.out _).mono ?_
                    rintro e wq ⟨rfl, rfl⟩
                    go_wp2_with fail
                    refine (cU1.out _).mono ?_
                    rintro e wq ⟨rfl, rfl⟩
                    go_wp2_with fail
                    refine (HA.out _).mono ?_
                    rintro e wq ⟨rfl, rfl⟩
                    go_wp2_with fail
                    refine (cU2.out _).mono ?_
                    rintro e wq ⟨rfl, rfl⟩
                    go_wp2_with fail
                    refine (HC.out _).mono ?_
                    rintro e wq ⟨rfl, rfl⟩
                    go_wp2
                    go_ret
                    exact ⟨by rw [HR2.out, hv.out]; rfl, Hbt.out⟩
                  · have hq2 : ((t2.size : Int) == (t.size : Int)) = false := by simp; omega
                    clear hRet
                    go_wp2_with fail
                    refine (HE.out _).mono ?_
                    rintro e wq ⟨rfl, rfl⟩
                    go_wp2_with fail
                    refine (cU1.out _).mono ?_
                    rintro e wq ⟨rfl, rfl⟩
                    go_wp2_with fail
                    refine (HA.out _).mono ?_
                    rintro e wq ⟨rfl, rfl⟩
                    go_wp2_with fail
                    refine (cU2.out _).mono ?_
                    rintro e wq ⟨rfl, rfl⟩
                    go_wp2_with fail
                    refine (HC.out _).mono ?_
                    rintro e wq ⟨rfl, rfl⟩
                    go_wp2
                    go_roundw
                    case rel => exact ⟨t2, by omega, rfl, hNx.out.1, hNx.out.2, Hbt.out⟩
                    case measure => simp; omega
                · rw [h3] at cC
                  have z4 : 4 ≤ t2.size := Sj.pre_size h3
                  obtain ⟨t3, ht3⟩ : ∃ x : ByteArray, x = ⟨(Pl.trimB (t2.extract 4 t2.size).data.toList).toArray⟩ := ⟨_, rfl⟩
                  have e3 := Sj.r3_yes h3 ht3
                  have cU3 : Hid (∀ W, Calls Tryz.prog 13 #[.string (t2.extract 4 t2.size)] W fun e w' => e = .returned (.string t3) ∧ W = w') := fun W => by rw [ht3]; exact specTrimB _ W (by rw [ByteArray.size_extract]; omega)
                  clear ht3
                  have s3 : t3.size ≤ t2.size := by
                    have a1 := congrArg List.length e3
                    have a2 := Sj.r3_le t2.data.toList
                    rw [Hel.out] at a1
                    rcases a2 with a2 | a2
                    · rw [Hel.out] at a2; omega
                    · have a3 := congrArg List.length a2.1; rw [Hel.out] at a3; omega
                  have eR : Hid (t3.data.toList = Sj.round t.data.toList) := by show _ = _; unfold Sj.round; rw [← E1.out, ← E2.out]; exact e3
                  have HC := mkHid cC
                  clear h3 e3 cC E1 E2
                  have hRet : Hid (t3.size = t.size → t3 = ⟨(Sj.norm lw).toArray⟩) := fun hq => by
                    have a := Sj.round_same (l := t.data.toList) (by rw [← eR.out] <;> (rw [Hel.out, Hel.out]; exact hq))
                    refine Sj.ba_same ?_
                    rw [eR.out, a.1, ← hnorm.out, a.2]
                  have hNx : Hid (Sj.Clean t3.data.toList ∧ Sj.norm t3.data.toList = Sj.norm lw) := by
                    show _ ∧ _
                    rw [eR.out]
                    exact ⟨Sj.round_clean hcln.out, (Sj.norm_round hcln.out).trans hnorm.out⟩
                  clear eR hcln hnorm Hel
                  by_cases hq : t3.size = t.size
                  · have hq2 : ((t3.size : Int) == (t.size : Int)) = true := by rw [hq]; simp
                    have hv := mkHid (hRet.out hq)
                    clear hRet hNx
                    have Hq := mkHid hq
                    clear hq
                    go_wp2_with fail
                    refine (HE.out _).mono ?_
                    rintro e wq ⟨rfl, rfl⟩
                    go_wp2_with fail
                    refine (cU1.out _).mono ?_
                    rintro e wq ⟨rfl, rfl⟩
                    go_wp2_with fail
                    refine (HA.out _).mono ?_
                    rintro e wq ⟨rfl, rfl⟩
                    go_wp2_with fail
                    refine (cU2.out _).mono ?_
                    rintro e wq ⟨rfl, rfl⟩
                    go_wp2_with fail
                    refine (HC.out _).mono ?_
                    rintro e wq ⟨rfl, rfl⟩
                    go_wp2_with fail
                    refine (cU3.out _).mono ?_
                    rintro e wq ⟨rfl, rfl⟩
                    go_wp2
                    go_ret
                    exact ⟨by rw [HR2.out, hv.out]; rfl, Hbt.out⟩
                  · have hq2 : ((t3.size : Int) == (t.size : Int)) = false := by simp; omega
                    clear hRet
                    go_wp2_with fail
                    refine (HE.out _).mono ?_
                    rintro e wq ⟨rfl, rfl⟩
                    go_wp2_with fail
                    refine (cU1.out _).mono ?_
                    rintro e wq ⟨rfl, rfl⟩
                    go_wp2_with fail
                    refine (HA.out _).mono ?_
                    rintro e wq ⟨rfl, rfl⟩
                    go_wp2_with fail
                    refine (cU2.out _).mono ?_
                    rintro e wq ⟨rfl, rfl⟩
                    go_wp2_with fail
                    refine (HC.out _).mono ?_
                    rintro e wq ⟨rfl, rfl⟩
                    go_wp2_with fail
                    refine (cU3.out _).mono ?_
                    rintro e wq ⟨rfl, rfl⟩
                    go_wp2
                    go_roundw
                    case rel => exact ⟨t3, by omega, rfl, hNx.out.1, hNx.out.2, Hbt.out⟩
                    case measure => simp; omega
  · have hcx : ((H.code : Int) != 0) = true := by simp; omega
    have hR0 : Hid (R = ⟨#[]⟩) := by
      show _ = _
      rw [HR.out, Hill2.out h0]
    have hbV := mkHid (show Below w.heap.size w V from Hb2.out)
    rw [HVe.out] at hbV
    clear h0 HR Hill2 Hb2 HVe Hvz
    go_wp2
    go_ret
    exact ⟨by rw [hR0.out]; rfl, hbV.out⟩
end Go.Proofs.YtajkahpkbeobaaaGreatDoor
