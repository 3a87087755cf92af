
/- FnHeads: its walk. -/
import Derived.Test.YtffjgcpiamgejaaHeadsParts
namespace Go.Proofs.Ytffjgcpiamgejaa
open Go.RowKit Go.Lib
set_option maxRecDepth 10000 in
set_option maxHeartbeats 8000000 in
theorem headsWalk (o1 o2 : Option Addr) (c d : List UInt8) (cp1 cp2 : Nat) (w : World) (hc : Code w.heap.size w o1 c) (hd : Code w.heap.size w o2 d) (hl1 : c.length ≤ 1048576) (hl2 : d.length ≤ 1048576) :
    Calls Try.prog 3 #[.slice o1 c.length cp1, .slice o2 d.length cp2] w fun e w' => e = .returned (.bool true) ∧ Below w.heap.size w w' := by
  have HC : Hid (Code w.heap.size w o1 c) := hc
  have HE : Hid (Code w.heap.size w o2 d) := hd
  have hDW := drawWriteHead o1 c cp1 w hc hl1
  clear hc hd
  go_enter Try.func3, Try.ntmps3
  go_wp2_with fail
  refine hDW.mono ?_
  rintro e w1 ⟨v1, F, rfl, hown1, hF, hsm, hb1⟩
  have Hb1 : Hid (Below w.heap.size w w1) := hb1
  obtain ⟨o, cap, rfl, hFld⟩ := hown1.fld
  have hba : F.length = (toBA F).length := by simp [toBA]
  have HFld : Hid (Fld w1.heap.size w1 o (toBA F)) := hFld
  have HL := (show Hid _ from hd_lines F [])
  have hll := lines_len F hsm
  have hIW := implWriteHead o (toBA F) cap w1 hFld (by omega) (small_ba hsm)
  have hSW := fun w2 hF2 => specWriteHead o (toBA F) cap w2 hF2 (by omega) (small_ba hsm)
  rw [← hba] at hIW
  simp only [← hba] at hSW
  clear hDW hown1 hFld hb1 hba
  obtain ⟨T, hT⟩ : ∃ T : ByteArray, T = ⟨(Pl.hd [] (toBA F)).toArray⟩ := ⟨_, rfl⟩
  have HT : Hid (T.data.toList = Pl.hd [] (toBA F)) := by show _ = _; rw [hT]
  rw [← hT] at hIW
  simp only [← hT] at hSW
  clear hT
  have HSW := (show Hid _ from hSW)
  clear hSW
  go_wp2_with fail
  refine hIW.mono ?_
  rintro e w2 ⟨rfl, hb2⟩
  have Hb2 : Hid (Below w.heap.size w w2) := Hb1.out.trans (hb2.mono Hb1.out.size)
  have HFld2 : Hid (Fld w2.heap.size w2 o (toBA F)) := (HFld.out.below hb2).mono hb2.size
  clear hIW hb2 HFld Hb1
  go_wp2_with fail
  refine (HSW.out _ HFld2.out).mono ?_
  rintro e w3 ⟨rfl, hb3⟩
  have Hb3 : Hid (Below w.heap.size w w3) := Hb2.out.trans (hb3.mono Hb2.out.size)
  have HFld3 : Hid (Fld w3.heap.size w3 o (toBA F)) := (HFld2.out.below hb3).mono hb3.size
  clear hb3 HFld2 Hb2 HSW
  cases hTe : T.toList.isEmpty
  · have Hlines : Hid (T.data.toList = F.flatMap Pl.lineL) := by
      show _ = _
      rcases HL.out with h | ⟨h, -⟩
      · rw [h] at HT
        rw [ByteArray.toList_eq, HT.out] at hTe
        cases hTe
      · rw [HT.out, h, List.nil_append]
    have Hok : Hid (∀ f ∈ F, Pl.okL f = true) := by
      rcases HL.out with h | ⟨-, h⟩
      · rw [h] at HT
        rw [ByteArray.toList_eq, HT.out] at hTe
        cases hTe
      · exact h
    clear HL HT
    have hdW := (HE.out.below Hb3.out).mono Hb3.out.size
    have hDL := drawLines o2 d cp2 w3 hdW hl2
    clear hdW
    go_wp2_with fail
    refine hDL.mono ?_
    rintro e w4 ⟨bd, rfl, hbd, hb4⟩
    have Hb4 : Hid (Below w.heap.size w w4) := Hb3.out.trans (hb4.mono Hb3.out.size)
    have HFld4 : Hid (Fld w4.heap.size w4 o (toBA F)) := (HFld3.out.below hb4).mono hb4.size
    clear hDL hb4 HFld3 Hb3
    have hTs : T.size ≤ 6000 := by rw [← Pl.len_list, Hlines.out]; omega
    have hRH : ∀ w : World, Calls Try.prog 8 #[.string (T ++ ⟨#[13, 10]⟩ ++ bd)] w fun e w' => ∃ v, e = .returned (.agg #[.int .i64 0, .int .i64 0, v, .int .i64 ((T.size : Int) + 2)]) ∧ OwnF w.heap.size v F w' ∧ Below w.heap.size w w' := by
      intro w
      have := implReadHead (T ++ ⟨#[13, 10]⟩ ++ bd) w (by simp only [ByteArray.size_append]; show T.size + 2 + bd.size ≤ _; omega)
      rw [show (T ++ ⟨#[13, 10]⟩ ++ bd : ByteArray).data.toList = F.flatMap Pl.lineL ++ (13 :: 10 :: bd.data.toList) from by rw [← Hlines.out]; simp, Pl.readHead_lines F _ Hok.out (by omega)] at this
      rw [show ((F.flatMap Pl.lineL).length + 2 : Nat) = T.size + 2 from by rw [← Hlines.out, Pl.len_list]] at this
      exact this
    go_wp2_with fail
    refine (hRH _).mono ?_
    rintro e w5 ⟨v5, rfl, hown5, hb5⟩
    obtain ⟨o5, c5, rfl, hf5⟩ := hown5.fld
    have Hb5 : Hid (Below w.heap.size w w5) := Hb4.out.trans (hb5.mono Hb4.out.size)
    have HFld5 : Hid (Fld w5.heap.size w5 o (toBA F)) := (HFld4.out.below hb5).mono hb5.size
    have Hf5 : Hid (Fld w5.heap.size w5 o5 (toBA F)) := hf5
    clear hRH hown5 hb5 hf5 HFld4 Hb4
    have hA : ∀ ob, Below w5.heap.size w5 (w5.alloc ob) := fun ob => (Below.refl _ _).alloc (Nat.le_refl _) _
    have hlw : ∀ ob, Calls Try.prog 9 #[.slice o5 F.length c5, .slice o F.length cap] (w5.alloc ob) fun e w' => e = .returned (.bool true) ∧ Below (w5.alloc ob).heap.size (w5.alloc ob) w' := by
      intro ob
      have := lwFields o5 o (toBA F) c5 cap (w5.alloc ob) ((Hf5.out.below (hA ob)).mono (hA ob).size) ((HFld5.out.below (hA ob)).mono (hA ob).size) (by simp [toBA]; omega)
      rw [show (toBA F).length = F.length from by simp [toBA]] at this
      exact this
    have HLW := (show Hid _ from hlw)
    have HA := (show Hid _ from hA)
    clear hlw hA HFld5 Hf5
    go_wp2_with fail
    refine (HLW.out _).mono ?_
    rintro e w6 ⟨rfl, hb6⟩
    have Hb6 : Hid (Below w.heap.size w w6) := Hb5.out.trans (((HA.out _).trans (hb6.mono (HA.out _).size)).mono Hb5.out.size)
    clear HLW HA hb6 Hb5 Hlines Hok hTs
    have hcW := (HC.out.below Hb6.out).mono Hb6.out.size
    have hD := drawFold o1 c cp1 w6 hcW hl1
    clear hcW
    go_wp2_with fail
    refine hD.mono ?_
    rintro e wa ⟨t, x, rfl, hts, hx0, hx1, hba⟩
    have Hba : Hid (Below w.heap.size w wa) := Hb6.out.trans (hba.mono Hb6.out.size)
    have hfs := foldV_size t x
    have hS := specFoldAny t x
    have hI := implFoldAny t x
    have HU : Hid (t.data.toList.all Pl.lb = true → (⟨(Pl.unf false (foldV t x).data.toList).toArray⟩ : ByteArray) = t) := show _ → _ from foldV_unf t x
    have hUn := fun w => implUnfold (foldV t x) w (by omega)
    generalize foldV t x = fo at *
    clear hD hba
    go_wp2_with fail
    refine (hI _ (by omega)).mono ?_
    rintro e wb ⟨rfl, hbb⟩
    have Hbb : Hid (Below w.heap.size w wb) := Hba.out.trans (hbb.mono Hba.out.size)
    clear hbb Hba hI
    go_wp2_with fail
    refine (hS _ (by omega)).mono ?_
    rintro e wc ⟨rfl, hbc⟩
    have Hbc : Hid (Below w.heap.size w wc) := Hbb.out.trans (hbc.mono Hbb.out.size)
    clear hbc Hbb hS
    go_wp2
    go_loopw [12] (fun i wr => ∃ k : Nat, k ≤ t.size ∧ i = .int .i64 k ∧ Hid ((t.data.toList.drop k).all Pl.lb = t.data.toList.all Pl.lb) ∧ Hid (Below w.heap.size w wr)) (fun i _ => t.size - (Lib.intOf i).toNat)
    case atStart => exact ⟨0, Nat.zero_le _, rfl, rfl, Hbc⟩
    case round =>
      clear Hbc
      obtain ⟨k, hk, rfl, hp, Hb⟩ := hrel
      by_cases hlt : k < t.size
      · have hst := Pl.all_step Pl.lb t.data.toList k (by simpa using hlt)
        rw [Pl.at_list t k hlt] at hst
        have Hst : Hid ((t.data.toList.drop k).all Pl.lb = (Pl.lb t[k] && (t.data.toList.drop (k + 1)).all Pl.lb)) := hst
        have h8 : t[k].toNat < 256 := UInt8.toNat_lt _
        clear hst
        cases h13 : ((t[k].toNat : Int) == 13)
        · cases h10 : ((t[k].toNat : Int) == 10)
          · have Hn : Hid ((t.data.toList.drop (k + 1)).all Pl.lb = t.data.toList.all Pl.lb) := by
              show _ = _
              rw [← hp.out, Hst.out, show Pl.lb t[k] = true from by simp [Pl.lb, Pl.byte_ne _ 13 _ rfl h13, Pl.byte_ne _ 10 _ rfl h10], Bool.true_and]
            clear hp Hst
            go_wp2
            go_roundw
            case rel => exact ⟨k + 1, by omega, by go_num, Hn, Hb⟩
            case measure => simp [Lib.intOf]; omega
          · clear hp Hst
            go_wp2
            go_ret
            exact ⟨rfl, Hb.out⟩
        · clear hp Hst
          go_wp2
          go_ret
          exact ⟨rfl, Hb.out⟩
      · have hall : t.data.toList.all Pl.lb = true := by rw [← hp.out]; exact Pl.all_done _ _ k (by simp; omega)
        have hut := HU.out hall
        rw [hut] at hUn
        clear hp hall hut HU
        go_wp2_with fail
        refine (hUn _).mono ?_
        rintro e wd ⟨rfl, hbd⟩
        have Hbd : Hid (Below w.heap.size w wd) := Hb.out.trans (hbd.mono Hb.out.size)
        clear hbd Hb hUn
        go_wp2
        go_ret
        exact ⟨rfl, Hbd.out⟩
  · by_cases hF0 : F.length = 0
    · have hF0i : ((F.length : Int) == 0) = true := by rw [hF0]; rfl
      have hF1 : F = [] := List.length_eq_zero_iff.1 hF0
      have Hlines : Hid (T.data.toList = F.flatMap Pl.lineL) := by
        show _ = _
        rw [HT.out, hF1]; rfl
      have Hok : Hid (∀ f ∈ F, Pl.okL f = true) := by
        rw [hF1]
        exact fun f hf => absurd hf (List.not_mem_nil)
      clear HL HT hF1 hF0
      have hdW := (HE.out.below Hb3.out).mono Hb3.out.size
      have hDL := drawLines o2 d cp2 w3 hdW hl2
      clear hdW
      go_wp2_with fail
      refine hDL.mono ?_
      rintro e w4 ⟨bd, rfl, hbd, hb4⟩
      have Hb4 : Hid (Below w.heap.size w w4) := Hb3.out.trans (hb4.mono Hb3.out.size)
      have HFld4 : Hid (Fld w4.heap.size w4 o (toBA F)) := (HFld3.out.below hb4).mono hb4.size
      clear hDL hb4 HFld3 Hb3
      have hTs : T.size ≤ 6000 := by rw [← Pl.len_list, Hlines.out]; omega
      have hRH : ∀ w : World, Calls Try.prog 8 #[.string (T ++ ⟨#[13, 10]⟩ ++ bd)] w fun e w' => ∃ v, e = .returned (.agg #[.int .i64 0, .int .i64 0, v, .int .i64 ((T.size : Int) + 2)]) ∧ OwnF w.heap.size v F w' ∧ Below w.heap.size w w' := by
        intro w
        have := implReadHead (T ++ ⟨#[13, 10]⟩ ++ bd) w (by simp only [ByteArray.size_append]; show T.size + 2 + bd.size ≤ _; omega)
        rw [show (T ++ ⟨#[13, 10]⟩ ++ bd : ByteArray).data.toList = F.flatMap Pl.lineL ++ (13 :: 10 :: bd.data.toList) from by rw [← Hlines.out]; simp, Pl.readHead_lines F _ Hok.out (by omega)] at this
        rw [show ((F.flatMap Pl.lineL).length + 2 : Nat) = T.size + 2 from by rw [← Hlines.out, Pl.len_list]] at this
        exact this
      go_wp2_with fail
      refine (hRH _).mono ?_
      rintro e w5 ⟨v5, rfl, hown5, hb5⟩
      obtain ⟨o5, c5, rfl, hf5⟩ := hown5.fld
      have Hb5 : Hid (Below w.heap.size w w5) := Hb4.out.trans (hb5.mono Hb4.out.size)
      have HFld5 : Hid (Fld w5.heap.size w5 o (toBA F)) := (HFld4.out.below hb5).mono hb5.size
      have Hf5 : Hid (Fld w5.heap.size w5 o5 (toBA F)) := hf5
      clear hRH hown5 hb5 hf5 HFld4 Hb4
      have hA : ∀ ob, Below w5.heap.size w5 (w5.alloc ob) := fun ob => (Below.refl _ _).alloc (Nat.le_refl _) _
      have hlw : ∀ ob, Calls Try.prog 9 #[.slice o5 F.length c5, .slice o F.length cap] (w5.alloc ob) fun e w' => e = .returned (.bool true) ∧ Below (w5.alloc ob).heap.size (w5.alloc ob) w' := by
        intro ob
        have := lwFields o5 o (toBA F) c5 cap (w5.alloc ob) ((Hf5.out.below (hA ob)).mono (hA ob).size) ((HFld5.out.below (hA ob)).mono (hA ob).size) (by simp [toBA]; omega)
        rw [show (toBA F).length = F.length from by simp [toBA]] at this
        exact this
      have HLW := (show Hid _ from hlw)
      have HA := (show Hid _ from hA)
      clear hlw hA HFld5 Hf5
      go_wp2_with fail
      refine (HLW.out _).mono ?_
      rintro e w6 ⟨rfl, hb6⟩
      have Hb6 : Hid (Below w.heap.size w w6) := Hb5.out.trans (((HA.out _).trans (hb6.mono (HA.out _).size)).mono Hb5.out.size)
      clear HLW HA hb6 Hb5 Hlines Hok hTs
      have hcW := (HC.out.below Hb6.out).mono Hb6.out.size
      have hD := drawFold o1 c cp1 w6 hcW hl1
      clear hcW
      go_wp2_with fail
      refine hD.mono ?_
      rintro e wa ⟨t, x, rfl, hts, hx0, hx1, hba⟩
      have Hba : Hid (Below w.heap.size w wa) := Hb6.out.trans (hba.mono Hb6.out.size)
      have hfs := foldV_size t x
      have hS := specFoldAny t x
      have hI := implFoldAny t x
      have HU : Hid (t.data.toList.all Pl.lb = true → (⟨(Pl.unf false (foldV t x).data.toList).toArray⟩ : ByteArray) = t) := show _ → _ from foldV_unf t x
      have hUn := fun w => implUnfold (foldV t x) w (by omega)
      generalize foldV t x = fo at *
      clear hD hba
      go_wp2_with fail
      refine (hI _ (by omega)).mono ?_
      rintro e wb ⟨rfl, hbb⟩
      have Hbb : Hid (Below w.heap.size w wb) := Hba.out.trans (hbb.mono Hba.out.size)
      clear hbb Hba hI
      go_wp2_with fail
      refine (hS _ (by omega)).mono ?_
      rintro e wc ⟨rfl, hbc⟩
      have Hbc : Hid (Below w.heap.size w wc) := Hbb.out.trans (hbc.mono Hbb.out.size)
      clear hbc Hbb hS
      go_wp2
      go_loopw [12] (fun i wr => ∃ k : Nat, k ≤ t.size ∧ i = .int .i64 k ∧ Hid ((t.data.toList.drop k).all Pl.lb = t.data.toList.all Pl.lb) ∧ Hid (Below w.heap.size w wr)) (fun i _ => t.size - (Lib.intOf i).toNat)
      case atStart => exact ⟨0, Nat.zero_le _, rfl, rfl, Hbc⟩
      case round =>
        clear Hbc
        obtain ⟨k, hk, rfl, hp, Hb⟩ := hrel
        by_cases hlt : k < t.size
        · have hst := Pl.all_step Pl.lb t.data.toList k (by simpa using hlt)
          rw [Pl.at_list t k hlt] at hst
          have Hst : Hid ((t.data.toList.drop k).all Pl.lb = (Pl.lb t[k] && (t.data.toList.drop (k + 1)).all Pl.lb)) := hst
          have h8 : t[k].toNat < 256 := UInt8.toNat_lt _
          clear hst
          cases h13 : ((t[k].toNat : Int) == 13)
          · cases h10 : ((t[k].toNat : Int) == 10)
            · have Hn : Hid ((t.data.toList.drop (k + 1)).all Pl.lb = t.data.toList.all Pl.lb) := by
                show _ = _
                rw [← hp.out, Hst.out, show Pl.lb t[k] = true from by simp [Pl.lb, Pl.byte_ne _ 13 _ rfl h13, Pl.byte_ne _ 10 _ rfl h10], Bool.true_and]
              clear hp Hst
              go_wp2
              go_roundw
              case rel => exact ⟨k + 1, by omega, by go_num, Hn, Hb⟩
              case measure => simp [Lib.intOf]; omega
            · clear hp Hst
              go_wp2
              go_ret
              exact ⟨rfl, Hb.out⟩
          · clear hp Hst
            go_wp2
            go_ret
            exact ⟨rfl, Hb.out⟩
        · have hall : t.data.toList.all Pl.lb = true := by rw [← hp.out]; exact Pl.all_done _ _ k (by simp; omega)
          have hut := HU.out hall
          rw [hut] at hUn
          clear hp hall hut HU
          go_wp2_with fail
          refine (hUn _).mono ?_
          rintro e wd ⟨rfl, hbd⟩
          have Hbd : Hid (Below w.heap.size w wd) := Hb.out.trans (hbd.mono Hb.out.size)
          clear hbd Hb hUn
          go_wp2
          go_ret
          exact ⟨rfl, Hbd.out⟩
    · have hF0i : ((F.length : Int) == 0) = false := beq_eq_false_iff_ne.2 (by omega)
      clear HL HT HFld3
      have hcW := (HC.out.below Hb3.out).mono Hb3.out.size
      have hD := drawFold o1 c cp1 w3 hcW hl1
      clear hcW
      go_wp2_with fail
      refine hD.mono ?_
      rintro e wa ⟨t, x, rfl, hts, hx0, hx1, hba⟩
      have Hba : Hid (Below w.heap.size w wa) := Hb3.out.trans (hba.mono Hb3.out.size)
      have hfs := foldV_size t x
      have hS := specFoldAny t x
      have hI := implFoldAny t x
      have HU : Hid (t.data.toList.all Pl.lb = true → (⟨(Pl.unf false (foldV t x).data.toList).toArray⟩ : ByteArray) = t) := show _ → _ from foldV_unf t x
      have hUn := fun w => implUnfold (foldV t x) w (by omega)
      generalize foldV t x = fo at *
      clear hD hba
      go_wp2_with fail
      refine (hI _ (by omega)).mono ?_
      rintro e wb ⟨rfl, hbb⟩
      have Hbb : Hid (Below w.heap.size w wb) := Hba.out.trans (hbb.mono Hba.out.size)
      clear hbb Hba hI
      go_wp2_with fail
      refine (hS _ (by omega)).mono ?_
      rintro e wc ⟨rfl, hbc⟩
      have Hbc : Hid (Below w.heap.size w wc) := Hbb.out.trans (hbc.mono Hbb.out.size)
      clear hbc Hbb hS
      go_wp2
      go_loopw [12] (fun i wr => ∃ k : Nat, k ≤ t.size ∧ i = .int .i64 k ∧ Hid ((t.data.toList.drop k).all Pl.lb = t.data.toList.all Pl.lb) ∧ Hid (Below w.heap.size w wr)) (fun i _ => t.size - (Lib.intOf i).toNat)
      case atStart => exact ⟨0, Nat.zero_le _, rfl, rfl, Hbc⟩
      case round =>
        clear Hbc
        obtain ⟨k, hk, rfl, hp, Hb⟩ := hrel
        by_cases hlt : k < t.size
        · have hst := Pl.all_step Pl.lb t.data.toList k (by simpa using hlt)
          rw [Pl.at_list t k hlt] at hst
          have Hst : Hid ((t.data.toList.drop k).all Pl.lb = (Pl.lb t[k] && (t.data.toList.drop (k + 1)).all Pl.lb)) := hst
          have h8 : t[k].toNat < 256 := UInt8.toNat_lt _
          clear hst
          cases h13 : ((t[k].toNat : Int) == 13)
          · cases h10 : ((t[k].toNat : Int) == 10)
            · have Hn : Hid ((t.data.toList.drop (k + 1)).all Pl.lb = t.data.toList.all Pl.lb) := by
                show _ = _
                rw [← hp.out, Hst.out, show Pl.lb t[k] = true from by simp [Pl.lb, Pl.byte_ne _ 13 _ rfl h13, Pl.byte_ne _ 10 _ rfl h10], Bool.true_and]
              clear hp Hst
              go_wp2
              go_roundw
              case rel => exact ⟨k + 1, by omega, by go_num, Hn, Hb⟩
              case measure => simp [Lib.intOf]; omega
            · clear hp Hst
              go_wp2
              go_ret
              exact ⟨rfl, Hb.out⟩
          · clear hp Hst
            go_wp2
            go_ret
            exact ⟨rfl, Hb.out⟩
        · have hall : t.data.toList.all Pl.lb = true := by rw [← hp.out]; exact Pl.all_done _ _ k (by simp; omega)
          have hut := HU.out hall
          rw [hut] at hUn
          clear hp hall hut HU
          go_wp2_with fail
          refine (hUn _).mono ?_
          rintro e wd ⟨rfl, hbd⟩
          have Hbd : Hid (Below w.heap.size w wd) := Hb.out.trans (hbd.mono Hb.out.size)
          clear hbd Hb hUn
          go_wp2
          go_ret
          exact ⟨rfl, Hbd.out⟩
end Go.Proofs.Ytffjgcpiamgejaa
