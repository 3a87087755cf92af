
/- WriteWords, the specification's side: its loops. -/

/- Bytes as characters, the specification's side: the number that bytes would stand for. -/
import Derived.Test.YtbppdfjigcelkaaGreatDoorWordsWord
import Derived.Test.YtbppdfjigcelkaaGreatDoorDcTake5
import Derived.Test.YtbppdfjigcelkaaGreatDoorEncForm
import Derived.Deep.QuietTactic
import Derived.BigQuiet
import Derived.Deep.RegionWith
import Derived.Lib.QuietBelow
import Derived.WalkSmall
namespace Go.Proofs.YtbppdfjigcelkaaGreatDoor
open Go.RowKit Go.Lib
set_option maxRecDepth 20000 in
theorem list_data (s : ByteArray) : s.toList = s.data.toList := ByteArray.toList_eq s
set_option maxRecDepth 20000 in
theorem join_mid (q bb : ByteArray) (pc : List UInt8) (h : bb.data.toList = Pb.bare pc) : (q ++ ⟨#[32]⟩ ++ ⟨#[61, 63, 117, 116, 102, 45, 56, 63, 66, 63]⟩ ++ bb ++ ⟨#[63, 61]⟩ : ByteArray).data.toList = (q.data.toList ++ [32]) ++ Pl.word pc := by
  simp [Pl.word, ← h]
set_option maxRecDepth 20000 in
theorem join_first (q bb : ByteArray) (pc : List UInt8) (h : bb.data.toList = Pb.bare pc) : (q ++ ⟨#[61, 63, 117, 116, 102, 45, 56, 63, 66, 63]⟩ ++ bb ++ ⟨#[63, 61]⟩ : ByteArray).data.toList = q.data.toList ++ Pl.word pc := by
  simp [Pl.word, ← h]
set_option maxRecDepth 20000 in
theorem all_step' (f : Int → Bool) (ps : List Int) (k : Nat) (hk : k < ps.length) : (ps.drop k).all f = (f ps[k] && (ps.drop (k + 1)).all f) := by
  rw [List.drop_eq_getElem_cons hk, List.all_cons]
set_option maxRecDepth 20000 in
theorem map_step' (f : Int → UInt8) (ps : List Int) (p X : List UInt8) (k : Nat) (hk : k < ps.length) (h : Hid (p ++ (ps.drop k).map f = X)) : Hid ((p ++ [f ps[k]]) ++ (ps.drop (k + 1)).map f = X) := by
  have h := h.out
  rw [List.drop_eq_getElem_cons hk, List.map_cons] at h
  show _ = _
  rw [← h]; simp
set_option maxRecDepth 20000 in
theorem and_step (f : Int → Bool) (ps : List Int) (k : Nat) (hk : k < ps.length) (b T c : Bool) (hc : (b && f ps[k]) = c) (h : Hid ((b && (ps.drop k).all f) = T)) : Hid ((c && (ps.drop (k + 1)).all f) = T) := by
  have h := h.out
  rw [all_step' f ps k hk, ← Bool.and_assoc, hc] at h
  exact h
set_option maxRecDepth 10000 in
set_option maxHeartbeats 4000000 in
theorem specWords (o : Option Addr) (ps : List Int) (cap : Nat) (w : World) (hF : PtsAt w.heap.size w o ps) (hlen : ps.length ≤ 2000) :
    Calls Tryz.prog 11 #[.slice o ps.length cap] w fun e w' => e = .returned (.string ⟨(Pl.words ps).toArray⟩) ∧ Below w.heap.size w w' := by
  obtain ⟨i0, hi, hy0, hy1, hy2⟩ := info_parts Tryz.info5
  obtain ⟨R, hR⟩ : ∃ R, Pl.words ps = R := ⟨_, rfl⟩
  have HR : Hid (Pl.words ps = R) := hR
  rw [hR]
  clear hR
  have hown0 := Own.made w.heap.size w (Nat.le_refl _)
  have Hown0 := (show Hid _ from hown0)
  clear hown0
  have HF : Hid (PtsAt w.heap.size w o ps) := hF
  clear hF
  go_enter Tryz.func11, Tryz.ntmps11
  go_wp2
  go_loopw [3, 4, 5] (fun v s i wr => ∃ (k : Nat) (p : List UInt8) (b : Bool), k ≤ ps.length ∧ i = .int .i64 k ∧ s = .bool b ∧ p.length ≤ k ∧ Hid (p ++ (ps.drop k).map (fun x => Pl.by8 (x % 128)) = ps.map (fun x => Pl.by8 (x % 128))) ∧ Hid ((b && (ps.drop k).all Pl.sim) = ps.all Pl.sim) ∧ Hid ((ps.drop k).all Pl.isPt = ps.all Pl.isPt) ∧ Own w.heap.size v p wr ∧ Below w.heap.size w wr) (fun _ _ i _ => ps.length - (Lib.intOf i).toNat)
  case atStart => exact ⟨0, [], true, Nat.zero_le _, rfl, rfl, by simp, rfl, by show (true && _) = _; rw [Bool.true_and]; rfl, rfl, Hown0.out, (Below.refl _ _).alloc (Nat.le_refl _) _⟩
  case round =>
    clear Hown0
    obtain ⟨k, p, b, hk, rfl, rfl, hpl, hm, hs, hpt, hown, hb⟩ := hrel
    by_cases hlt : k < ps.length
    · obtain ⟨a, rfl, ha, hc0⟩ := (HF.out.below hb) k hlt
      have Hm := map_step' _ ps p _ k hlt hm
      have Hs := (show Hid _ from fun c hc => and_step Pl.sim ps k hlt b _ c hc hs)
      have Hpt : Hid ((Pl.isPt ps[k] && (ps.drop (k + 1)).all Pl.isPt) = ps.all Pl.isPt) := by
        have := hpt.out
        rw [all_step' _ ps k hlt] at this
        exact this
      clear hm hs hpt
      generalize ps[k] = pt at hc0 Hm Hs Hpt
      have hP := specPoint pt
      cases hpp : Pl.isPt pt
      · rw [hpp] at hP
        have Hno : Hid (ps.all Pl.isPt = false) := by
          have := Hpt.out
          rw [hpp, Bool.false_and] at this
          exact this.symm
        clear hpp Hm Hs Hpt
        go_wp2_with fail
        refine (hP _).mono ?_
        rintro e w3 ⟨rfl, rfl⟩
        go_wp2
        go_ret
        refine ⟨?_, hb⟩
        rw [← HR.out, Pl.words, if_neg (by rw [Hno.out]; decide)]
        rfl
      · rw [hpp] at hP
        have hr := (Pl.isPt_iff pt).1 hpp
        have Hpt2 : Hid ((ps.drop (k + 1)).all Pl.isPt = ps.all Pl.isPt) := by
          have := Hpt.out
          rw [hpp, Bool.true_and] at this
          exact this
        have hmod : pt.tmod 128 = pt % 128 := Int.tmod_eq_emod_of_nonneg hr.1
        clear hpp Hpt
        cases b
        · skip
          have Hs2 := Hs.out false rfl
          clear Hs
          go_wp2_with fail
          refine (hP _).mono ?_
          rintro e w3 ⟨rfl, rfl⟩
          clear hP
          go_wp2_with (at_builtin; go_must (refine wp_app (W := w) rfl _ _ 22 rfl i0 Tryz.underlying22 hi hy0 hy1 hy2 w.heap.size u3 p rfl hown _ [Pl.by8 (pt % 128)] (by simp [byteCells, Pl.by8_val (pt % 128) (by omega) (by omega)]) 1 1 rfl rfl (by simp; omega) (Nat.le_refl _) hb ?_; intro v1 w1 hown1 hb1))
          go_roundw
          case rel => exact ⟨k + 1, _, false, by omega, by go_num, (by first | rfl | (congr 1; exact decide_eq_false (by omega)) | (congr 1; exact decide_eq_true (by omega))), by simp; omega, Hm, Hs2, Hpt2, hown1, hb1⟩
          case measure => simp [Lib.intOf]; omega
        · by_cases h32 : pt < 32
          · skip
            have Hs2 := Hs.out false (by rw [Bool.true_and]; unfold Pl.sim; rw [decide_eq_false (by omega), Bool.false_and])
            clear Hs
            go_wp2_with fail
            refine (hP _).mono ?_
            rintro e w3 ⟨rfl, rfl⟩
            clear hP
            go_wp2_with (at_builtin; go_must (refine wp_app (W := w) rfl _ _ 22 rfl i0 Tryz.underlying22 hi hy0 hy1 hy2 w.heap.size u3 p rfl hown _ [Pl.by8 (pt % 128)] (by simp [byteCells, Pl.by8_val (pt % 128) (by omega) (by omega)]) 1 1 rfl rfl (by simp; omega) (Nat.le_refl _) hb ?_; intro v1 w1 hown1 hb1))
            go_roundw
            case rel => exact ⟨k + 1, _, false, by omega, by go_num, (by first | rfl | (congr 1; exact decide_eq_false (by omega)) | (congr 1; exact decide_eq_true (by omega))), by simp; omega, Hm, Hs2, Hpt2, hown1, hb1⟩
            case measure => simp [Lib.intOf]; omega
          by_cases h126 : 126 < pt
          · skip
            have Hs2 := Hs.out false (by rw [Bool.true_and]; unfold Pl.sim; rw [decide_eq_false (p := pt ≤ 126) (by omega), Bool.and_false])
            clear Hs
            go_wp2_with fail
            refine (hP _).mono ?_
            rintro e w3 ⟨rfl, rfl⟩
            clear hP
            go_wp2_with (at_builtin; go_must (refine wp_app (W := w) rfl _ _ 22 rfl i0 Tryz.underlying22 hi hy0 hy1 hy2 w.heap.size u3 p rfl hown _ [Pl.by8 (pt % 128)] (by simp [byteCells, Pl.by8_val (pt % 128) (by omega) (by omega)]) 1 1 rfl rfl (by simp; omega) (Nat.le_refl _) hb ?_; intro v1 w1 hown1 hb1))
            go_roundw
            case rel => exact ⟨k + 1, _, false, by omega, by go_num, (by first | rfl | (congr 1; exact decide_eq_false (by omega)) | (congr 1; exact decide_eq_true (by omega))), by simp; omega, Hm, Hs2, Hpt2, hown1, hb1⟩
            case measure => simp [Lib.intOf]; omega
          · skip
            have Hs2 := Hs.out true (by rw [Bool.true_and]; unfold Pl.sim; rw [decide_eq_true (by omega), decide_eq_true (by omega)]; rfl)
            clear Hs
            go_wp2_with fail
            refine (hP _).mono ?_
            rintro e w3 ⟨rfl, rfl⟩
            clear hP
            go_wp2_with (at_builtin; go_must (refine wp_app (W := w) rfl _ _ 22 rfl i0 Tryz.underlying22 hi hy0 hy1 hy2 w.heap.size u3 p rfl hown _ [Pl.by8 (pt % 128)] (by simp [byteCells, Pl.by8_val (pt % 128) (by omega) (by omega)]) 1 1 rfl rfl (by simp; omega) (Nat.le_refl _) hb ?_; intro v1 w1 hown1 hb1))
            go_roundw
            case rel => exact ⟨k + 1, _, true, by omega, by go_num, (by first | rfl | (congr 1; exact decide_eq_false (by omega)) | (congr 1; exact decide_eq_true (by omega))), by simp; omega, Hm, Hs2, Hpt2, hown1, hb1⟩
            case measure => simp [Lib.intOf]; omega
    · have hall : ps.all Pl.isPt = true := by
        rw [← hpt.out, List.drop_eq_nil_of_le (by omega)]; rfl
      have Hall : Hid (ps.all Pl.isPt = true) := hall
      have hb2 : ps.all Pl.sim = b := by
        rw [← hs.out, List.drop_eq_nil_of_le (by omega)]; simp
      have Hb2 : Hid (ps.all Pl.sim = b) := hb2
      have hp2 : p = ps.map (fun x => Pl.by8 (x % 128)) := by
        rw [← hm.out, List.drop_eq_nil_of_le (by omega)]; simp
      have Hp2 : Hid (p = ps.map (fun x => Pl.by8 (x % 128))) := hp2
      clear hall hb2 hp2 hm hs hpt
      have hbk := hown.back (P := Tryz.prog) 22 9 Tryz.underlying22 Tryz.underlying5 Tryz.underlying9
      cases b
      · have Hst : Hid (¬ Pl.stands ps = true) := by
          show ¬ _
          rw [Pl.stands, Hb2.out]
          simp
        have HR2 : Hid (Pl.wq [] (ps.drop 0) = R) := by
          show _ = _
          rw [← HR.out, Pl.words, if_pos Hall.out, if_neg Hst.out, List.drop_zero]
        have hVb := hb
        clear Hb2 Hp2 hbk hown hb
        go_wp2
        go_loopw [6, 7] (fun v i wr => ∃ (k : Nat) (qb : ByteArray), k ≤ ps.length ∧ i = .int .i64 k ∧ v = .string qb ∧ qb.size ≤ 100 * k ∧ Hid (Pl.wq qb.data.toList (ps.drop k) = R) ∧ Below w.heap.size w wr) (fun _ i _ => ps.length - (Lib.intOf i).toNat)
        case atStart => exact ⟨0, ⟨#[]⟩, Nat.zero_le _, rfl, rfl, (by show (0 : Nat) ≤ _; omega), HR2, hVb⟩
        case round =>
          clear HR2 hVb
          obtain ⟨k, qb, hk, rfl, rfl, hql, hq, hb⟩ := hrel
          by_cases hlt : k < ps.length
          · obtain ⟨V, hV⟩ : ∃ V, V = wr := ⟨_, rfl⟩
            subst hV
            obtain ⟨pre, hpre⟩ : ∃ pre, (if qb.data.toList = [] then [] else qb.data.toList ++ [32]) = pre := ⟨_, rfl⟩
            have Hpre := (show Hid _ from hpre)
            have HQ : Hid (pre ++ Pl.ww [] (ps.drop k) = R) := by
              show _ = _
              rw [← hq.out, Pl.wq_start _ ps k hlt, hpre]
            clear hq hpre
            have hown1 := Own.made V.heap.size V (Nat.le_refl _)
            have Hown1 := (show Hid _ from hown1)
            clear hown1
            have hbV := hb.alloc hb.size (.cells #[] 5)
            go_wp2
            go_loopw [7, 8] (fun i v wr => ∃ (j : Nat) (pc : List UInt8), k ≤ j ∧ j ≤ ps.length ∧ i = .int .i64 j ∧ (pc.length = 0 ∨ k < j) ∧ pc.length ≤ 45 ∧ Hid (pre ++ Pl.ww pc (ps.drop j) = R) ∧ Own V.heap.size v pc wr ∧ Below V.heap.size V wr) (fun i _ _ => ps.length - (Lib.intOf i).toNat)
            case atStart => exact ⟨k, [], Nat.le_refl _, hk, rfl, .inl rfl, by simp, HQ, Hown1.out, (Below.refl _ _).alloc (Nat.le_refl _) _⟩
            case round =>
              clear HQ Hown1
              obtain ⟨j, pc, hkj, hj, rfl, hz, hpc, hp, hown2, hb2⟩ := hrel
              have hbw := hb.trans (hb2.mono hb.size)
              by_cases hjl : j < ps.length
              · obtain ⟨a, rfl, ha, hc0⟩ := (HF.out.below hbw) j hjl
                have hfl := Pl.form_len 4 ps[j]
                have Hfull := (show Hid _ from fun h => Pl.wq_next pre pc R ps j hjl h hp.out)
                have Hmore : Hid (¬ 45 < pc.length + (Pl.form 4 ps[j]).length → pre ++ Pl.ww (pc ++ Pl.form 4 ps[j]) (ps.drop (j + 1)) = R) := show _ → _ from fun h => by rw [← Pl.ww_more pc ps j hjl h]; exact hp.out
                clear hp
                have hfo := specForm 4 ps[j] (by omega)
                have hne : Pl.form 4 ps[j] ≠ [] := Pl.form4_ne _ (List.all_eq_true.1 Hall.out _ (List.getElem_mem hjl))
                generalize ps[j] = pt at hc0 Hfull Hmore hfl hfo hne
                go_wp2_with fail
                refine (hfo _).mono ?_
                rintro e w3 ⟨v3, rfl, hown3, hb3⟩
                have hb23 := hb2.trans (hb3.mono hb2.size)
                have hown2' := hown2.keepb hb3
                have Hown3 : Hid (Own wr.heap.size v3 (Pl.form 4 pt) w3) := hown3
                obtain ⟨o3, c3, rfl⟩ := hown3.flat
                obtain ⟨o2, c2, rfl⟩ := hown2'.flat
                clear hfo hown3 hown2
                by_cases h45 : 45 < pc.length + (Pl.form 4 pt).length
                · have hW : Hid (Pl.wq (pre ++ Pl.word pc) (ps.drop j) = R) := Hfull.out h45
                  have h45i : (45 : Int) < (pc.length : Int) + ((Pl.form 4 pt).length : Int) := by omega
                  have hkj2 : k < j := by omega
                  clear Hfull Hmore
                  have hbw3 := hb.trans (hb23.mono hb.size)
                  have hj : j ≤ ps.length := by omega
                  clear h45i hne Hown3
                  generalize Pl.form 4 pt = news at *
                  have hbk2 := hown2'.back (P := Tryz.prog) 22 9 Tryz.underlying22 Tryz.underlying5 Tryz.underlying9
                  have hB := fun w => specBare ⟨pc.toArray⟩ w (by show pc.toArray.size ≤ _; rw [List.size_toArray]; omega)
                  have hbs : (⟨(Pb.bare pc).toArray⟩ : ByteArray).size ≤ 60 := by
                    show (Pb.bare pc).toArray.size ≤ 60
                    rw [List.size_toArray]
                    exact Pb.bare_len 15 pc (by omega)
                  have Hbb : Hid ((⟨(Pb.bare pc).toArray⟩ : ByteArray).data.toList = Pb.bare pc) := show _ = _ from rfl
                  have hB2 : ∀ w : World, Calls Tryz.prog 29 #[.string ⟨pc.toArray⟩] w fun e w' => e = .returned (.string ⟨(Pb.bare pc).toArray⟩) ∧ Below w.heap.size w w' := hB
                  clear hB
                  generalize (⟨(Pb.bare pc).toArray⟩ : ByteArray) = bb at *
                  cases hqe : qb.toList.isEmpty
                  · have Hpr : Hid (pre = qb.data.toList ++ [32]) := by
                      show _ = _
                      rw [← Hpre.out, if_neg (by intro e; rw [list_data, e] at hqe; cases hqe)]
                    go_wp2_with fail
                    refine (hB2 _).mono ?_
                    rintro e w5 ⟨rfl, hb5⟩
                    clear hB2
                    have hbz := hbw3.trans (hb5.mono hbw3.size)
                    go_wp2
                    go_roundw
                    case rel => exact ⟨j, _, hj, rfl, rfl, (by simp only [ByteArray.size_append]; show _ + 1 + 10 + _ + 2 ≤ _; omega), (by show _ = _; rw [join_mid _ _ _ Hbb.out, ← Hpr.out]; exact hW.out), hbz⟩
                    case measure => simp [Lib.intOf]; omega
                  · have Hpr : Hid (pre = [] ∧ qb.data.toList = []) := by
                      have e : qb.data.toList = [] := by rw [list_data] at hqe; simpa using hqe
                      exact ⟨by rw [← Hpre.out, if_pos e], e⟩
                    go_wp2_with fail
                    refine (hB2 _).mono ?_
                    rintro e w5 ⟨rfl, hb5⟩
                    clear hB2
                    have hbz := hbw3.trans (hb5.mono hbw3.size)
                    go_wp2
                    go_roundw
                    case rel => exact ⟨j, _, hj, rfl, rfl, (by simp only [ByteArray.size_append]; show _ + 10 + _ + 2 ≤ _; omega), (by show _ = _; rw [join_first _ _ _ Hbb.out, Hpr.out.2, ← Hpr.out.1]; exact hW.out), hbz⟩
                    case measure => simp [Lib.intOf]; omega
                · have hM : Hid (pre ++ Pl.ww (pc ++ Pl.form 4 pt) (ps.drop (j + 1)) = R) := Hmore.out h45
                  have hl1 : 0 < (Pl.form 4 pt).length := List.length_pos_iff.2 hne
                  generalize Pl.form 4 pt = news at *
                  clear Hfull Hmore
                  go_wp2_with (at_builtin; go_must (refine wp_appo (W := V) rfl _ _ 22 rfl i0 Tryz.underlying22 hi hy0 hy1 hy2 V.heap.size _ pc rfl hown2' wr.heap.size _ news rfl Hown3.out hne (by omega) (Nat.le_refl _) hb23 ?_; intro v4 w4 hown4 hb4))
                  go_roundw
                  case rel => exact ⟨j + 1, _, by omega, by omega, by go_num, .inr (by omega), by rw [List.length_append]; omega, hM, hown4, hb4⟩
                  case measure => simp [Lib.intOf]; omega
              · have hW : Hid (Pl.wq (pre ++ Pl.word pc) (ps.drop j) = R) := show _ = _ from Pl.wq_done pre pc R ps j (by omega) hp.out
                have hkj2 : k < j := by omega
                clear hp
                have hbk2 := hown2.back (P := Tryz.prog) 22 9 Tryz.underlying22 Tryz.underlying5 Tryz.underlying9
                have hB := fun w => specBare ⟨pc.toArray⟩ w (by show pc.toArray.size ≤ _; rw [List.size_toArray]; omega)
                have hbs : (⟨(Pb.bare pc).toArray⟩ : ByteArray).size ≤ 60 := by
                  show (Pb.bare pc).toArray.size ≤ 60
                  rw [List.size_toArray]
                  exact Pb.bare_len 15 pc (by omega)
                have Hbb : Hid ((⟨(Pb.bare pc).toArray⟩ : ByteArray).data.toList = Pb.bare pc) := show _ = _ from rfl
                have hB2 : ∀ w : World, Calls Tryz.prog 29 #[.string ⟨pc.toArray⟩] w fun e w' => e = .returned (.string ⟨(Pb.bare pc).toArray⟩) ∧ Below w.heap.size w w' := hB
                clear hB
                generalize (⟨(Pb.bare pc).toArray⟩ : ByteArray) = bb at *
                cases hqe : qb.toList.isEmpty
                · have Hpr : Hid (pre = qb.data.toList ++ [32]) := by
                    show _ = _
                    rw [← Hpre.out, if_neg (by intro e; rw [list_data, e] at hqe; cases hqe)]
                  go_wp2_with fail
                  refine (hB2 _).mono ?_
                  rintro e w5 ⟨rfl, hb5⟩
                  clear hB2
                  have hbz := hbw.trans (hb5.mono hbw.size)
                  go_wp2
                  go_roundw
                  case rel => exact ⟨j, _, hj, rfl, rfl, (by simp only [ByteArray.size_append]; show _ + 1 + 10 + _ + 2 ≤ _; omega), (by show _ = _; rw [join_mid _ _ _ Hbb.out, ← Hpr.out]; exact hW.out), hbz⟩
                  case measure => simp [Lib.intOf]; omega
                · have Hpr : Hid (pre = [] ∧ qb.data.toList = []) := by
                    have e : qb.data.toList = [] := by rw [list_data] at hqe; simpa using hqe
                    exact ⟨by rw [← Hpre.out, if_pos e], e⟩
                  go_wp2_with fail
                  refine (hB2 _).mono ?_
                  rintro e w5 ⟨rfl, hb5⟩
                  clear hB2
                  have hbz := hbw.trans (hb5.mono hbw.size)
                  go_wp2
                  go_roundw
                  case rel => exact ⟨j, _, hj, rfl, rfl, (by simp only [ByteArray.size_append]; show _ + 10 + _ + 2 ≤ _; omega), (by show _ = _; rw [join_first _ _ _ Hbb.out, Hpr.out.2, ← Hpr.out.1]; exact hW.out), hbz⟩
                  case measure => simp [Lib.intOf]; omega
          · have hq2 : qb.data.toList = R := by rw [← hq.out, Pl.wq_end _ ps k (by omega)]
            have Hq2 : Hid (qb.data.toList = R) := hq2
            clear hq hq2
            go_wp2
            go_ret
            exact ⟨by rw [← Hq2.out]; rfl, hb⟩
      · have hI := fun w => specIndex2 ⟨p.toArray⟩ w (by show p.toArray.size ≤ _; rw [List.size_toArray]; omega)
        go_wp2_with fail
        refine (hI _).mono ?_
        rintro e w3 ⟨i, rfl, hneg, rfl⟩
        have hpc2 : p = Pl.cat ps := by rw [Hp2.out, Pl.cat_plain ps Hb2.out]
        have Hpc2 : Hid (p = Pl.cat ps) := hpc2
        clear hI hpc2
        cases hc : contains p [61, 63]
        · have hi0 : i < 0 := by
            have : decide (i < 0) = true := by rw [hneg]; show (!contains p [61, 63]) = true; rw [hc]; rfl
            simpa using this
          have Hst : Hid (Pl.stands ps = true) := by
            show _ = _
            rw [Pl.stands, Hb2.out, ← Hpc2.out, hc]; rfl
          clear hneg hc
          go_wp2
          go_ret
          refine ⟨?_, hb⟩
          rw [← HR.out, Pl.words, if_pos Hall.out, if_pos Hst.out, ← Hpc2.out]
          rfl
        · have hi0 : ¬ i < 0 := by
            have : decide (i < 0) = false := by rw [hneg]; show (!contains p [61, 63]) = false; rw [hc]; rfl
            simpa using this
          have Hst : Hid (¬ Pl.stands ps = true) := by
            show ¬ _
            rw [Pl.stands, Hb2.out, ← Hpc2.out, hc]; simp
          clear hneg hc Hpc2
          have HR2 : Hid (Pl.wq [] (ps.drop 0) = R) := by
            show _ = _
            rw [← HR.out, Pl.words, if_pos Hall.out, if_neg Hst.out, List.drop_zero]
          have hVb := hb
          clear Hb2 Hp2 hbk hown hb
          go_wp2
          go_loopw [6, 7] (fun v i wr => ∃ (k : Nat) (qb : ByteArray), k ≤ ps.length ∧ i = .int .i64 k ∧ v = .string qb ∧ qb.size ≤ 100 * k ∧ Hid (Pl.wq qb.data.toList (ps.drop k) = R) ∧ Below w.heap.size w wr) (fun _ i _ => ps.length - (Lib.intOf i).toNat)
          case atStart => exact ⟨0, ⟨#[]⟩, Nat.zero_le _, rfl, rfl, (by show (0 : Nat) ≤ _; omega), HR2, hVb⟩
          case round =>
            clear HR2 hVb
            obtain ⟨k, qb, hk, rfl, rfl, hql, hq, hb⟩ := hrel
            by_cases hlt : k < ps.length
            · obtain ⟨V, hV⟩ : ∃ V, V = wr := ⟨_, rfl⟩
              subst hV
              obtain ⟨pre, hpre⟩ : ∃ pre, (if qb.data.toList = [] then [] else qb.data.toList ++ [32]) = pre := ⟨_, rfl⟩
              have Hpre := (show Hid _ from hpre)
              have HQ : Hid (pre ++ Pl.ww [] (ps.drop k) = R) := by
                show _ = _
                rw [← hq.out, Pl.wq_start _ ps k hlt, hpre]
              clear hq hpre
              have hown1 := Own.made V.heap.size V (Nat.le_refl _)
              have Hown1 := (show Hid _ from hown1)
              clear hown1
              have hbV := hb.alloc hb.size (.cells #[] 5)
              go_wp2
              go_loopw [7, 8] (fun i v wr => ∃ (j : Nat) (pc : List UInt8), k ≤ j ∧ j ≤ ps.length ∧ i = .int .i64 j ∧ (pc.length = 0 ∨ k < j) ∧ pc.length ≤ 45 ∧ Hid (pre ++ Pl.ww pc (ps.drop j) = R) ∧ Own V.heap.size v pc wr ∧ Below V.heap.size V wr) (fun i _ _ => ps.length - (Lib.intOf i).toNat)
              case atStart => exact ⟨k, [], Nat.le_refl _, hk, rfl, .inl rfl, by simp, HQ, Hown1.out, (Below.refl _ _).alloc (Nat.le_refl _) _⟩
              case round =>
                clear HQ Hown1
                obtain ⟨j, pc, hkj, hj, rfl, hz, hpc, hp, hown2, hb2⟩ := hrel
                have hbw := hb.trans (hb2.mono hb.size)
                by_cases hjl : j < ps.length
                · obtain ⟨a, rfl, ha, hc0⟩ := (HF.out.below hbw) j hjl
                  have hfl := Pl.form_len 4 ps[j]
                  have Hfull := (show Hid _ from fun h => Pl.wq_next pre pc R ps j hjl h hp.out)
                  have Hmore : Hid (¬ 45 < pc.length + (Pl.form 4 ps[j]).length → pre ++ Pl.ww (pc ++ Pl.form 4 ps[j]) (ps.drop (j + 1)) = R) := show _ → _ from fun h => by rw [← Pl.ww_more pc ps j hjl h]; exact hp.out
                  clear hp
                  have hfo := specForm 4 ps[j] (by omega)
                  have hne : Pl.form 4 ps[j] ≠ [] := Pl.form4_ne _ (List.all_eq_true.1 Hall.out _ (List.getElem_mem hjl))
                  generalize ps[j] = pt at hc0 Hfull Hmore hfl hfo hne
                  go_wp2_with fail
                  refine (hfo _).mono ?_
                  rintro e w3 ⟨v3, rfl, hown3, hb3⟩
                  have hb23 := hb2.trans (hb3.mono hb2.size)
                  have hown2' := hown2.keepb hb3
                  have Hown3 : Hid (Own wr.heap.size v3 (Pl.form 4 pt) w3) := hown3
                  obtain ⟨o3, c3, rfl⟩ := hown3.flat
                  obtain ⟨o2, c2, rfl⟩ := hown2'.flat
                  clear hfo hown3 hown2
                  by_cases h45 : 45 < pc.length + (Pl.form 4 pt).length
                  · have hW : Hid (Pl.wq (pre ++ Pl.word pc) (ps.drop j) = R) := Hfull.out h45
                    have h45i : (45 : Int) < (pc.length : Int) + ((Pl.form 4 pt).length : Int) := by omega
                    have hkj2 : k < j := by omega
                    clear Hfull Hmore
                    have hbw3 := hb.trans (hb23.mono hb.size)
                    have hj : j ≤ ps.length := by omega
                    clear h45i hne Hown3
                    generalize Pl.form 4 pt = news at *
                    have hbk2 := hown2'.back (P := Tryz.prog) 22 9 Tryz.underlying22 Tryz.underlying5 Tryz.underlying9
                    have hB := fun w => specBare ⟨pc.toArray⟩ w (by show pc.toArray.size ≤ _; rw [List.size_toArray]; omega)
                    have hbs : (⟨(Pb.bare pc).toArray⟩ : ByteArray).size ≤ 60 := by
                      show (Pb.bare pc).toArray.size ≤ 60
                      rw [List.size_toArray]
                      exact Pb.bare_len 15 pc (by omega)
                    have Hbb : Hid ((⟨(Pb.bare pc).toArray⟩ : ByteArray).data.toList = Pb.bare pc) := show _ = _ from rfl
                    have hB2 : ∀ w : World, Calls Tryz.prog 29 #[.string ⟨pc.toArray⟩] w fun e w' => e = .returned (.string ⟨(Pb.bare pc).toArray⟩) ∧ Below w.heap.size w w' := hB
                    clear hB
                    generalize (⟨(Pb.bare pc).toArray⟩ : ByteArray) = bb at *
                    cases hqe : qb.toList.isEmpty
                    · have Hpr : Hid (pre = qb.data.toList ++ [32]) := by
                        show _ = _
                        rw [← Hpre.out, if_neg (by intro e; rw [list_data, e] at hqe; cases hqe)]
                      go_wp2_with fail
                      refine (hB2 _).mono ?_
                      rintro e w5 ⟨rfl, hb5⟩
                      clear hB2
                      have hbz := hbw3.trans (hb5.mono hbw3.size)
                      go_wp2
                      go_roundw
                      case rel => exact ⟨j, _, hj, rfl, rfl, (by simp only [ByteArray.size_append]; show _ + 1 + 10 + _ + 2 ≤ _; omega), (by show _ = _; rw [join_mid _ _ _ Hbb.out, ← Hpr.out]; exact hW.out), hbz⟩
                      case measure => simp [Lib.intOf]; omega
                    · have Hpr : Hid (pre = [] ∧ qb.data.toList = []) := by
                        have e : qb.data.toList = [] := by rw [list_data] at hqe; simpa using hqe
                        exact ⟨by rw [← Hpre.out, if_pos e], e⟩
                      go_wp2_with fail
                      refine (hB2 _).mono ?_
                      rintro e w5 ⟨rfl, hb5⟩
                      clear hB2
                      have hbz := hbw3.trans (hb5.mono hbw3.size)
                      go_wp2
                      go_roundw
                      case rel => exact ⟨j, _, hj, rfl, rfl, (by simp only [ByteArray.size_append]; show _ + 10 + _ + 2 ≤ _; omega), (by show _ = _; rw [join_first _ _ _ Hbb.out, Hpr.out.2, ← Hpr.out.1]; exact hW.out), hbz⟩
                      case measure => simp [Lib.intOf]; omega
                  · have hM : Hid (pre ++ Pl.ww (pc ++ Pl.form 4 pt) (ps.drop (j + 1)) = R) := Hmore.out h45
                    have hl1 : 0 < (Pl.form 4 pt).length := List.length_pos_iff.2 hne
                    generalize Pl.form 4 pt = news at *
                    clear Hfull Hmore
                    go_wp2_with (at_builtin; go_must (refine wp_appo (W := V) rfl _ _ 22 rfl i0 Tryz.underlying22 hi hy0 hy1 hy2 V.heap.size _ pc rfl hown2' wr.heap.size _ news rfl Hown3.out hne (by omega) (Nat.le_refl _) hb23 ?_; intro v4 w4 hown4 hb4))
                    go_roundw
                    case rel => exact ⟨j + 1, _, by omega, by omega, by go_num, .inr (by omega), by rw [List.length_append]; omega, hM, hown4, hb4⟩
                    case measure => simp [Lib.intOf]; omega
                · have hW : Hid (Pl.wq (pre ++ Pl.word pc) (ps.drop j) = R) := show _ = _ from Pl.wq_done pre pc R ps j (by omega) hp.out
                  have hkj2 : k < j := by omega
                  clear hp
                  have hbk2 := hown2.back (P := Tryz.prog) 22 9 Tryz.underlying22 Tryz.underlying5 Tryz.underlying9
                  have hB := fun w => specBare ⟨pc.toArray⟩ w (by show pc.toArray.size ≤ _; rw [List.size_toArray]; omega)
                  have hbs : (⟨(Pb.bare pc).toArray⟩ : ByteArray).size ≤ 60 := by
                    show (Pb.bare pc).toArray.size ≤ 60
                    rw [List.size_toArray]
                    exact Pb.bare_len 15 pc (by omega)
                  have Hbb : Hid ((⟨(Pb.bare pc).toArray⟩ : ByteArray).data.toList = Pb.bare pc) := show _ = _ from rfl
                  have hB2 : ∀ w : World, Calls Tryz.prog 29 #[.string ⟨pc.toArray⟩] w fun e w' => e = .returned (.string ⟨(Pb.bare pc).toArray⟩) ∧ Below w.heap.size w w' := hB
                  clear hB
                  generalize (⟨(Pb.bare pc).toArray⟩ : ByteArray) = bb at *
                  cases hqe : qb.toList.isEmpty
                  · have Hpr : Hid (pre = qb.data.toList ++ [32]) := by
                      show _ = _
                      rw [← Hpre.out, if_neg (by intro e; rw [list_data, e] at hqe; cases hqe)]
                    go_wp2_with fail
                    refine (hB2 _).mono ?_
                    rintro e w5 ⟨rfl, hb5⟩
                    clear hB2
                    have hbz := hbw.trans (hb5.mono hbw.size)
                    go_wp2
                    go_roundw
                    case rel => exact ⟨j, _, hj, rfl, rfl, (by simp only [ByteArray.size_append]; show _ + 1 + 10 + _ + 2 ≤ _; omega), (by show _ = _; rw [join_mid _ _ _ Hbb.out, ← Hpr.out]; exact hW.out), hbz⟩
                    case measure => simp [Lib.intOf]; omega
                  · have Hpr : Hid (pre = [] ∧ qb.data.toList = []) := by
                      have e : qb.data.toList = [] := by rw [list_data] at hqe; simpa using hqe
                      exact ⟨by rw [← Hpre.out, if_pos e], e⟩
                    go_wp2_with fail
                    refine (hB2 _).mono ?_
                    rintro e w5 ⟨rfl, hb5⟩
                    clear hB2
                    have hbz := hbw.trans (hb5.mono hbw.size)
                    go_wp2
                    go_roundw
                    case rel => exact ⟨j, _, hj, rfl, rfl, (by simp only [ByteArray.size_append]; show _ + 10 + _ + 2 ≤ _; omega), (by show _ = _; rw [join_first _ _ _ Hbb.out, Hpr.out.2, ← Hpr.out.1]; exact hW.out), hbz⟩
                    case measure => simp [Lib.intOf]; omega
            · have hq2 : qb.data.toList = R := by rw [← hq.out, Pl.wq_end _ ps k (by omega)]
              have Hq2 : Hid (qb.data.toList = R) := hq2
              clear hq hq2
              go_wp2
              go_ret
              exact ⟨by rw [← Hq2.out]; rfl, hb⟩
end Go.Proofs.YtbppdfjigcelkaaGreatDoor
namespace Go.Proofs.YtbppdfjigcelkaaGreatDoor
open Go.RowKit Go.Lib
set_option maxRecDepth 20000 in
theorem list1 (s : ByteArray) (h : s.size = 1) : s.data.toList = [s[0]'(by omega)] := by
  obtain ⟨⟨l⟩⟩ := s
  match l, h with
  | [a], _ => rfl
set_option maxRecDepth 20000 in
theorem list2 (s : ByteArray) (h : s.size = 2) : s.data.toList = [s[0]'(by omega), s[1]'(by omega)] := by
  obtain ⟨⟨l⟩⟩ := s
  match l, h with
  | [a, b], _ => rfl
set_option maxRecDepth 20000 in
theorem list3 (s : ByteArray) (h : s.size = 3) : s.data.toList = [s[0]'(by omega), s[1]'(by omega), s[2]'(by omega)] := by
  obtain ⟨⟨l⟩⟩ := s
  match l, h with
  | [a, b, c], _ => rfl
set_option maxRecDepth 20000 in
theorem list4 (s : ByteArray) (h : s.size = 4) : s.data.toList = [s[0]'(by omega), s[1]'(by omega), s[2]'(by omega), s[3]'(by omega)] := by
  obtain ⟨⟨l⟩⟩ := s
  match l, h with
  | [a, b, c, d], _ => rfl
set_option maxRecDepth 20000 in
theorem w64 (x : Int) (h0 : -9223372036854775808 ≤ x) (h1 : x ≤ 9223372036854775807) : IntKind.i64.wrap x = x := by
  unfold IntKind.wrap
  simp [IntKind.bits, IntKind.signed]
  omega
set_option maxRecDepth 20000 in
theorem g3 (a b c : Nat) (ha : a < 256) (hb : b < 256) (hc : c < 256) : IntKind.i64.wrap (IntKind.i64.wrap (IntKind.i64.wrap (IntKind.i64.wrap (IntKind.i64.wrap ((a : Int) - 224) * 4096) + IntKind.i64.wrap (IntKind.i64.wrap (IntKind.i64.wrap (b : Int) - 128) * 64)) + IntKind.i64.wrap (c : Int)) - 128) = ((a : Int) - 224) * 4096 + ((b : Int) - 128) * 64 + c - 128 := by
  rw [w64 (b : Int) (by omega) (by omega), w64 (c : Int) (by omega) (by omega), w64 ((a : Int) - 224) (by omega) (by omega), w64 ((b : Int) - 128) (by omega) (by omega), w64 (((a : Int) - 224) * 4096) (by omega) (by omega), w64 (((b : Int) - 128) * 64) (by omega) (by omega),
    w64 (((a : Int) - 224) * 4096 + ((b : Int) - 128) * 64) (by omega) (by omega), w64 (((a : Int) - 224) * 4096 + ((b : Int) - 128) * 64 + c) (by omega) (by omega), w64 _ (by omega) (by omega)]
set_option maxRecDepth 20000 in
theorem g4 (a b c d : Nat) (ha : a < 256) (hb : b < 256) (hc : c < 256) (hd : d < 256) : IntKind.i64.wrap (IntKind.i64.wrap (IntKind.i64.wrap (IntKind.i64.wrap (IntKind.i64.wrap (IntKind.i64.wrap ((a : Int) - 240) * 262144) + IntKind.i64.wrap (IntKind.i64.wrap (IntKind.i64.wrap (b : Int) - 128) * 4096)) +
    IntKind.i64.wrap (IntKind.i64.wrap (IntKind.i64.wrap (c : Int) - 128) * 64)) + IntKind.i64.wrap (d : Int)) - 128) = ((a : Int) - 240) * 262144 + ((b : Int) - 128) * 4096 + ((c : Int) - 128) * 64 + d - 128 := by
  rw [w64 (b : Int) (by omega) (by omega), w64 (c : Int) (by omega) (by omega), w64 (d : Int) (by omega) (by omega), w64 ((a : Int) - 240) (by omega) (by omega), w64 ((b : Int) - 128) (by omega) (by omega), w64 ((c : Int) - 128) (by omega) (by omega), w64 (((a : Int) - 240) * 262144) (by omega) (by omega), w64 (((b : Int) - 128) * 4096) (by omega) (by omega), w64 (((c : Int) - 128) * 64) (by omega) (by omega),
    w64 (((a : Int) - 240) * 262144 + ((b : Int) - 128) * 4096) (by omega) (by omega), w64 (((a : Int) - 240) * 262144 + ((b : Int) - 128) * 4096 + ((c : Int) - 128) * 64) (by omega) (by omega), w64 (((a : Int) - 240) * 262144 + ((b : Int) - 128) * 4096 + ((c : Int) - 128) * 64 + d) (by omega) (by omega), w64 _ (by omega) (by omega)]
set_option maxRecDepth 20000 in
set_option maxHeartbeats 2000000 in
theorem specGuess8 (s : ByteArray) (h0 : 1 ≤ s.size) (h4 : s.size ≤ 4) (w : World) : Calls Tryz.prog 50 #[.int .i64 4, .string s] w fun e w' => e = .returned (.int .i64 (Pu.guessN s.data.toList)) ∧ Below w.heap.size w w' := by
  by_cases e1 : s.size = 1
  · rw [list1 s e1]
    have ha := UInt8.toNat_lt (s[0]'(by omega))
    go_enter Tryz.func50, Tryz.ntmps50
    go_wp2
    go_ret
    exact ⟨rfl, Below.refl _ _⟩
  · by_cases e2 : s.size = 2
    · rw [list2 s e2]
      have ha := UInt8.toNat_lt (s[0]'(by omega))
      have hb := UInt8.toNat_lt (s[1]'(by omega))
      go_enter Tryz.func50, Tryz.ntmps50
      go_wp2
      go_ret
      exact ⟨rfl, Below.refl _ _⟩
    · by_cases e3 : s.size = 3
      · rw [list3 s e3]
        have ha := UInt8.toNat_lt (s[0]'(by omega))
        have hb := UInt8.toNat_lt (s[1]'(by omega))
        have hc := UInt8.toNat_lt (s[2]'(by omega))
        go_enter Tryz.func50, Tryz.ntmps50
        go_wp2
        refine wp_region_quiet_below (by kernel_rfl) (by kernel_rfl) ?_
        repeat (quiet_step (fail))
        refine wpQuiet_nil ?_
        intro _ hw'
        obtain ⟨⟨dq, osq⟩, hw''⟩ := hw'
        subst hw''
        have hbq := below_regrown w dq osq
        go_wp2
        go_ret
        exact ⟨congrArg (fun x => Ending.returned (.int .i64 x)) (g3 _ _ _ ha hb hc), hbq⟩
      · have e4 : s.size = 4 := by omega
        rw [list4 s e4]
        have ha := UInt8.toNat_lt (s[0]'(by omega))
        have hb := UInt8.toNat_lt (s[1]'(by omega))
        have hc := UInt8.toNat_lt (s[2]'(by omega))
        have hd := UInt8.toNat_lt (s[3]'(by omega))
        go_enter Tryz.func50, Tryz.ntmps50
        go_wp2
        refine wp_region_quiet_below (by kernel_rfl) (by kernel_rfl) ?_
        repeat (quiet_step (fail))
        refine wpQuiet_nil ?_
        intro _ hw'
        obtain ⟨⟨dq, osq⟩, hw''⟩ := hw'
        subst hw''
        have hbq := below_regrown w dq osq
        go_wp2
        go_ret
        exact ⟨congrArg (fun x => Ending.returned (.int .i64 x)) (g4 _ _ _ _ ha hb hc hd), hbq⟩
namespace Pd
def guess16 : List UInt8 → Int
  | [a, b] => two a b
  | [a, b, c, d] => (two a b - 55296) * 1024 + two c d - 56320 + 65536
  | _ => -1
end Pd
set_option maxRecDepth 20000 in
theorem two_wrap (a b : UInt8) : IntKind.i64.wrap (IntKind.i64.wrap (IntKind.i64.wrap (a.toNat : Int) * 256) + IntKind.i64.wrap (b.toNat : Int)) = Pd.two a b := by
  have ha := UInt8.toNat_lt a
  have hb := UInt8.toNat_lt b
  unfold Pd.two
  rw [w64 (a.toNat : Int) (by omega) (by omega), w64 (b.toNat : Int) (by omega) (by omega), w64 ((a.toNat : Int) * 256) (by omega) (by omega), w64 _ (by omega) (by omega)]
set_option maxRecDepth 20000 in
theorem two_ltG (a b : UInt8) : 0 ≤ Pd.two a b ∧ Pd.two a b < 65536 := by
  have h8 : a.toNat < 256 := UInt8.toNat_lt _
  have h9 : b.toNat < 256 := UInt8.toNat_lt _
  unfold Pd.two
  omega
set_option maxRecDepth 20000 in
set_option maxHeartbeats 1000000 in
theorem specGuess16 (s : ByteArray) (h0 : 1 ≤ s.size) (h4 : s.size ≤ 4) (w : World) : Calls Tryz.prog 50 #[.int .i64 5, .string s] w fun e w' => e = .returned (.int .i64 (Pd.guess16 s.data.toList)) ∧ Below w.heap.size w w' := by
  by_cases e1 : s.size = 1
  · rw [list1 s e1]
    go_enter Tryz.func50, Tryz.ntmps50
    go_wp2
    go_ret
    exact ⟨rfl, Below.refl _ _⟩
  · by_cases e2 : s.size = 2
    · rw [list2 s e2]
      have ha := UInt8.toNat_lt (s[0]'(by omega))
      have hb := UInt8.toNat_lt (s[1]'(by omega))
      go_enter Tryz.func50, Tryz.ntmps50
      go_wp2
      refine wp_region_quiet_below (by kernel_rfl) (by kernel_rfl) ?_
      repeat (quiet_step (fail))
      refine wpQuiet_nil ?_
      intro _ hw'
      obtain ⟨⟨dq, osq⟩, hw''⟩ := hw'
      subst hw''
      have hbq := below_regrown w dq osq
      go_wp2
      go_ret
      exact ⟨congrArg (fun x => Ending.returned (.int .i64 x)) (two_wrap _ _), hbq⟩
    · by_cases e3 : s.size = 3
      · rw [list3 s e3]
        go_enter Tryz.func50, Tryz.ntmps50
        go_wp2
        go_ret
        exact ⟨rfl, Below.refl _ _⟩
      · have e4 : s.size = 4 := by omega
        rw [list4 s e4]
        have ha := UInt8.toNat_lt (s[0]'(by omega))
        have hb := UInt8.toNat_lt (s[1]'(by omega))
        have hc := UInt8.toNat_lt (s[2]'(by omega))
        have hd := UInt8.toNat_lt (s[3]'(by omega))
        go_enter Tryz.func50, Tryz.ntmps50
        go_wp2
        refine wp_region_quiet_below (by kernel_rfl) (by kernel_rfl) ?_
        repeat (quiet_step (fail))
        refine wpQuiet_nil ?_
        intro _ hw'
        obtain ⟨⟨dq, osq⟩, hw''⟩ := hw'
        subst hw''
        have hbq := below_regrown w dq osq
        have Hbq := mkHid hbq
        generalize Go.Sort.grow (redrawn w dq) osq = V at *
        rw [two_wrap]
        go_wp2
        refine wp_region_quiet_below (by kernel_rfl) (by kernel_rfl) ?_
        repeat (quiet_step (fail))
        refine wpQuiet_nil ?_
        intro _ hw'
        obtain ⟨⟨dr, osr⟩, hw''⟩ := hw'
        subst hw''
        have Hbr := mkHid (Hbq.out.trans ((below_regrown V dr osr).mono Hbq.out.size))
        generalize Go.Sort.grow (redrawn V dr) osr = V2 at *
        rw [two_wrap]
        have t1 := two_ltG s[0] s[1]
        have t2 := two_ltG s[2] s[3]
        obtain ⟨x1, x2⟩ := t1
        obtain ⟨y1, y2⟩ := t2
        go_wp2
        go_ret
        exact ⟨rfl, Hbr.out⟩
end Go.Proofs.YtbppdfjigcelkaaGreatDoor
