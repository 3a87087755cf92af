/- A parameter written, the specification's side. -/
import Derived.Test.YtpjpnjbegjiegaaDoorSpecDec
import Derived.Test.YtpjpnjbegjiegaaDoorWriteCoded
namespace Go.Proofs.YtpjpnjbegjiegaaDoor
open Go.RowKit Go.Lib
theorem bytes_eq (a : ByteArray) (l : List UInt8) (h : a.data.toList = l) : a = mkB l := by
  subst h
  apply ByteArray.ext
  simp [mkB]
theorem join_size (a b : ByteArray) : (a ++ b).size = a.size + b.size := ByteArray.size_append
theorem code_step (s : ByteArray) (k : Nat) (h : k < s.size) : Pl.codeAll (s.data.toList.drop k) = Pl.codeB s[k] ++ Pl.codeAll (s.data.toList.drop (k + 1)) := by
  rw [drop_at s k h]
  rfl
theorem code_len : ∀ l : List UInt8, (Pl.codeAll l).length ≤ 3 * l.length
  | [] => by simp [Pl.codeAll]
  | b :: r => by
    have e : Pl.codeAll (b :: r) = Pl.codeB b ++ Pl.codeAll r := rfl
    have h1 := Pl.codeB_len b
    have h2 := code_len r
    rw [e, List.length_append, List.length_cons]
    omega
theorem prn_step (A : Bool) (c : UInt8) : (A && Pl.prn c) = (A && (decide (32 ≤ c.toNat) && decide (c.toNat ≤ 126))) := rfl
set_option maxRecDepth 100000 in
set_option maxHeartbeats 8000000 in
theorem specParam (name value : ByteArray) (w : World) (hn : name.size ≤ 1000) (hv : value.size ≤ 1000) :
    Calls Tryd.prog 20 #[.agg #[.string name, .string value]] w fun e w' => e = .returned (.string (mkB (Pl.paramT name.data.toList value.data.toList))) ∧ Below w.heap.size w w' := by
  have hbA : ∀ b, Below w.heap.size w (w.alloc b) := fun b => (Below.refl _ _).alloc (Nat.le_refl _) _
  have hNew : (w.alloc (.cells #[.string name, .string value] 37)).heap[w.heap.size]? = some (Obj.cells #[.string name, .string value] 37) := heap_alloc_new w _
  have HN := mkHid hNew
  have cB := fun w => specBare value w hv
  obtain ⟨X, HX⟩ : ∃ X, Hid (Pl.paramT name.data.toList value.data.toList = X) := ⟨_, mkHid rfl⟩
  rw [HX.out]
  clear hNew
  cases hbare : Pl.bare value.data.toList
  · rw [hbare] at cB
    go_enter Tryd.func20, Tryd.ntmps20
    go_wp2_with fail
    refine (cB _).mono ?_
    rintro e w2 ⟨rfl, hb2⟩
    have hN2 := mkHid ((FrT.of_below (e := 5) hb2).block _ _ _ (by decide) HN.out)
    have hB2 := mkHid ((hbA (.cells #[.string name, .string value] 37)).trans (hb2.mono (hbA _).size))
    clear cB hb2
    go_wp2
    go_loopw [4, 5, 6] (fun pl al i wr => ∃ (k m : Nat) (A : Bool), k ≤ value.size ∧ i = .int .i64 k ∧ pl = .bool A ∧ al = .int .i64 m ∧ Hid ((A && (value.data.toList.drop k).all Pl.prn) = value.data.toList.all Pl.prn) ∧ m + (Pl.codeAll (value.data.toList.drop k)).length = (Pl.codeAll value.data.toList).length ∧ Hid (wr.heap[w.heap.size]? = some (Obj.cells #[.string name, .string value] 37)) ∧ Hid (Below w.heap.size w wr)) (fun _ _ i _ => value.size - (Lib.intOf i).toNat)
    case atStart => exact ⟨0, 0, true, Nat.zero_le _, rfl, rfl, rfl, by rw [Bool.true_and]; exact mkHid rfl, by simp, hN2, hB2⟩
    case round =>
      clear hN2 hB2
      obtain ⟨k, m, A, hk, rfl, rfl, rfl, hA, hm, hN2, hB2⟩ := hrel
      have hcl := code_len value.data.toList
      rw [Pl.len_list] at hcl
      by_cases hlt : k < value.size
      · have hcs := mkHid (code_step value k hlt)
        have hst := Pl.all_step Pl.prn value.data.toList k (by simpa using hlt)
        rw [Pl.at_list value k hlt] at hst
        have Hst : Hid ((value.data.toList.drop k).all Pl.prn = (Pl.prn value[k] && (value.data.toList.drop (k + 1)).all Pl.prn)) := hst
        have h8 : value[k].toNat < 256 := UInt8.toNat_lt _
        have cC : ∀ w, Calls Tryd.prog 31 #[.int .u8 (value[k].toNat : Int)] w fun e w' => e = .returned (.string (mkB (Pl.codeB value[k]))) ∧ Below w.heap.size w w' := fun w => specCode value[k] w
        have hcb := mkB_size (Pl.codeB value[k])
        have hc3 := Pl.codeB_len value[k]
        clear hst
        generalize hsk : value[k] = c at *
        have hm2 : m + (Pl.codeB c).length + (Pl.codeAll (value.data.toList.drop (k + 1))).length = (Pl.codeAll value.data.toList).length := by
          rw [← hm, hcs.out, List.length_append]
          omega
        have hnext : Hid (((A && Pl.prn c) && (value.data.toList.drop (k + 1)).all Pl.prn) = value.data.toList.all Pl.prn) := show _ = _ from by
          rw [← hA.out, Hst.out, Bool.and_assoc]
        have hpc : Hid (Pl.prn c = (decide (32 ≤ c.toNat) && decide (c.toNat ≤ 126))) := mkHid rfl
        generalize mkB (Pl.codeB c) = cb at *
        cases A
        · rw [Bool.false_and] at hnext
          clear hA Hst hpc
          go_wp2_with fail
          refine (cC _).mono ?_
          rintro e w3 ⟨rfl, hb3⟩
          have hN3 : Hid (w3.heap[w.heap.size]? = some (Obj.cells #[.string name, .string value] 37)) := (FrT.of_below (e := 5) hb3).block _ _ _ (by decide) hN2.out
          have hB3 := mkHid (hB2.out.trans (hb3.mono hB2.out.size))
          clear hb3 hN2 hB2 cC
          go_wp2
          go_roundw
          case rel => exact ⟨k + 1, m + (Pl.codeB c).length, false, by omega, by go_num, by first | rfl | (congr 1; simp; omega), by go_num, hnext, hm2, hN3, hB3⟩
          case measure => simp [Lib.intOf]; omega
        · rw [Bool.true_and, hpc.out] at hnext
          by_cases h1 : 32 ≤ c.toNat
          · by_cases h2 : c.toNat ≤ 126
            · rw [decide_eq_true h1, decide_eq_true h2, Bool.and_self] at hnext
              clear hA Hst hpc
              go_wp2_with fail
              refine (cC _).mono ?_
              rintro e w3 ⟨rfl, hb3⟩
              have hN3 : Hid (w3.heap[w.heap.size]? = some (Obj.cells #[.string name, .string value] 37)) := (FrT.of_below (e := 5) hb3).block _ _ _ (by decide) hN2.out
              have hB3 := mkHid (hB2.out.trans (hb3.mono hB2.out.size))
              clear hb3 hN2 hB2 cC
              go_wp2
              go_roundw
              case rel => exact ⟨k + 1, m + (Pl.codeB c).length, true, by omega, by go_num, by first | rfl | (congr 1; simp; omega), by go_num, hnext, hm2, hN3, hB3⟩
              case measure => simp [Lib.intOf]; omega
            · rw [decide_eq_true h1, decide_eq_false h2, Bool.true_and] at hnext
              clear hA Hst hpc
              go_wp2_with fail
              refine (cC _).mono ?_
              rintro e w3 ⟨rfl, hb3⟩
              have hN3 : Hid (w3.heap[w.heap.size]? = some (Obj.cells #[.string name, .string value] 37)) := (FrT.of_below (e := 5) hb3).block _ _ _ (by decide) hN2.out
              have hB3 := mkHid (hB2.out.trans (hb3.mono hB2.out.size))
              clear hb3 hN2 hB2 cC
              go_wp2
              go_roundw
              case rel => exact ⟨k + 1, m + (Pl.codeB c).length, false, by omega, by go_num, by first | rfl | (congr 1; simp; omega), by go_num, hnext, hm2, hN3, hB3⟩
              case measure => simp [Lib.intOf]; omega
          · rw [decide_eq_false h1, Bool.false_and] at hnext
            clear hA Hst hpc
            go_wp2_with fail
            refine (cC _).mono ?_
            rintro e w3 ⟨rfl, hb3⟩
            have hN3 : Hid (w3.heap[w.heap.size]? = some (Obj.cells #[.string name, .string value] 37)) := (FrT.of_below (e := 5) hb3).block _ _ _ (by decide) hN2.out
            have hB3 := mkHid (hB2.out.trans (hb3.mono hB2.out.size))
            clear hb3 hN2 hB2 cC
            go_wp2
            go_roundw
            case rel => exact ⟨k + 1, m + (Pl.codeB c).length, false, by omega, by go_num, by first | rfl | (congr 1; simp; omega), by go_num, hnext, hm2, hN3, hB3⟩
            case measure => simp [Lib.intOf]; omega
      · have hdr : value.data.toList.drop k = [] := List.drop_eq_nil_of_le (by simp; omega)
        have hAll : Hid (value.data.toList.all Pl.prn = A) := show _ = _ from by rw [← hA.out, hdr]; simp
        rw [hdr] at hm
        have Hm : Hid (m = (Pl.codeAll value.data.toList).length) := show _ = _ from by simpa [Pl.codeAll] using hm
        have hm3 : m ≤ 3000 := by have := Hm.out; omega
        clear hA hdr hm hcl
        obtain ⟨q0, q1⟩ := box2 hN2.out
        cases A
        · have hX : Hid (X = if (Pl.cut value.data.toList []).length = 1 then [59, 32] ++ name.data.toList ++ ([42, 61] ++ Pl.utf) ++ (Pl.cut value.data.toList []).headD [] else Pl.emit name.data.toList 0 (Pl.cut value.data.toList [])) := show _ = _ from by
            rw [← HX.out]
            unfold Pl.paramT
            rw [if_neg (by rw [hbare]; simp), if_neg (by rw [hAll.out]; simp)]
          clear HX hbare hAll
          by_cases h60 : m ≤ 60
          · have hX2 : Hid (X = [59, 32] ++ name.data.toList ++ ([42, 61] ++ Pl.utf) ++ Pl.codeAll value.data.toList) := show _ = _ from by
              rw [hX.out, Pl.cut_short _ _ (by have := Hm.out; simp; omega), if_pos (by simp)]
              rfl
            clear hX
            have hdm : decide ((m : Int) ≤ 60) = true := by simp; omega
            go_wp2
            go_loopw [7, 8] (fun out i wr => ∃ (k : Nat) (q : List UInt8), k ≤ value.size ∧ i = .int .i64 k ∧ out = .string (mkB q) ∧ q.length ≤ 2000 + 3 * k ∧ Hid (q ++ Pl.codeAll (value.data.toList.drop k) = X) ∧ Hid (Below w.heap.size w wr)) (fun _ i _ => value.size - (Lib.intOf i).toNat)
            case atStart =>
              refine ⟨0, [59, 32] ++ name.data.toList ++ ([42, 61] ++ Pl.utf), Nat.zero_le _, rfl, congrArg Value.string (bytes_eq _ _ ?_), ?_, by rw [hX2.out]; exact mkHid rfl, hB2⟩
              · simp [Pl.utf]
              · have := Pl.len_list name
                simp only [List.length_append, List.length_cons, List.length_nil, Pl.utf]
                omega
            case round =>
              clear hX2
              obtain ⟨k2, q, hk2, rfl, rfl, hql, hq, hB3⟩ := hrel
              have hmq := mkB_size q
              by_cases hlt2 : k2 < value.size
              · have hcs := mkHid (code_step value k2 hlt2)
                have h8 : value[k2].toNat < 256 := UInt8.toNat_lt _
                have cC : ∀ w, Calls Tryd.prog 31 #[.int .u8 (value[k2].toNat : Int)] w fun e w' => e = .returned (.string (mkB (Pl.codeB value[k2]))) ∧ Below w.heap.size w w' := fun w => specCode value[k2] w
                have hcb := mkB_size (Pl.codeB value[k2])
                have hc3 := Pl.codeB_len value[k2]
                generalize hsk : value[k2] = c at *
                have hnx : Hid ((q ++ Pl.codeB c) ++ Pl.codeAll (value.data.toList.drop (k2 + 1)) = X) := show _ = _ from by rw [← hq.out, hcs.out, List.append_assoc]
                have hjn : Hid (mkB q ++ mkB (Pl.codeB c) = mkB (q ++ Pl.codeB c)) := show _ = _ from ba_join _ _
                have hl2 : Hid ((q ++ Pl.codeB c).length ≤ 2000 + 3 * (k2 + 1)) := by rw [Hid, List.length_append]; omega
                have hqb : (mkB q).size ≤ 100000 := by omega
                have hcb2 : (mkB (Pl.codeB c)).size ≤ 3 := by omega
                clear hmq hcb hq hcs hc3
                generalize mkB q = qb at *
                generalize mkB (Pl.codeB c) = cb at *
                go_wp2_with fail
                refine (cC _).mono ?_
                rintro e w3 ⟨rfl, hb3⟩
                have hB4 := mkHid (hB3.out.trans (hb3.mono hB3.out.size))
                clear hb3 cC
                go_wp2
                go_roundw
                case rel => exact ⟨k2 + 1, q ++ Pl.codeB c, by omega, by go_num, by rw [hjn.out], hl2.out, hnx, hB4⟩
                case measure => simp [Lib.intOf]; omega
              · have hfin : Hid (q = X) := show _ = _ from by
                  rw [← hq.out, List.drop_eq_nil_of_le (by simp; omega)]
                  simp [Pl.codeAll]
                clear hq
                go_wp2
                go_ret
                exact ⟨by rw [hfin.out]; rfl, hB3.out⟩
          · have hX2 : Hid (X = Pl.emit name.data.toList 0 (Pl.cut value.data.toList [])) := show _ = _ from by
              rw [hX.out, if_neg (by have := Pl.cut_long value.data.toList [] (by have := Hm.out; simp; omega) (by simp); omega)]
            clear hX
            have hdm : decide ((m : Int) ≤ 60) = false := by simp; omega
            go_wp2
            go_loopw [9, 10, 11, 12] (fun out pc kk i wr => ∃ (k n : Nat) (q piece : List UInt8), i = .int .i64 k ∧ kk = .int .i64 n ∧ out = .string (mkB q) ∧ pc = .string (mkB piece) ∧ Hid (wr.heap[w.heap.size]? = some (Obj.cells #[.string name, .string value] 37)) ∧ Hid (Below w.heap.size w wr) ∧
                ((k ≤ value.size ∧ 58 * n + piece.length ≤ 3 * k ∧ piece.length ≤ 60 ∧ q.length ≤ 1100 * n ∧ q ++ Pl.emit name.data.toList n (Pl.cut (value.data.toList.drop k) piece) = X) ∨ (k = value.size + 1 ∧ q = X))) (fun _ _ _ i _ => value.size + 2 - (Lib.intOf i).toNat)
            case atStart => exact ⟨0, 0, [], [], rfl, rfl, rfl, rfl, hN2, hB2, .inl ⟨Nat.zero_le _, by simp, by simp, by simp, by rw [hX2.out]; rfl⟩⟩
            case round =>
              clear hX2 hN2 hB2 q0 q1
              obtain ⟨k, n, q, piece, rfl, rfl, rfl, rfl, hN2, hB2, hcase⟩ := hrel
              rcases hcase with ⟨hk, hnk, hpl60, hq1100, hEq⟩ | ⟨hk, hq⟩
              · have HEq := mkHid hEq
                clear hEq
                have hqs := mkB_size q
                have hps := mkB_size piece
                have hql : Hid ((mkB q).data.toList = q) := show _ = _ from by simp [mkB]
                have hpl : Hid ((mkB piece).data.toList = piece) := show _ = _ from by simp [mkB]
                have hqb : (mkB q).size ≤ 200000 := by omega
                have hnl := named_len name.data.toList n piece (by omega) (by rw [Pl.len_list]; exact hn) hpl60
                have hl2 : Hid ((q ++ Pl.named name.data.toList n piece).length ≤ 1100 * (n + 1)) := by rw [Hid, List.length_append]; omega
                have hpI : ((mkB piece).size : Int) = (piece.length : Int) := by omega
                by_cases hlt : k < value.size
                · have hd := drop_at value k hlt
                  have h8 : value[k].toNat < 256 := UInt8.toNat_lt _
                  have cC : ∀ w, Calls Tryd.prog 31 #[.int .u8 (value[k].toNat : Int)] w fun e w' => e = .returned (.string (mkB (Pl.codeB value[k]))) ∧ Below w.heap.size w w' := fun w => specCode value[k] w
                  have hcb := mkB_size (Pl.codeB value[k])
                  have hc3 := Pl.codeB_len value[k]
                  generalize hsk : value[k] = c at *
                  have hcbe : Hid ((⟨#[]⟩ ++ mkB (Pl.codeB c) : ByteArray) = mkB (Pl.codeB c)) := show _ = _ from bytes_eq _ _ (by simp [mkB])
                  by_cases hex : 60 < piece.length + (Pl.codeB c).length
                  · have hfin : Hid ((q ++ Pl.named name.data.toList n piece) ++ Pl.emit name.data.toList (n + 1) (Pl.cut (value.data.toList.drop (k + 1)) (Pl.codeB c)) = X) := show _ = _ from by
                      rw [← HEq.out, hd, cut_hit c _ piece hex, Pl.emit_cons, List.append_assoc]
                    have hex2 : (60 : Int) < ((mkB piece).size : Int) + ((mkB (Pl.codeB c)).size : Int) := by omega
                    have hne : ((k : Int) == (value.size : Int)) = false := by simp; omega
                    have hcs3 : (mkB (Pl.codeB c)).size ≤ 3 := by omega
                    have hps60 : (mkB piece).size ≤ 60 := by omega
                    clear hqs hps hcb HEq hd hpI
                    generalize hqg : mkB q = qb at *
                    generalize hpg : mkB piece = pb at *
                    generalize hcg : mkB (Pl.codeB c) = cb at *
                    go_wp2_with fail
                    refine (cC _).mono ?_
                    rintro e w3 ⟨rfl, hb3⟩
                    have hN3 : Hid (w3.heap[w.heap.size]? = some (Obj.cells #[.string name, .string value] 37)) := (FrT.of_below (e := 5) hb3).block _ _ _ (by decide) hN2.out
                    have hB3 := mkHid (hB2.out.trans (hb3.mono hB2.out.size))
                    clear hb3 cC
                    have hd100 : n < 100 := by omega
                    have cD : ∀ d os, Calls Tryd.prog 33 #[.int .i64 n] (Go.Sort.grow (redrawn w3 d) os) fun e w'' => e = .returned (.string (mkB (decDigits n))) ∧ ∃ p : Regrown, w'' = Go.Sort.grow (redrawn w3 p.d) p.os := fun d os => Calls.regrown_of (specDec n hd100 _)
                    have hds := mkB_size (decDigits n)
                    have hd2 := Pl.dec_small n hd100
                    have hdb : (mkB (decDigits n)).size ≤ 2 := by omega
                    have hdl : Hid ((mkB (decDigits n)).data.toList = decDigits n) := show _ = _ from by simp [mkB]
                    obtain ⟨c0, -⟩ := box2 hN3.out
                    have k0 := cell_regrown c0
                    clear hds hd2
                    generalize mkB (decDigits n) = db at *
                    by_cases hn0 : n = 0
                    · have hnz : ((n : Int) == 0) = true := by simp [hn0]
                      have hcs : Hid ((if n = 0 then Pl.utf else []) = Pl.utf) := show _ = _ from by rw [if_pos hn0]
                      clear hn0
                      have n1 : ¬ 9223372036854775807 < qb.size + 2 := by omega
                      have n2 : ¬ 9223372036854775807 < qb.size + 2 + name.size := by omega
                      have n3 : ¬ 9223372036854775807 < qb.size + 2 + name.size + 1 := by omega
                      have n4 : ¬ 9223372036854775807 < qb.size + 2 + name.size + 1 + db.size := by omega
                      have n5 : ¬ 9223372036854775807 < qb.size + 2 + name.size + 1 + db.size + 2 := by omega
                      go_wp2
                      refine wp_region_quiet_below (by kernel_rfl) (by kernel_rfl) ?_
                      iterate 7 (quiet_step (fail))
                      quiet_step (exact cD _ _)
                      repeat (quiet_step (fail))
                      refine wpQuiet_nil ?_
                      rintro _ ⟨⟨dq, osq⟩, rfl⟩
                      have hbq := mkHid (hB3.out.trans ((below_regrown w3 dq osq).mono hB3.out.size))
                      have hNq : Hid ((Go.Sort.grow (redrawn w3 dq) osq).heap[w.heap.size]? = some (Obj.cells #[.string name, .string value] 37)) := (FrT.of_below (e := 5) (below_regrown w3 dq osq)).block _ _ _ (by decide) hN3.out
                      generalize Go.Sort.grow (redrawn w3 dq) osq = wq at *
                      clear cD k0 c0
                      go_wp2
                      go_roundw
                      case rel =>
                        have heq : (qb ++ ⟨#[59, 32]⟩ ++ name ++ ⟨#[42]⟩ ++ db ++ ⟨#[42, 61]⟩ ++ ⟨#[117, 116, 102, 45, 56, 39, 39]⟩ ++ pb) = mkB (q ++ Pl.named name.data.toList n piece) := bytes_eq _ _ (by
                            unfold Pl.named
                            rw [hcs.out, ba_list, ba_list, ba_list, ba_list, ba_list, ba_list, ba_list, hdl.out, hql.out, hpl.out]
                            simp [Pl.utf])
                        exact ⟨k + 1, n + 1, q ++ Pl.named name.data.toList n piece, Pl.codeB c, by go_num, by go_num, by rw [heq], by first | rw [hcbe.out, hcg] | rw [hcg], hNq, hbq, .inl ⟨by omega, by omega, by omega, hl2.out, hfin.out⟩⟩
                      case measure => simp [Lib.intOf]; omega
                    · have hnz : ((n : Int) == 0) = false := by simp; omega
                      have hcs : Hid ((if n = 0 then Pl.utf else []) = []) := show _ = _ from by rw [if_neg hn0]
                      clear hn0
                      have n1 : ¬ 9223372036854775807 < qb.size + 2 := by omega
                      have n2 : ¬ 9223372036854775807 < qb.size + 2 + name.size := by omega
                      have n3 : ¬ 9223372036854775807 < qb.size + 2 + name.size + 1 := by omega
                      have n4 : ¬ 9223372036854775807 < qb.size + 2 + name.size + 1 + db.size := by omega
                      have n5 : ¬ 9223372036854775807 < qb.size + 2 + name.size + 1 + db.size + 2 := by omega
                      go_wp2
                      refine wp_region_quiet_below (by kernel_rfl) (by kernel_rfl) ?_
                      iterate 7 (quiet_step (fail))
                      quiet_step (exact cD _ _)
                      repeat (quiet_step (fail))
                      refine wpQuiet_nil ?_
                      rintro _ ⟨⟨dq, osq⟩, rfl⟩
                      have hbq := mkHid (hB3.out.trans ((below_regrown w3 dq osq).mono hB3.out.size))
                      have hNq : Hid ((Go.Sort.grow (redrawn w3 dq) osq).heap[w.heap.size]? = some (Obj.cells #[.string name, .string value] 37)) := (FrT.of_below (e := 5) (below_regrown w3 dq osq)).block _ _ _ (by decide) hN3.out
                      generalize Go.Sort.grow (redrawn w3 dq) osq = wq at *
                      clear cD k0 c0
                      go_wp2
                      go_roundw
                      case rel =>
                        have heq : (qb ++ ⟨#[59, 32]⟩ ++ name ++ ⟨#[42]⟩ ++ db ++ ⟨#[42, 61]⟩ ++ pb) = mkB (q ++ Pl.named name.data.toList n piece) := bytes_eq _ _ (by
                            unfold Pl.named
                            rw [hcs.out, ba_list, ba_list, ba_list, ba_list, ba_list, ba_list, hdl.out, hql.out, hpl.out]
                            simp)
                        exact ⟨k + 1, n + 1, q ++ Pl.named name.data.toList n piece, Pl.codeB c, by go_num, by go_num, by rw [heq], by first | rw [hcbe.out, hcg] | rw [hcg], hNq, hbq, .inl ⟨by omega, by omega, by omega, hl2.out, hfin.out⟩⟩
                      case measure => simp [Lib.intOf]; omega
                  · have hfin : Hid (q ++ Pl.emit name.data.toList n (Pl.cut (value.data.toList.drop (k + 1)) (piece ++ Pl.codeB c)) = X) := show _ = _ from by
                      rw [← HEq.out, hd, cut_on c _ piece hex]
                    have hex2 : ((mkB piece).size : Int) + ((mkB (Pl.codeB c)).size : Int) ≤ 60 := by omega
                    have hne : ((k : Int) == (value.size : Int)) = false := by simp; omega
                    have hjn : Hid (mkB piece ++ mkB (Pl.codeB c) = mkB (piece ++ Pl.codeB c)) := show _ = _ from ba_join _ _
                    have hl3 : Hid ((piece ++ Pl.codeB c).length = piece.length + (Pl.codeB c).length) := show _ = _ from List.length_append
                    have hcs3 : (mkB (Pl.codeB c)).size ≤ 3 := by omega
                    have hps60 : (mkB piece).size ≤ 60 := by omega
                    clear hqs hps hcb HEq hd hpI hcbe
                    generalize hqg : mkB q = qb at *
                    generalize hpg : mkB piece = pb at *
                    generalize hcg : mkB (Pl.codeB c) = cb at *
                    go_wp2_with fail
                    refine (cC _).mono ?_
                    rintro e w3 ⟨rfl, hb3⟩
                    have hN3 : Hid (w3.heap[w.heap.size]? = some (Obj.cells #[.string name, .string value] 37)) := (FrT.of_below (e := 5) hb3).block _ _ _ (by decide) hN2.out
                    have hB3 := mkHid (hB2.out.trans (hb3.mono hB2.out.size))
                    clear hb3 cC
                    go_wp2
                    go_roundw
                    case rel => exact ⟨k + 1, n, q, piece ++ Pl.codeB c, by go_num, rfl, by rw [hqg], by rw [hjn.out], hN3, hB3, .inl ⟨by omega, by rw [hl3.out]; omega, by rw [hl3.out]; omega, hq1100, hfin.out⟩⟩
                    case measure => simp [Lib.intOf]; omega
                · obtain rfl : k = value.size := by omega
                  have hfin : Hid (q ++ Pl.named name.data.toList n piece = X) := show _ = _ from by
                    rw [← HEq.out, List.drop_eq_nil_of_le (by simp)]
                    simp [Pl.cut, Pl.emit]
                  have hne : ((value.size : Int) == (value.size : Int)) = true := by simp
                  have hps60 : (mkB piece).size ≤ 60 := by omega
                  clear hqs hps HEq hpI
                  generalize hqg : mkB q = qb at *
                  generalize hpg : mkB piece = pb at *
                  have hd100 : n < 100 := by omega
                  have cD : ∀ d os, Calls Tryd.prog 33 #[.int .i64 n] (Go.Sort.grow (redrawn wr d) os) fun e w'' => e = .returned (.string (mkB (decDigits n))) ∧ ∃ p : Regrown, w'' = Go.Sort.grow (redrawn wr p.d) p.os := fun d os => Calls.regrown_of (specDec n hd100 _)
                  have hds := mkB_size (decDigits n)
                  have hd2 := Pl.dec_small n hd100
                  have hdb : (mkB (decDigits n)).size ≤ 2 := by omega
                  have hdl : Hid ((mkB (decDigits n)).data.toList = decDigits n) := show _ = _ from by simp [mkB]
                  obtain ⟨c0, -⟩ := box2 hN2.out
                  have k0 := cell_regrown c0
                  clear hds hd2
                  generalize mkB (decDigits n) = db at *
                  by_cases hn0 : n = 0
                  · have hnz : ((n : Int) == 0) = true := by simp [hn0]
                    have hcs : Hid ((if n = 0 then Pl.utf else []) = Pl.utf) := show _ = _ from by rw [if_pos hn0]
                    clear hn0
                    have n1 : ¬ 9223372036854775807 < qb.size + 2 := by omega
                    have n2 : ¬ 9223372036854775807 < qb.size + 2 + name.size := by omega
                    have n3 : ¬ 9223372036854775807 < qb.size + 2 + name.size + 1 := by omega
                    have n4 : ¬ 9223372036854775807 < qb.size + 2 + name.size + 1 + db.size := by omega
                    have n5 : ¬ 9223372036854775807 < qb.size + 2 + name.size + 1 + db.size + 2 := by omega
                    go_wp2
                    refine wp_region_quiet_below (by kernel_rfl) (by kernel_rfl) ?_
                    iterate 7 (quiet_step (fail))
                    quiet_step (exact cD _ _)
                    repeat (quiet_step (fail))
                    refine wpQuiet_nil ?_
                    rintro _ ⟨⟨dq, osq⟩, rfl⟩
                    have hbq := mkHid (hB2.out.trans ((below_regrown wr dq osq).mono hB2.out.size))
                    have hNq : Hid ((Go.Sort.grow (redrawn wr dq) osq).heap[w.heap.size]? = some (Obj.cells #[.string name, .string value] 37)) := (FrT.of_below (e := 5) (below_regrown wr dq osq)).block _ _ _ (by decide) hN2.out
                    generalize Go.Sort.grow (redrawn wr dq) osq = wq at *
                    clear cD k0 c0
                    go_wp2
                    go_roundw
                    case rel =>
                      have heq : (qb ++ ⟨#[59, 32]⟩ ++ name ++ ⟨#[42]⟩ ++ db ++ ⟨#[42, 61]⟩ ++ ⟨#[117, 116, 102, 45, 56, 39, 39]⟩ ++ pb) = mkB (q ++ Pl.named name.data.toList n piece) := bytes_eq _ _ (by
                          unfold Pl.named
                          rw [hcs.out, ba_list, ba_list, ba_list, ba_list, ba_list, ba_list, ba_list, hdl.out, hql.out, hpl.out]
                          simp [Pl.utf])
                      exact ⟨value.size + 1, n + 1, q ++ Pl.named name.data.toList n piece, [], by first | rfl | go_num, by first | rfl | go_num, by rw [heq], rfl, hNq, hbq, .inr ⟨by omega, hfin.out⟩⟩
                    case measure => simp [Lib.intOf]
                  · have hnz : ((n : Int) == 0) = false := by simp; omega
                    have hcs : Hid ((if n = 0 then Pl.utf else []) = []) := show _ = _ from by rw [if_neg hn0]
                    clear hn0
                    have n1 : ¬ 9223372036854775807 < qb.size + 2 := by omega
                    have n2 : ¬ 9223372036854775807 < qb.size + 2 + name.size := by omega
                    have n3 : ¬ 9223372036854775807 < qb.size + 2 + name.size + 1 := by omega
                    have n4 : ¬ 9223372036854775807 < qb.size + 2 + name.size + 1 + db.size := by omega
                    have n5 : ¬ 9223372036854775807 < qb.size + 2 + name.size + 1 + db.size + 2 := by omega
                    go_wp2
                    refine wp_region_quiet_below (by kernel_rfl) (by kernel_rfl) ?_
                    iterate 7 (quiet_step (fail))
                    quiet_step (exact cD _ _)
                    repeat (quiet_step (fail))
                    refine wpQuiet_nil ?_
                    rintro _ ⟨⟨dq, osq⟩, rfl⟩
                    have hbq := mkHid (hB2.out.trans ((below_regrown wr dq osq).mono hB2.out.size))
                    have hNq : Hid ((Go.Sort.grow (redrawn wr dq) osq).heap[w.heap.size]? = some (Obj.cells #[.string name, .string value] 37)) := (FrT.of_below (e := 5) (below_regrown wr dq osq)).block _ _ _ (by decide) hN2.out
                    generalize Go.Sort.grow (redrawn wr dq) osq = wq at *
                    clear cD k0 c0
                    go_wp2
                    go_roundw
                    case rel =>
                      have heq : (qb ++ ⟨#[59, 32]⟩ ++ name ++ ⟨#[42]⟩ ++ db ++ ⟨#[42, 61]⟩ ++ pb) = mkB (q ++ Pl.named name.data.toList n piece) := bytes_eq _ _ (by
                          unfold Pl.named
                          rw [hcs.out, ba_list, ba_list, ba_list, ba_list, ba_list, ba_list, hdl.out, hql.out, hpl.out]
                          simp)
                      exact ⟨value.size + 1, n + 1, q ++ Pl.named name.data.toList n piece, [], by first | rfl | go_num, by first | rfl | go_num, by rw [heq], rfl, hNq, hbq, .inr ⟨by omega, hfin.out⟩⟩
                    case measure => simp [Lib.intOf]
              · subst hk
                subst hq
                go_wp2
                go_ret
                exact ⟨rfl, hB2.out⟩
        · have hX : Hid (X = [59, 32] ++ name.data.toList ++ [61] ++ (34 :: Pl.qs value.data.toList ++ [34])) := show _ = _ from by
            rw [← HX.out]
            unfold Pl.paramT
            rw [if_neg (by rw [hbare]; simp), if_pos hAll.out]
          have cQ : ∀ d os, Calls Tryd.prog 32 #[.string value] (Go.Sort.grow (redrawn wr d) os) fun e w'' => e = .returned (.string (mkB (34 :: Pl.qs value.data.toList ++ [34]))) ∧ ∃ p : Regrown, w'' = Go.Sort.grow (redrawn wr p.d) p.os := fun d os => Calls.regrown_of (specQuote value _ (by omega))
          have hqs := mkB_size (34 :: Pl.qs value.data.toList ++ [34])
          have hq2 := Pl.qs_len value.data.toList
          rw [Pl.len_list] at hq2
          rw [List.length_append, List.length_cons, List.length_singleton] at hqs
          have hql : Hid ((mkB (34 :: Pl.qs value.data.toList ++ [34])).data.toList = 34 :: Pl.qs value.data.toList ++ [34]) := show _ = _ from by simp [mkB]
          generalize mkB (34 :: Pl.qs value.data.toList ++ [34]) = qb at *
          generalize 34 :: Pl.qs value.data.toList ++ [34] = ql at *
          have n1 : ¬ 9223372036854775807 < 2 + name.size := by omega
          have n2 : ¬ 9223372036854775807 < 2 + name.size + 1 := by omega
          have n3 : ¬ 9223372036854775807 < 2 + name.size + 1 + qb.size := by omega
          have k0 := cell_regrown q0
          clear HX hbare hAll hqs hq2
          go_wp2
          refine wp_region_quiet_below (by kernel_rfl) (by kernel_rfl) ?_
          iterate 5 (quiet_step (fail))
          quiet_step (exact cQ _ _)
          repeat (quiet_step (fail))
          refine wpQuiet_nil ?_
          rintro _ ⟨⟨dq, osq⟩, rfl⟩
          have hbq := mkHid (hB2.out.trans ((below_regrown wr dq osq).mono hB2.out.size))
          go_wp2
          go_ret
          refine ⟨?_, hbq.out⟩
          rw [hX.out]
          refine congrArg (fun x => Ending.returned (.string x)) (bytes_eq _ _ ?_)
          rw [← hql.out]
          simp
  · rw [hbare] at cB
    have hX : Hid (X = [59, 32] ++ name.data.toList ++ [61] ++ value.data.toList) := show _ = _ from by
      rw [← HX.out]
      unfold Pl.paramT
      rw [if_pos hbare]
    clear HX hbare
    go_enter Tryd.func20, Tryd.ntmps20
    go_wp2_with fail
    refine (cB _).mono ?_
    rintro e w2 ⟨rfl, hb2⟩
    obtain ⟨q0, q1⟩ := box2 ((FrT.of_below (e := 5) hb2).block _ _ _ (by decide) HN.out)
    go_wp2
    go_ret
    refine ⟨?_, (hbA _).trans (hb2.mono (hbA _).size)⟩
    rw [hX.out]
    refine congrArg (fun x => Ending.returned (.string x)) (bytes_eq _ _ ?_)
    simp
end Go.Proofs.YtpjpnjbegjiegaaDoor
