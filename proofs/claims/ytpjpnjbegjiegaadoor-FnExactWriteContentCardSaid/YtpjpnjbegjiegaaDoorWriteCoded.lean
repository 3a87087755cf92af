/- A parameter that must be coded, the program's side. -/
import Derived.Test.YtpjpnjbegjiegaaDoorWriteParam
namespace Go.Proofs.YtpjpnjbegjiegaaDoor
open Go.RowKit Go.Lib
theorem emit_step (name : List UInt8) (C : List (List UInt8)) (k : Nat) (h : k < C.length) : Pl.emit name k (C.drop k) = Pl.named name k C[k] ++ Pl.emit name (k + 1) (C.drop (k + 1)) := by
  rw [List.drop_eq_getElem_cons h]
  rfl
theorem named_len (name : List UInt8) (k : Nat) (q : List UInt8) (hk : k < 100) (hn : name.length ≤ 1000) (hq : q.length ≤ 60) : (Pl.named name k q).length ≤ 1100 := by
  have := Pl.dec_small k hk
  unfold Pl.named Pl.utf
  simp only [List.length_append, List.length_cons, List.length_nil]
  split <;> simp <;> omega
theorem ba_list (a b : ByteArray) : (a ++ b).data.toList = a.data.toList ++ b.data.toList := by simp
theorem sign_size (db cs : ByteArray) (h : db.size ≤ 2) (h2 : cs.size ≤ 7) : (⟨#[42]⟩ ++ db ++ ⟨#[42, 61]⟩ ++ cs : ByteArray).size ≤ 10000000 := by
  rw [ByteArray.size_append, ByteArray.size_append, ByteArray.size_append]
  have e1 : (⟨#[42]⟩ : ByteArray).size = 1 := rfl
  have e2 : (⟨#[42, 61]⟩ : ByteArray).size = 2 := rfl
  omega
set_option maxHeartbeats 4000000 in
theorem implParamB (B : Nat) (v : Value) (p : List UInt8) (name value : ByteArray) (w : World) (hB : B ≤ w.heap.size) (hown : OwM B v p w) (hp : p.length ≤ 50000000) (hn : name.size ≤ 1000) (hv : value.size ≤ 1000)
    (hnb : ¬ Pl.bare value.data.toList = true) (hprn : ¬ value.data.toList.all Pl.prn = true) :
    Calls Tryd.prog 21 #[v, .agg #[.string name, .string value]] w fun e w' => ∃ v', e = .returned v' ∧ OwM B v' (p ++ Pl.paramT name.data.toList value.data.toList) w' ∧ Below B w w' := by
  have hbA : ∀ b, Below B w (w.alloc b) := fun b => (Below.refl _ _).alloc hB _
  have hNew : (w.alloc (.cells #[.string name, .string value] 37)).heap[w.heap.size]? = some (Obj.cells #[.string name, .string value] 37) := heap_alloc_new w _
  have howA := mkHid (show OwM B v p (w.alloc (.cells #[.string name, .string value] 37)) from hown.alloc _)
  have HN := mkHid hNew
  clear hNew
  unfold Pl.paramT
  rw [if_neg hnb, if_neg hprn]
  have hcase : value.toList.isEmpty = true ∨ (value.toList.isEmpty = false ∧ value.data.toList.all Pl.pb = false) := by
    unfold Pl.bare at hnb
    rw [ByteArray.toList_eq]
    cases h1 : value.data.toList.isEmpty
    · right
      rw [h1] at hnb
      exact ⟨rfl, by simpa using hnb⟩
    · exact .inl rfl
  have hne : value.toList.isEmpty = false ∧ value.data.toList.all Pl.pb = false := by
    rcases hcase with h | h
    · exfalso
      rw [ByteArray.toList_eq, List.isEmpty_iff] at h
      rw [h] at hprn
      exact hprn rfl
    · exact h
  obtain ⟨hE, hall⟩ := hne
  have cA := fun w => implAllOf kindPlain value w (by omega)
  have cP := fun w => implAllOf kindPrint value w (by omega)
  have hprn' : value.data.toList.all Pl.prn = false := by simpa using hprn
  rw [hprn'] at cP
  rw [hall] at cA
  clear hprn hprn' hnb hcase hall
  have hcnt := Pl.cut_count value.data.toList []
  rw [Pl.len_list, List.length_nil] at hcnt
  have hone := Pl.cut_ne value.data.toList []
  have Hle := mkHid (Pl.cut_le value.data.toList [] (by simp))
  have cK := mkHid fun w => implPieces value w hv
  generalize Pl.cut value.data.toList [] = C at *
  have hC : C.length < 100 := by omega
  have hmap : (C.map mkB).length = C.length := List.length_map ..
  obtain ⟨X, HX⟩ : ∃ X, Hid ((if C.length = 1 then [59, 32] ++ name.data.toList ++ ([42, 61] ++ Pl.utf) ++ C.headD [] else Pl.emit name.data.toList 0 C) = X) := ⟨_, mkHid rfl⟩
  rw [HX.out]
  clear hown
  go_enter Tryd.func21, Tryd.ntmps21
  go_wp2_with fail
  refine (cA _).mono ?_
  rintro e w2 ⟨rfl, rfl⟩
  go_wp2_with fail
  refine (cP _).mono ?_
  rintro e w2 ⟨rfl, rfl⟩
  go_wp2_with fail
  refine (cK.out _).mono ?_
  rintro e w2 ⟨u, rfl, howS, hb2⟩
  have hB2 := mkHid ((hbA (.cells #[.string name, .string value] 37)).trans (hb2.mono (Nat.le_trans hB (hbA _).size)))
  have how2 := mkHid (howA.out.keep hb2)
  have hN2 := mkHid ((FrT.of_below (e := 5) hb2).block _ _ _ (by decide) HN.out)
  have gB2 := mkHid (Nat.le_trans hB hB2.out.size)
  clear cA cP cK hb2
  rcases howS.form with ⟨rfl, hz⟩ | ⟨g, cap, rfl, hg0, hg1, hg2⟩
  · rw [hz] at hmap
    simp at hmap
    omega
  have HS := mkHid howS
  clear howS
  rw [hmap] at HS ⊢
  obtain ⟨q0, q1⟩ := box2 hN2.out
  by_cases hC1 : C.length = 1
  · obtain ⟨x, rfl⟩ : ∃ x, C = [x] := List.length_eq_one_iff.1 hC1
    have hX : Hid (X = [59, 32] ++ name.data.toList ++ ([42, 61] ++ Pl.utf) ++ x) := show _ = _ from by rw [← HX.out, if_pos (show [x].length = 1 from rfl)]; rfl
    have hx := Hle.out x (by simp)
    have hxs := mkB_size x
    have c0 : w2.cell? ⟨g, 0, none⟩ = some (.string (mkB x)) := by
      have := HS.out.cell 0 (by simp)
      simpa using this
    have hxl : Hid ((mkB x).data.toList = x) := show _ = _ from by simp [mkB]
    have cN := mkHid (implNamed B v p name ⟨#[42, 61, 117, 116, 102, 45, 56, 39, 39]⟩ (mkB x) w2.drew gB2.out how2.out.drew' (by omega) (by omega) (by simp [ByteArray.size]) (by omega))
    generalize mkB x = xb at *
    clear HX Hle HS hC1 hmap hcnt hone
    go_wp2
    go_region_with (go_at_call 35; refine cN.out.mono ?_; rintro e w4 ⟨v4, rfl, how4, hb4, -⟩)
    all_goals
      have hb34 := mkHid (hB2.out.drew.trans hb4)
      rw [hxl.out] at how4
      clear hb4
      go_wp2
      go_ret
      refine ⟨v4, rfl, ?_, hb34.out⟩
      rw [hX.out]
      simpa [Pl.utf] using how4
  · have hX : Hid (X = Pl.emit name.data.toList 0 C) := show _ = _ from by rw [← HX.out, if_neg hC1]
    have hz : ((C.length : Int) == 1) = false := by simp; omega
    clear HX hcnt hone hC1
    go_wp2
    go_loopw [0, 50] (fun out i wr => ∃ (k : Nat) (q : List UInt8), k ≤ C.length ∧ i = .int .i64 k ∧ q.length ≤ 50000000 + 1100 * k ∧ Hid (q ++ Pl.emit name.data.toList k (C.drop k) = p ++ X) ∧ OwM B out q wr ∧ Hid (OwnS (w.alloc (.cells #[.string name, .string value] 37)).heap.size (.slice (some ⟨g, 0, none⟩) C.length cap) (C.map mkB) wr) ∧ Hid (wr.heap[w.heap.size]? = some (Obj.cells #[.string name, .string value] 37)) ∧ Hid (Below B w wr)) (fun _ i _ => C.length - (Lib.intOf i).toNat)
    case atStart => exact ⟨0, p, Nat.zero_le _, rfl, by omega, by rw [hX.out]; exact mkHid rfl, how2.out, HS, hN2, hB2⟩
    case round =>
      clear q0 q1 hN2 how2 HS hB2 gB2
      obtain ⟨k, q, hk, rfl, hql, hq, how, HS, hN2, hB2⟩ := hrel
      obtain ⟨q0, q1⟩ := box2 hN2.out
      have gB := mkHid (Nat.le_trans hB hB2.out.size)
      by_cases hlt : k < C.length
      · have hx := Hle.out C[k] (List.getElem_mem _)
        have hxs := mkB_size C[k]
        have hxl : Hid ((mkB C[k]).data.toList = C[k]) := show _ = _ from by simp [mkB]
        have c0 : wr.cell? ⟨g, k, none⟩ = some (.string (mkB C[k])) := by
          have := HS.out.cell k (by rw [hmap]; exact hlt)
          simpa using this
        have hstep := mkHid (emit_step name.data.toList C k hlt)
        have hnl := mkHid (named_len name.data.toList k C[k] (by omega) (by rw [Pl.len_list]; exact hn) hx)
        have cI : ∀ w : World, Calls Tryd.prog 39 #[.int .i64 k] w fun e w' => e = .returned (.string (mkB (decDigits k))) ∧ w' = w := fun w => Tryd.strconv_Itoa_small k (by omega) w
        have hds := mkB_size (decDigits k)
        have hd2 := Pl.dec_small k (by omega)
        have hdl : Hid ((mkB (decDigits k)).data.toList = decDigits k) := show _ = _ from by simp [mkB]
        generalize mkB C[k] = xb at *
        generalize mkB (decDigits k) = db at *
        have hadd := add_off g k
        by_cases hk0 : k = 0
        · have hkz : ((k : Int) == 0) = true := by simp [hk0]
          have hcs : Hid ((if k = 0 then Pl.utf else []) = Pl.utf) := show _ = _ from by rw [if_pos hk0]
          have cN := mkHid (implNamed B u0 q name (⟨#[42]⟩ ++ db ++ ⟨#[42, 61]⟩ ++ ⟨#[117, 116, 102, 45, 56, 39, 39]⟩) xb wr.drew gB.out how.drew' (by omega) (by omega) (sign_size db _ (by omega) (by decide)) (by omega))
          clear hk0
          go_wp2
          go_region_with (first
            | (go_at_call 39; refine (cI _).mono ?_; rintro e w3 ⟨rfl, rfl⟩)
            | (go_at_call 35; refine cN.out.mono ?_; rintro e w4 ⟨v4, rfl, how4, hb4, hf4⟩))
          all_goals
            have hB4 := mkHid (hB2.out.drew.trans hb4)
            have HS4 : Hid (OwnS (w.alloc (.cells #[.string name, .string value] 37)).heap.size (.slice (some ⟨g, 0, none⟩) C.length cap) (C.map mkB) w4) := OwnS.frame (w := wr.drew) HS.out hf4
            have hN4 : Hid (w4.heap[w.heap.size]? = some (Obj.cells #[.string name, .string value] 37)) := hf4.block _ _ _ (by decide) hN2.out
            have hEq : q ++ [59, 32] ++ name.data.toList ++ (⟨#[42]⟩ ++ db ++ ⟨#[42, 61]⟩ ++ ⟨#[117, 116, 102, 45, 56, 39, 39]⟩ : ByteArray).data.toList ++ xb.data.toList = q ++ Pl.named name.data.toList k C[k] := by
              unfold Pl.named
              rw [hcs.out, hxl.out, ba_list, ba_list, ba_list, hdl.out]
              simp [Pl.utf]
            rw [hEq] at how4
            have hfin : Hid ((q ++ Pl.named name.data.toList k C[k]) ++ Pl.emit name.data.toList (k + 1) (C.drop (k + 1)) = p ++ X) := show _ = _ from by
              rw [← hq.out, hstep.out, List.append_assoc]
            have hlen4 : Hid ((q ++ Pl.named name.data.toList k C[k]).length ≤ 50000000 + 1100 * (k + 1)) := by
              have := hnl.out
              rw [Hid, List.length_append]
              omega
            clear hEq hb4 hf4 HS hN2 hB2 hq hstep hnl
            go_wp2
            go_roundw
            case rel => exact ⟨k + 1, q ++ Pl.named name.data.toList k C[k], by omega, by go_num, hlen4.out, hfin, how4, HS4, hN4, hB4⟩
            case measure => simp [Lib.intOf]; omega
        · have hkz : ((k : Int) == 0) = false := by simp; omega
          have hcs : Hid ((if k = 0 then Pl.utf else []) = []) := show _ = _ from by rw [if_neg hk0]
          have cN := mkHid (implNamed B u0 q name (⟨#[42]⟩ ++ db ++ ⟨#[42, 61]⟩ ++ ⟨#[]⟩) xb wr.drew gB.out how.drew' (by omega) (by omega) (sign_size db _ (by omega) (by decide)) (by omega))
          clear hk0
          go_wp2
          go_region_with (first
            | (go_at_call 39; refine (cI _).mono ?_; rintro e w3 ⟨rfl, rfl⟩)
            | (go_at_call 35; refine cN.out.mono ?_; rintro e w4 ⟨v4, rfl, how4, hb4, hf4⟩))
          all_goals
            have hB4 := mkHid (hB2.out.drew.trans hb4)
            have HS4 : Hid (OwnS (w.alloc (.cells #[.string name, .string value] 37)).heap.size (.slice (some ⟨g, 0, none⟩) C.length cap) (C.map mkB) w4) := OwnS.frame (w := wr.drew) HS.out hf4
            have hN4 : Hid (w4.heap[w.heap.size]? = some (Obj.cells #[.string name, .string value] 37)) := hf4.block _ _ _ (by decide) hN2.out
            have hEq : q ++ [59, 32] ++ name.data.toList ++ (⟨#[42]⟩ ++ db ++ ⟨#[42, 61]⟩ ++ ⟨#[]⟩ : ByteArray).data.toList ++ xb.data.toList = q ++ Pl.named name.data.toList k C[k] := by
              unfold Pl.named
              rw [hcs.out, hxl.out, ba_list, ba_list, ba_list, hdl.out]
              simp
            rw [hEq] at how4
            have hfin : Hid ((q ++ Pl.named name.data.toList k C[k]) ++ Pl.emit name.data.toList (k + 1) (C.drop (k + 1)) = p ++ X) := show _ = _ from by
              rw [← hq.out, hstep.out, List.append_assoc]
            have hlen4 : Hid ((q ++ Pl.named name.data.toList k C[k]).length ≤ 50000000 + 1100 * (k + 1)) := by
              have := hnl.out
              rw [Hid, List.length_append]
              omega
            clear hEq hb4 hf4 HS hN2 hB2 hq hstep hnl
            go_wp2
            go_roundw
            case rel => exact ⟨k + 1, q ++ Pl.named name.data.toList k C[k], by omega, by go_num, hlen4.out, hfin, how4, HS4, hN4, hB4⟩
            case measure => simp [Lib.intOf]; omega
      · have hfin : Hid (q = p ++ X) := show _ = _ from by
          rw [← hq.out, List.drop_eq_nil_of_le (by omega)]
          simp [Pl.emit]
        clear hq
        go_wp2
        go_ret
        refine ⟨_, rfl, ?_, hB2.out⟩
        rw [← hfin.out]
        exact how
end Go.Proofs.YtpjpnjbegjiegaaDoor
