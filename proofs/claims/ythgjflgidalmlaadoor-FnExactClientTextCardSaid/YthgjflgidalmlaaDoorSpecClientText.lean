
/- The specification's ClientText. (By tools/gen/specclient.py.) -/
import Derived.Test.YthgjflgidalmlaaDoorClientPlain
import Derived.Test.YthgjflgidalmlaaDoorDomain
namespace Go.Proofs.YthgjflgidalmlaaDoor
open Go.RowKit Go.Lib Go.Maps
namespace Ct
set_option maxRecDepth 20000 in
theorem rc_end (F : List ByteArray) (k : Nat) (h : F.length ≤ k) (o : ByteArray) : rc (F.drop k) o = some o := by
  rw [List.drop_eq_nil_of_le h, rc]
set_option maxRecDepth 20000 in
theorem all_end (M : List GAccepted) (k : Nat) (h : M.length ≤ k) (o : ByteArray) : all (M.drop k) o = some o := by
  rw [List.drop_eq_nil_of_le h, all]
/-- What comes of what was written so far, or of a fault. -/
def fin (x : Option ByteArray) : ByteArray := (x.bind fun x => few (x ++ quitA)).getD ⟨#[]⟩
set_option maxRecDepth 20000 in
theorem few_yes {x : ByteArray} (h : x.size ≤ 100000) : few x = some x := by unfold few; rw [if_pos h]
set_option maxRecDepth 20000 in
theorem few_no {x : ByteArray} (h : ¬ x.size ≤ 100000) : few x = none := by unfold few; rw [if_neg h]
set_option maxRecDepth 20000 in
theorem ok_small (t : ByteArray) (h : Ky.ok t = true) : t.size ≤ 400 := by
  unfold Ky.ok at h
  simp only [Bool.and_eq_true, decide_eq_true_eq] at h
  exact h.2.1
set_option maxRecDepth 20000 in
theorem fromOk_small (t : ByteArray) (h : fromOk t = true) : t.size ≤ 400 := by
  unfold fromOk at h
  rw [Bool.or_eq_true] at h
  rcases h with h | h
  · have h1 : t.toList = [] := by simpa using h
    have h2 : t.data.toList = [] := by rw [← ByteArray.toList_eq]; exact h1
    have h3 : t.size = t.data.toList.length := by simp
    rw [h3, h2]; simp
  · exact ok_small t h
end Ct
set_option maxRecDepth 20000 in
theorem cells4 {w : World} {g t : Nat} {z : Nat × Nat} {u0 u1 u2 u3 : Value} (h : w.heap[g]? = some (.cells #[u0, u1, u2, u3] t z)) : w.cell? ⟨g, 0, none⟩ = some u0 ∧ w.cell? ⟨g, 1, none⟩ = some u1 ∧ w.cell? ⟨g, 2, none⟩ = some u2 ∧ w.cell? ⟨g, 3, none⟩ = some u3 := by
  refine ⟨?_, ?_, ?_, ?_⟩ <;> simp [World.cell?, h]
set_option maxHeartbeats 8000000 in
set_option maxRecDepth 20000 in
theorem specClientText (n : ByteArray) (o : Option Addr) (M : List GAccepted) (cap lo : Nat) (w : World) (hn : n.size ≤ 1048576) (hF : GAcceptedsL lo w.heap.size w o M) (hl : M.length ≤ 1048576) (hsz : ∀ m ∈ M, m.fits 1048576) :
    Calls Tryd.prog 5 #[.string n, .slice o M.length cap] w fun e w' => e = .returned (.string (plClientText n M)) ∧ Below w.heap.size w w' := by
  have cD := mkHid (specDomain n w (by omega))
  obtain ⟨R, hR⟩ : ∃ R, plClientText n M = R := ⟨_, rfl⟩
  rw [hR]
  replace hR := mkHid hR
  have HF := mkHid hF
  have Hsz := mkHid hsz
  clear hF hsz
  cases x0 : Pl.domI n.data.toList
  · rw [x0] at cD
    have hr : Hid (R = ⟨#[]⟩) := show _ = _ from by rw [← hR.out, plClientText, Ct.run, x0]; rfl
    clear x0 hR
    go_enter Tryd.func5, Tryd.ntmps5
    go_wp2_with fail
    refine cD.out.mono ?_
    rintro e w1 ⟨rfl, hb1⟩
    go_wp2
    go_ret
    rw [hr.out]
    exact ⟨rfl, hb1⟩
  by_cases x1 : 1 ≤ M.length
  rotate_left
  · rw [x0] at cD
    have y1 : decide ((M.length : Int) < 1) = true := by simp; omega
    have hr : Hid (R = ⟨#[]⟩) := show _ = _ from by rw [← hR.out, plClientText, Ct.run, x0, decide_eq_false x1]; rfl
    clear x0 hR
    go_enter Tryd.func5, Tryd.ntmps5
    go_wp2_with fail
    refine cD.out.mono ?_
    rintro e w1 ⟨rfl, hb1⟩
    go_wp2
    go_ret
    rw [hr.out]
    exact ⟨rfl, hb1⟩
  by_cases x2 : M.length ≤ 100
  rotate_left
  · rw [x0] at cD
    have y1 : decide ((M.length : Int) < 1) = false := by simp; omega
    have y2 : decide ((100 : Int) < (M.length : Int)) = true := by simp; omega
    have hr : Hid (R = ⟨#[]⟩) := show _ = _ from by rw [← hR.out, plClientText, Ct.run, x0, decide_eq_true x1, decide_eq_false x2]; rfl
    clear x0 hR
    go_enter Tryd.func5, Tryd.ntmps5
    go_wp2_with fail
    refine cD.out.mono ?_
    rintro e w1 ⟨rfl, hb1⟩
    go_wp2
    go_ret
    rw [hr.out]
    exact ⟨rfl, hb1⟩
  rw [x0, show dcode true = 0 from rfl] at cD
  have y1 : decide ((M.length : Int) < 1) = false := by simp; omega
  have y2 : decide ((100 : Int) < (M.length : Int)) = false := by simp; omega
  have hns : n.size ≤ 255 := by
    have h := x0
    simp only [Pl.domI, Bool.and_eq_true, decide_eq_true_eq] at h
    have : n.data.toList.length = n.size := by simp
    omega
  have hR0 : Hid (Ct.fin (Ct.all (M.drop 0) (Ct.ehloA ++ n ++ ⟨#[13, 10]⟩)) = R) := show _ = _ from by
    rw [← hR.out, plClientText, Ct.run, x0, decide_eq_true x1, decide_eq_true x2, List.drop_zero]; rfl
  have g0 : ¬ 9223372036854775807 < 5 + n.size := by omega
  have g1 : ¬ 9223372036854775807 < 5 + n.size + 2 := by omega
  clear hR x0
  go_enter Tryd.func5, Tryd.ntmps5
  go_wp2_with fail
  refine cD.out.mono ?_
  rintro e w1 ⟨rfl, hb1⟩
  have hs1 := hb1.size
  have Hb1 := mkHid hb1
  clear hb1 cD
  go_wp2
  go_loopw [5, 6] (fun ov iv wr => ∃ (i : Nat) (x : ByteArray), i ≤ M.length ∧ ov = .string x ∧ iv = .int .i64 i ∧ x.size ≤ 100000 ∧ Hid (Ct.fin (Ct.all (M.drop i) x) = R) ∧ Hid (Below w.heap.size w wr)) (fun _ iv _ => M.length - (Lib.intOf iv).toNat)
  case atStart => exact ⟨0, _, Nat.zero_le _, rfl, rfl, by rw [ByteArray.size_append, ByteArray.size_append]; show 5 + n.size + 2 ≤ 100000; omega, hR0, Hb1.out⟩
  case round =>
    clear hR0
    obtain ⟨i, x, hi', rfl, rfl, hxs, hRi, hb⟩ := hrel
    by_cases hlt : i < M.length
    rotate_left
    · have hst : Hid (Ct.fin (some x) = R) := show _ = _ from by rw [← hRi.out, Ct.all_end M i (by omega)]
      have hqs : (x ++ Ct.quitA).size = x.size + 6 := by rw [ByteArray.size_append]; rfl
      by_cases hq : (x ++ Ct.quitA).size ≤ 100000
      · have hr : Hid (R = x ++ Ct.quitA) := show _ = _ from by rw [← hst.out, Ct.fin, Option.bind_some, Ct.few_yes hq]; rfl
        have hq2 : x.size + 6 ≤ 100000 := by omega
        obtain ⟨Z, hZ⟩ : ∃ Z, (x ++ (⟨#[81, 85, 73, 84, 13, 10]⟩ : ByteArray)).size = Z := ⟨_, rfl⟩
        have g3 : decide ((100000 : Int) < (Z : Int)) = false := by
          have h1 : (x ++ (⟨#[81, 85, 73, 84, 13, 10]⟩ : ByteArray)).size = x.size + 6 := hqs
          simp
          omega
        have g2 : ¬ 9223372036854775807 < x.size + 6 := by omega
        clear hRi hst hqs hq
        go_wp2
        go_ret
        rw [hr.out]
        exact ⟨rfl, hb.out⟩
      · have hr : Hid (R = ⟨#[]⟩) := show _ = _ from by rw [← hst.out, Ct.fin, Option.bind_some, Ct.few_no hq]; rfl
        have hq2 : 100000 < x.size + 6 := by omega
        obtain ⟨Z, hZ⟩ : ∃ Z, (x ++ (⟨#[81, 85, 73, 84, 13, 10]⟩ : ByteArray)).size = Z := ⟨_, rfl⟩
        have g3 : decide ((100000 : Int) < (Z : Int)) = true := by
          have h1 : (x ++ (⟨#[81, 85, 73, 84, 13, 10]⟩ : ByteArray)).size = x.size + 6 := hqs
          simp
          omega
        have g2 : ¬ 9223372036854775807 < x.size + 6 := by omega
        clear hRi hst hqs hq
        go_wp2
        go_ret
        rw [hr.out]
        exact ⟨rfl, hb.out⟩
    obtain ⟨a, v1, rfl, ha0, ha, hA0, hIn⟩ := HF.out i hlt
    have hA := hA0.same (Same.of_below (lo := lo) hb.out (Nat.le_refl _)) (by rw [add_blockG]; exact ha0) (by rw [add_blockG]; exact ha)
    have d0 := hA.c0
    have d1 := hA.c1
    have d2 := hA.c2
    have d3 := hA.c3
    obtain ⟨f0, f1, f2, f3, f4⟩ := Hsz.out M[i] (List.getElem_mem hlt)
    obtain ⟨⟨a1, c1, rfl, T1⟩⟩ := hIn
    have hst : Hid (Ct.fin ((Ct.one M[i] x).bind (Ct.all (M.drop (i + 1)))) = R) := show _ = _ from by rw [← hRi.out, Ct.all_step _ _ hlt]
    have HT := mkHid T1
    have F2 := mkHid f2
    clear hA hA0 hRi T1 f2
    generalize M[i] = m at *
    obtain ⟨U, hU⟩ : ∃ U, U = wr.alloc (.cells #[.string m.fromF, .slice a1 m.toF.length c1, .string m.user, .string m.message] 34) := ⟨_, rfl⟩
    have bU : Below wr.heap.size wr U := by rw [hU]; exact (Below.refl _ _).alloc (Nat.le_refl _) _
    have hUs : wr.heap.size < U.heap.size := by rw [hU]; simp
    have u0 : U.heap[wr.heap.size]? = some (.cells #[.string m.fromF, .slice a1 m.toF.length c1, .string m.user, .string m.message] 34 (0, 0)) := by rw [hU]; exact heap_alloc_at _ _
    have cK := mkHid (specKeyFault m.fromF U f0)
    have cE := mkHid (fun w' => specEnds m.message w' (by omega))
    have hs2 := hb.out.size
    have hBU := mkHid (hb.out.trans (bU.mono hs2))
    have HU := mkHid hU
    clear hU bU
    generalize hGU : wr.heap.size = GU at *
    cases xe : (m.fromF.toList == ([] : List UInt8))
    rotate_left
    · skip
      have y0 : (m.fromF.toList != []) = false := by rw [bne, xe]; rfl
      have y0p : m.fromF.toList = [] := by simpa using xe
      have hfo : Ct.fromOk m.fromF = true := by rw [Ct.fromOk, xe]; rfl
      by_cases xa : 1 ≤ m.toF.length
      rotate_left
      · have qa : decide ((m.toF.length : Int) < 1) = true := by simp; omega
        have hr : Hid (R = ⟨#[]⟩) := show _ = _ from by rw [← hst.out, Ct.one, Ct.hd, hfo, decide_eq_false xa]; rfl
        clear hst
        go_wp2
        go_ret
        rw [hr.out]
        rw [← HU.out]
        exact ⟨rfl, hBU.out⟩
      by_cases xb : m.toF.length ≤ 100
      rotate_left
      · have qa : decide ((m.toF.length : Int) < 1) = false := by simp; omega
        have qb : decide ((100 : Int) < (m.toF.length : Int)) = true := by simp; omega
        have hr : Hid (R = ⟨#[]⟩) := show _ = _ from by rw [← hst.out, Ct.one, Ct.hd, hfo, decide_eq_true xa, decide_eq_false xb]; rfl
        clear hst
        go_wp2
        go_ret
        rw [hr.out]
        rw [← HU.out]
        exact ⟨rfl, hBU.out⟩
      by_cases xc : m.message.size ≤ 100000
      rotate_left
      · have qa : decide ((m.toF.length : Int) < 1) = false := by simp; omega
        have qb : decide ((100 : Int) < (m.toF.length : Int)) = false := by simp; omega
        have qc : decide ((100000 : Int) < (m.message.size : Int)) = true := by simp; omega
        have hr : Hid (R = ⟨#[]⟩) := show _ = _ from by rw [← hst.out, Ct.one, Ct.hd, hfo, decide_eq_true xa, decide_eq_true xb, decide_eq_false xc]; rfl
        clear hst
        go_wp2
        go_ret
        rw [hr.out]
        rw [← HU.out]
        exact ⟨rfl, hBU.out⟩
      have qa : decide ((m.toF.length : Int) < 1) = false := by simp; omega
      have qb : decide ((100 : Int) < (m.toF.length : Int)) = false := by simp; omega
      have qc : decide ((100000 : Int) < (m.message.size : Int)) = false := by simp; omega
      cases xl : endsLine m.message
      · rw [xl] at cE
        have hr : Hid (R = ⟨#[]⟩) := show _ = _ from by rw [← hst.out, Ct.one, Ct.hd, hfo, decide_eq_true xa, decide_eq_true xb, decide_eq_true xc, xl]; rfl
        clear hst xl
        go_wp2_with (go_at_call 12; fail)
        rw [← HU.out]
        refine (cE.out _).mono ?_
        rintro e wE ⟨rfl, rfl⟩
        have hB1 := hBU
        have u1 := u0
        obtain ⟨z0, z1, z2, z3⟩ := cells4 u1
        go_wp2
        go_ret
        rw [hr.out]
        exact ⟨rfl, hB1.out⟩
      cases xu : (m.user.toList == ([] : List UInt8))
      · rw [xl] at cE
        have yu : (m.user.toList != ([] : List UInt8)) = true := by rw [bne, xu]; rfl
        have yup : ¬ m.user.toList = [] := by simpa using xu
        have hr : Hid (R = ⟨#[]⟩) := show _ = _ from by rw [← hst.out, Ct.one, Ct.hd, hfo, decide_eq_true xa, decide_eq_true xb, decide_eq_true xc, xl, xu]; rfl
        clear hst xl
        go_wp2_with (go_at_call 12; fail)
        rw [← HU.out]
        refine (cE.out _).mono ?_
        rintro e wE ⟨rfl, rfl⟩
        have hB1 := hBU
        have u1 := u0
        obtain ⟨z0, z1, z2, z3⟩ := cells4 u1
        go_wp2
        go_ret
        rw [hr.out]
        exact ⟨rfl, hB1.out⟩
      rw [xl] at cE
      have yu : (m.user.toList != ([] : List UInt8)) = false := by rw [bne, xu]; rfl
      have yup : m.user.toList = [] := by simpa using xu
      have hR1 : Hid (Ct.fin (((Ct.rc (m.toF.drop 0) (x ++ Ct.mailA ++ m.fromF ++ Ct.endA)).bind fun x => Ct.few (x ++ Ct.dataA ++ ⟨(Pl.stuff m.message.data.toList).toArray⟩)).bind (Ct.all (M.drop (i + 1)))) = R) := show _ = _ from by rw [List.drop_zero, ← hst.out, Ct.one, Ct.hd, hfo, decide_eq_true xa, decide_eq_true xb, decide_eq_true xc, xl, xu]; rfl
      have hfs := Ct.fromOk_small _ hfo
      have hxz : (x ++ Ct.mailA ++ m.fromF ++ Ct.endA).size ≤ 100414 := by
        rw [ByteArray.size_append, ByteArray.size_append, ByteArray.size_append]
        show x.size + 11 + m.fromF.size + 3 ≤ 100414
        omega
      have g0 : ¬ 9223372036854775807 < x.size + 11 := by omega
      have g1 : ¬ 9223372036854775807 < x.size + 11 + m.fromF.size := by omega
      have g2 : ¬ 9223372036854775807 < x.size + 11 + m.fromF.size + 3 := by omega
      clear hst xl hfo
      go_wp2_with (go_at_call 12; fail)
      rw [← HU.out]
      refine (cE.out _).mono ?_
      rintro e wE ⟨rfl, rfl⟩
      have hB1 := hBU
      have u1 := u0
      obtain ⟨z0, z1, z2, z3⟩ := cells4 u1
      obtain ⟨V, hV⟩ : ∃ V, V = U := ⟨_, rfl⟩
      rw [← hV] at z0 z1 z2 z3 u1 hB1
      have hVg : GU < V.heap.size := heap_lt u1
      have HZ := mkHid u1
      clear u0 cE
      rw [← hV]
      clear hV
      go_wp2
      go_loopw [5, 8] (fun ov jv ws => ∃ (j : Nat) (y : ByteArray), j ≤ m.toF.length ∧ ov = .string y ∧ jv = .int .i64 j ∧ y.size ≤ 100414 + j * 412 ∧ Hid (Ct.fin (((Ct.rc (m.toF.drop j) y).bind fun x => Ct.few (x ++ Ct.dataA ++ ⟨(Pl.stuff m.message.data.toList).toArray⟩)).bind (Ct.all (M.drop (i + 1)))) = R) ∧ Hid (Below V.heap.size V ws)) (fun _ jv _ => m.toF.length - (Lib.intOf jv).toNat)
      case atStart => exact ⟨0, _, Nat.zero_le _, rfl, rfl, by omega, hR1, Below.refl _ _⟩
      case round =>
        clear hR1 z0 z1 z3
        obtain ⟨j, y, hj', rfl, rfl, hys, hRj, hbV⟩ := hrel
        rename World => ws
        have hBw := mkHid (hB1.out.trans (hbV.out.mono hB1.out.size))
        have u2 := (hbV.out.block GU hVg).trans HZ.out
        obtain ⟨z0, z1, z2, z3⟩ := cells4 u2
        by_cases hjl : j < m.toF.length
        · obtain ⟨b1, rfl, hb0, hb1', e0⟩ := (HT.out.below hBw.out (Nat.le_refl _)) j hjl
          have hts := F2.out m.toF[j] (List.getElem_mem hjl)
          have hsj := Ct.rc_step m.toF j hjl y
          have Hj : Hid (Ct.fin (((if Ky.ok m.toF[j] then Ct.rc (m.toF.drop (j + 1)) (y ++ Ct.rcptA ++ m.toF[j] ++ Ct.endA) else none).bind fun x => Ct.few (x ++ Ct.dataA ++ ⟨(Pl.stuff m.message.data.toList).toArray⟩)).bind (Ct.all (M.drop (i + 1)))) = R) := show _ = _ from by rw [← hRj.out, hsj]
          clear hRj hsj
          generalize m.toF[j] = t at *
          have cT := mkHid (specKeyFault t ws hts)
          cases xt : Ky.ok t
          · rw [xt, show dcode false = 1 from rfl] at cT
            have hr : Hid (R = ⟨#[]⟩) := show _ = _ from by rw [← Hj.out, xt]; rfl
            clear Hj xt
            go_wp2_with (go_at_call 11; fail)
            refine cT.out.mono ?_
            rintro e w3 ⟨rfl, hb3⟩
            have hBF := mkHid (hBw.out.trans (hb3.mono hBw.out.size))
            clear hb3 cT
            go_wp2
            go_ret
            rw [hr.out]
            exact ⟨rfl, hBF.out⟩
          · rw [xt, show dcode true = 0 from rfl] at cT
            have hts4 := Ct.ok_small t xt
            have Hj2 : Hid (Ct.fin (((Ct.rc (m.toF.drop (j + 1)) (y ++ Ct.rcptA ++ t ++ Ct.endA)).bind fun x => Ct.few (x ++ Ct.dataA ++ ⟨(Pl.stuff m.message.data.toList).toArray⟩)).bind (Ct.all (M.drop (i + 1)))) = R) := show _ = _ from by rw [← Hj.out, xt]; rfl
            have hyz : (y ++ Ct.rcptA ++ t ++ Ct.endA).size ≤ 100414 + (j + 1) * 412 := by
              rw [ByteArray.size_append, ByteArray.size_append, ByteArray.size_append]
              show y.size + 9 + t.size + 3 ≤ 100414 + (j + 1) * 412
              omega
            have g0 : ¬ 9223372036854775807 < y.size + 9 := by omega
            have g1 : ¬ 9223372036854775807 < y.size + 9 + t.size := by omega
            have g2 : ¬ 9223372036854775807 < y.size + 9 + t.size + 3 := by omega
            clear Hj xt
            go_wp2_with (go_at_call 11; fail)
            refine cT.out.mono ?_
            rintro e w3 ⟨rfl, hb3⟩
            have hBF := mkHid (hbV.out.trans (hb3.mono hbV.out.size))
            have u3 := (hb3.block GU (by have := hbV.out.size; omega)).trans u2
            obtain ⟨p0, p1, p2, p3⟩ := cells4 u3
            have e1 := (hb3.cell (p := b1.add j) (by rw [add_blockG]; have := hBw.out.size; omega)).trans e0
            clear hb3 cT z0 z1 z2 z3 u2 e0
            go_wp2
            go_roundw
            case rel => exact ⟨j + 1, _, by omega, rfl, by go_num, hyz, Hj2, hBF⟩
            case measure => simp [Lib.intOf]; omega
        · have hj2 : j ≤ 100 := by omega
          have hR2 : Hid (Ct.fin ((Ct.few (y ++ Ct.dataA ++ ⟨(Pl.stuff m.message.data.toList).toArray⟩)).bind (Ct.all (M.drop (i + 1)))) = R) := show _ = _ from by rw [← hRj.out, Ct.rc_end m.toF j (by omega)]; rfl
          have cS := mkHid (specStuff m.message ws xc)
          have hstz : (Pl.stuff m.message.data.toList).length ≤ 400003 := by
            have := Pl.stuff_len m.message.data.toList (Pl.lines m.message.data.toList).length
            rw [List.take_length, show m.message.data.toList.length = m.message.size by simp] at this
            rw [Pl.stuff, List.length_append]
            show _ + 3 ≤ 400003
            omega
          have hszS : (⟨(Pl.stuff m.message.data.toList).toArray⟩ : ByteArray).size ≤ 400003 := by rw [szL]; exact hstz
          generalize (⟨(Pl.stuff m.message.data.toList).toArray⟩ : ByteArray) = S at *
          have hze : (y ++ Ct.dataA ++ S).size = y.size + 6 + S.size := by rw [ByteArray.size_append, ByteArray.size_append]; rfl
          have g0 : ¬ 9223372036854775807 < y.size + 6 := by omega
          have g1 : ¬ 9223372036854775807 < y.size + 6 + S.size := by omega
          clear hRj hstz
          by_cases hq : (y ++ Ct.dataA ++ S).size ≤ 100000
          · have hr : Hid (Ct.fin (Ct.all (M.drop (i + 1)) (y ++ Ct.dataA ++ S)) = R) := show _ = _ from by rw [← hR2.out, Ct.few_yes hq]; rfl
            have hq2 : y.size + 6 + S.size ≤ 100000 := by omega
            obtain ⟨Z, hZ⟩ : ∃ Z, (y ++ (⟨#[68, 65, 84, 65, 13, 10]⟩ : ByteArray) ++ S).size = Z := ⟨_, rfl⟩
            have g3 : decide ((100000 : Int) < (Z : Int)) = false := by
              have h1 : (y ++ (⟨#[68, 65, 84, 65, 13, 10]⟩ : ByteArray) ++ S).size = y.size + 6 + S.size := hze
              simp
              omega
            have Hq := mkHid hq
            clear hR2 hze hq
            go_wp2_with (go_at_call 13; fail)
            refine cS.out.mono ?_
            rintro e w3 ⟨rfl, hb3⟩
            have hBF := mkHid (hBw.out.trans (hb3.mono hBw.out.size))
            clear hb3 cS
            go_wp2
            go_roundw
            case rel => exact ⟨i + 1, _, by omega, rfl, by go_num, Hq.out, hr, hBF⟩
            case measure => simp [Lib.intOf]; omega
          · have hr : Hid (R = ⟨#[]⟩) := show _ = _ from by rw [← hR2.out, Ct.few_no hq]; rfl
            have hq2 : 100000 < y.size + 6 + S.size := by omega
            obtain ⟨Z, hZ⟩ : ∃ Z, (y ++ (⟨#[68, 65, 84, 65, 13, 10]⟩ : ByteArray) ++ S).size = Z := ⟨_, rfl⟩
            have g3 : decide ((100000 : Int) < (Z : Int)) = true := by
              have h1 : (y ++ (⟨#[68, 65, 84, 65, 13, 10]⟩ : ByteArray) ++ S).size = y.size + 6 + S.size := hze
              simp
              omega
            clear hR2 hze hq
            go_wp2_with (go_at_call 13; fail)
            refine cS.out.mono ?_
            rintro e w3 ⟨rfl, hb3⟩
            have hBF := mkHid (hBw.out.trans (hb3.mono hBw.out.size))
            clear hb3 cS
            go_wp2
            go_ret
            rw [hr.out]
            exact ⟨rfl, hBF.out⟩
    cases xf : Ky.ok m.fromF
    · rw [xf, show dcode false = 1 from rfl] at cK
      have y0 : (m.fromF.toList != []) = true := by rw [bne, xe]; rfl
      have y0p : ¬ m.fromF.toList = [] := by simpa using xe
      have hr : Hid (R = ⟨#[]⟩) := show _ = _ from by rw [← hst.out, Ct.one, Ct.hd, Ct.fromOk, xe, xf]; rfl
      clear hst
      go_wp2_with (go_at_call 11; fail)
      rw [← HU.out]
      refine cK.out.mono ?_
      rintro e w1 ⟨rfl, hb1⟩
      have hB1 := mkHid (hBU.out.trans (hb1.mono hBU.out.size))
      have u1 := (hb1.block GU (by omega)).trans u0
      obtain ⟨z0, z1, z2, z3⟩ := cells4 u1
      clear cK hb1
      go_wp2
      go_ret
      rw [hr.out]
      exact ⟨rfl, hB1.out⟩
    rw [xf] at cK
    have y0 : (m.fromF.toList != []) = true := by rw [bne, xe]; rfl
    have y0p : ¬ m.fromF.toList = [] := by simpa using xe
    have hfo : Ct.fromOk m.fromF = true := by rw [Ct.fromOk, xf, Bool.or_true]
    by_cases xa : 1 ≤ m.toF.length
    rotate_left
    · have qa : decide ((m.toF.length : Int) < 1) = true := by simp; omega
      have hr : Hid (R = ⟨#[]⟩) := show _ = _ from by rw [← hst.out, Ct.one, Ct.hd, hfo, decide_eq_false xa]; rfl
      clear hst
      go_wp2_with (go_at_call 11; fail)
      rw [← HU.out]
      refine cK.out.mono ?_
      rintro e w1 ⟨rfl, hb1⟩
      have hB1 := mkHid (hBU.out.trans (hb1.mono hBU.out.size))
      have u1 := (hb1.block GU (by omega)).trans u0
      obtain ⟨z0, z1, z2, z3⟩ := cells4 u1
      clear cK hb1
      go_wp2
      go_ret
      rw [hr.out]
      exact ⟨rfl, hB1.out⟩
    by_cases xb : m.toF.length ≤ 100
    rotate_left
    · have qa : decide ((m.toF.length : Int) < 1) = false := by simp; omega
      have qb : decide ((100 : Int) < (m.toF.length : Int)) = true := by simp; omega
      have hr : Hid (R = ⟨#[]⟩) := show _ = _ from by rw [← hst.out, Ct.one, Ct.hd, hfo, decide_eq_true xa, decide_eq_false xb]; rfl
      clear hst
      go_wp2_with (go_at_call 11; fail)
      rw [← HU.out]
      refine cK.out.mono ?_
      rintro e w1 ⟨rfl, hb1⟩
      have hB1 := mkHid (hBU.out.trans (hb1.mono hBU.out.size))
      have u1 := (hb1.block GU (by omega)).trans u0
      obtain ⟨z0, z1, z2, z3⟩ := cells4 u1
      clear cK hb1
      go_wp2
      go_ret
      rw [hr.out]
      exact ⟨rfl, hB1.out⟩
    by_cases xc : m.message.size ≤ 100000
    rotate_left
    · have qa : decide ((m.toF.length : Int) < 1) = false := by simp; omega
      have qb : decide ((100 : Int) < (m.toF.length : Int)) = false := by simp; omega
      have qc : decide ((100000 : Int) < (m.message.size : Int)) = true := by simp; omega
      have hr : Hid (R = ⟨#[]⟩) := show _ = _ from by rw [← hst.out, Ct.one, Ct.hd, hfo, decide_eq_true xa, decide_eq_true xb, decide_eq_false xc]; rfl
      clear hst
      go_wp2_with (go_at_call 11; fail)
      rw [← HU.out]
      refine cK.out.mono ?_
      rintro e w1 ⟨rfl, hb1⟩
      have hB1 := mkHid (hBU.out.trans (hb1.mono hBU.out.size))
      have u1 := (hb1.block GU (by omega)).trans u0
      obtain ⟨z0, z1, z2, z3⟩ := cells4 u1
      clear cK hb1
      go_wp2
      go_ret
      rw [hr.out]
      exact ⟨rfl, hB1.out⟩
    have qa : decide ((m.toF.length : Int) < 1) = false := by simp; omega
    have qb : decide ((100 : Int) < (m.toF.length : Int)) = false := by simp; omega
    have qc : decide ((100000 : Int) < (m.message.size : Int)) = false := by simp; omega
    cases xl : endsLine m.message
    · rw [xl] at cE
      have hr : Hid (R = ⟨#[]⟩) := show _ = _ from by rw [← hst.out, Ct.one, Ct.hd, hfo, decide_eq_true xa, decide_eq_true xb, decide_eq_true xc, xl]; rfl
      clear hst xl
      go_wp2_with (go_at_call 11; fail)
      rw [← HU.out]
      refine cK.out.mono ?_
      rintro e w1 ⟨rfl, hb1⟩
      have hB1 := mkHid (hBU.out.trans (hb1.mono hBU.out.size))
      have u1 := (hb1.block GU (by omega)).trans u0
      obtain ⟨z0, z1, z2, z3⟩ := cells4 u1
      clear cK hb1
      go_wp2_with (go_at_call 12; fail)
      refine (cE.out _).mono ?_
      rintro e wE ⟨rfl, rfl⟩
      go_wp2
      go_ret
      rw [hr.out]
      exact ⟨rfl, hB1.out⟩
    cases xu : (m.user.toList == ([] : List UInt8))
    · rw [xl] at cE
      have yu : (m.user.toList != ([] : List UInt8)) = true := by rw [bne, xu]; rfl
      have yup : ¬ m.user.toList = [] := by simpa using xu
      have hr : Hid (R = ⟨#[]⟩) := show _ = _ from by rw [← hst.out, Ct.one, Ct.hd, hfo, decide_eq_true xa, decide_eq_true xb, decide_eq_true xc, xl, xu]; rfl
      clear hst xl
      go_wp2_with (go_at_call 11; fail)
      rw [← HU.out]
      refine cK.out.mono ?_
      rintro e w1 ⟨rfl, hb1⟩
      have hB1 := mkHid (hBU.out.trans (hb1.mono hBU.out.size))
      have u1 := (hb1.block GU (by omega)).trans u0
      obtain ⟨z0, z1, z2, z3⟩ := cells4 u1
      clear cK hb1
      go_wp2_with (go_at_call 12; fail)
      refine (cE.out _).mono ?_
      rintro e wE ⟨rfl, rfl⟩
      go_wp2
      go_ret
      rw [hr.out]
      exact ⟨rfl, hB1.out⟩
    rw [xl] at cE
    have yu : (m.user.toList != ([] : List UInt8)) = false := by rw [bne, xu]; rfl
    have yup : m.user.toList = [] := by simpa using xu
    have hR1 : Hid (Ct.fin (((Ct.rc (m.toF.drop 0) (x ++ Ct.mailA ++ m.fromF ++ Ct.endA)).bind fun x => Ct.few (x ++ Ct.dataA ++ ⟨(Pl.stuff m.message.data.toList).toArray⟩)).bind (Ct.all (M.drop (i + 1)))) = R) := show _ = _ from by rw [List.drop_zero, ← hst.out, Ct.one, Ct.hd, hfo, decide_eq_true xa, decide_eq_true xb, decide_eq_true xc, xl, xu]; rfl
    have hfs := Ct.fromOk_small _ hfo
    have hxz : (x ++ Ct.mailA ++ m.fromF ++ Ct.endA).size ≤ 100414 := by
      rw [ByteArray.size_append, ByteArray.size_append, ByteArray.size_append]
      show x.size + 11 + m.fromF.size + 3 ≤ 100414
      omega
    have g0 : ¬ 9223372036854775807 < x.size + 11 := by omega
    have g1 : ¬ 9223372036854775807 < x.size + 11 + m.fromF.size := by omega
    have g2 : ¬ 9223372036854775807 < x.size + 11 + m.fromF.size + 3 := by omega
    clear hst xl hfo xf
    go_wp2_with (go_at_call 11; fail)
    rw [← HU.out]
    refine cK.out.mono ?_
    rintro e w1 ⟨rfl, hb1⟩
    have hB1 := mkHid (hBU.out.trans (hb1.mono hBU.out.size))
    have u1 := (hb1.block GU (by omega)).trans u0
    obtain ⟨z0, z1, z2, z3⟩ := cells4 u1
    clear cK hb1
    go_wp2_with (go_at_call 12; fail)
    refine (cE.out _).mono ?_
    rintro e wE ⟨rfl, rfl⟩
    obtain ⟨V, hV⟩ : ∃ V, V = w1 := ⟨_, rfl⟩
    rw [← hV] at z0 z1 z2 z3 u1 hB1
    have hVg : GU < V.heap.size := heap_lt u1
    have HZ := mkHid u1
    clear u0 cE
    rw [← hV]
    clear hV
    go_wp2
    go_loopw [5, 8] (fun ov jv ws => ∃ (j : Nat) (y : ByteArray), j ≤ m.toF.length ∧ ov = .string y ∧ jv = .int .i64 j ∧ y.size ≤ 100414 + j * 412 ∧ Hid (Ct.fin (((Ct.rc (m.toF.drop j) y).bind fun x => Ct.few (x ++ Ct.dataA ++ ⟨(Pl.stuff m.message.data.toList).toArray⟩)).bind (Ct.all (M.drop (i + 1)))) = R) ∧ Hid (Below V.heap.size V ws)) (fun _ jv _ => m.toF.length - (Lib.intOf jv).toNat)
    case atStart => exact ⟨0, _, Nat.zero_le _, rfl, rfl, by omega, hR1, Below.refl _ _⟩
    case round =>
      clear hR1 z0 z1 z3
      obtain ⟨j, y, hj', rfl, rfl, hys, hRj, hbV⟩ := hrel
      rename World => ws
      have hBw := mkHid (hB1.out.trans (hbV.out.mono hB1.out.size))
      have u2 := (hbV.out.block GU hVg).trans HZ.out
      obtain ⟨z0, z1, z2, z3⟩ := cells4 u2
      by_cases hjl : j < m.toF.length
      · obtain ⟨b1, rfl, hb0, hb1', e0⟩ := (HT.out.below hBw.out (Nat.le_refl _)) j hjl
        have hts := F2.out m.toF[j] (List.getElem_mem hjl)
        have hsj := Ct.rc_step m.toF j hjl y
        have Hj : Hid (Ct.fin (((if Ky.ok m.toF[j] then Ct.rc (m.toF.drop (j + 1)) (y ++ Ct.rcptA ++ m.toF[j] ++ Ct.endA) else none).bind fun x => Ct.few (x ++ Ct.dataA ++ ⟨(Pl.stuff m.message.data.toList).toArray⟩)).bind (Ct.all (M.drop (i + 1)))) = R) := show _ = _ from by rw [← hRj.out, hsj]
        clear hRj hsj
        generalize m.toF[j] = t at *
        have cT := mkHid (specKeyFault t ws hts)
        cases xt : Ky.ok t
        · rw [xt, show dcode false = 1 from rfl] at cT
          have hr : Hid (R = ⟨#[]⟩) := show _ = _ from by rw [← Hj.out, xt]; rfl
          clear Hj xt
          go_wp2_with (go_at_call 11; fail)
          refine cT.out.mono ?_
          rintro e w3 ⟨rfl, hb3⟩
          have hBF := mkHid (hBw.out.trans (hb3.mono hBw.out.size))
          clear hb3 cT
          go_wp2
          go_ret
          rw [hr.out]
          exact ⟨rfl, hBF.out⟩
        · rw [xt, show dcode true = 0 from rfl] at cT
          have hts4 := Ct.ok_small t xt
          have Hj2 : Hid (Ct.fin (((Ct.rc (m.toF.drop (j + 1)) (y ++ Ct.rcptA ++ t ++ Ct.endA)).bind fun x => Ct.few (x ++ Ct.dataA ++ ⟨(Pl.stuff m.message.data.toList).toArray⟩)).bind (Ct.all (M.drop (i + 1)))) = R) := show _ = _ from by rw [← Hj.out, xt]; rfl
          have hyz : (y ++ Ct.rcptA ++ t ++ Ct.endA).size ≤ 100414 + (j + 1) * 412 := by
            rw [ByteArray.size_append, ByteArray.size_append, ByteArray.size_append]
            show y.size + 9 + t.size + 3 ≤ 100414 + (j + 1) * 412
            omega
          have g0 : ¬ 9223372036854775807 < y.size + 9 := by omega
          have g1 : ¬ 9223372036854775807 < y.size + 9 + t.size := by omega
          have g2 : ¬ 9223372036854775807 < y.size + 9 + t.size + 3 := by omega
          clear Hj xt
          go_wp2_with (go_at_call 11; fail)
          refine cT.out.mono ?_
          rintro e w3 ⟨rfl, hb3⟩
          have hBF := mkHid (hbV.out.trans (hb3.mono hbV.out.size))
          have u3 := (hb3.block GU (by have := hbV.out.size; omega)).trans u2
          obtain ⟨p0, p1, p2, p3⟩ := cells4 u3
          have e1 := (hb3.cell (p := b1.add j) (by rw [add_blockG]; have := hBw.out.size; omega)).trans e0
          clear hb3 cT z0 z1 z2 z3 u2 e0
          go_wp2
          go_roundw
          case rel => exact ⟨j + 1, _, by omega, rfl, by go_num, hyz, Hj2, hBF⟩
          case measure => simp [Lib.intOf]; omega
      · have hj2 : j ≤ 100 := by omega
        have hR2 : Hid (Ct.fin ((Ct.few (y ++ Ct.dataA ++ ⟨(Pl.stuff m.message.data.toList).toArray⟩)).bind (Ct.all (M.drop (i + 1)))) = R) := show _ = _ from by rw [← hRj.out, Ct.rc_end m.toF j (by omega)]; rfl
        have cS := mkHid (specStuff m.message ws xc)
        have hstz : (Pl.stuff m.message.data.toList).length ≤ 400003 := by
          have := Pl.stuff_len m.message.data.toList (Pl.lines m.message.data.toList).length
          rw [List.take_length, show m.message.data.toList.length = m.message.size by simp] at this
          rw [Pl.stuff, List.length_append]
          show _ + 3 ≤ 400003
          omega
        have hszS : (⟨(Pl.stuff m.message.data.toList).toArray⟩ : ByteArray).size ≤ 400003 := by rw [szL]; exact hstz
        generalize (⟨(Pl.stuff m.message.data.toList).toArray⟩ : ByteArray) = S at *
        have hze : (y ++ Ct.dataA ++ S).size = y.size + 6 + S.size := by rw [ByteArray.size_append, ByteArray.size_append]; rfl
        have g0 : ¬ 9223372036854775807 < y.size + 6 := by omega
        have g1 : ¬ 9223372036854775807 < y.size + 6 + S.size := by omega
        clear hRj hstz
        by_cases hq : (y ++ Ct.dataA ++ S).size ≤ 100000
        · have hr : Hid (Ct.fin (Ct.all (M.drop (i + 1)) (y ++ Ct.dataA ++ S)) = R) := show _ = _ from by rw [← hR2.out, Ct.few_yes hq]; rfl
          have hq2 : y.size + 6 + S.size ≤ 100000 := by omega
          obtain ⟨Z, hZ⟩ : ∃ Z, (y ++ (⟨#[68, 65, 84, 65, 13, 10]⟩ : ByteArray) ++ S).size = Z := ⟨_, rfl⟩
          have g3 : decide ((100000 : Int) < (Z : Int)) = false := by
            have h1 : (y ++ (⟨#[68, 65, 84, 65, 13, 10]⟩ : ByteArray) ++ S).size = y.size + 6 + S.size := hze
            simp
            omega
          have Hq := mkHid hq
          clear hR2 hze hq
          go_wp2_with (go_at_call 13; fail)
          refine cS.out.mono ?_
          rintro e w3 ⟨rfl, hb3⟩
          have hBF := mkHid (hBw.out.trans (hb3.mono hBw.out.size))
          clear hb3 cS
          go_wp2
          go_roundw
          case rel => exact ⟨i + 1, _, by omega, rfl, by go_num, Hq.out, hr, hBF⟩
          case measure => simp [Lib.intOf]; omega
        · have hr : Hid (R = ⟨#[]⟩) := show _ = _ from by rw [← hR2.out, Ct.few_no hq]; rfl
          have hq2 : 100000 < y.size + 6 + S.size := by omega
          obtain ⟨Z, hZ⟩ : ∃ Z, (y ++ (⟨#[68, 65, 84, 65, 13, 10]⟩ : ByteArray) ++ S).size = Z := ⟨_, rfl⟩
          have g3 : decide ((100000 : Int) < (Z : Int)) = true := by
            have h1 : (y ++ (⟨#[68, 65, 84, 65, 13, 10]⟩ : ByteArray) ++ S).size = y.size + 6 + S.size := hze
            simp
            omega
          clear hR2 hze hq
          go_wp2_with (go_at_call 13; fail)
          refine cS.out.mono ?_
          rintro e w3 ⟨rfl, hb3⟩
          have hBF := mkHid (hBw.out.trans (hb3.mono hBw.out.size))
          clear hb3 cS
          go_wp2
          go_ret
          rw [hr.out]
          exact ⟨rfl, hBF.out⟩
end Go.Proofs.YthgjflgidalmlaaDoor
