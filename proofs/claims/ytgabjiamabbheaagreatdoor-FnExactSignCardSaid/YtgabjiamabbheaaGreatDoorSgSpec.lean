
/- What a head's sum is told of, the specification's side. -/

/- What a head's sum is told of, the specification's side: the whole. -/
import Derived.Test.YtgabjiamabbheaaGreatDoorPick
import Derived.Test.YtgabjiamabbheaaGreatDoorCanonFieldSpec
import Derived.Test.YtgabjiamabbheaaGreatDoorSignBoth
import Derived.Test.YtgabjiamabbheaaGreatDoorSgPlain3
import Derived.Deep.OwnRows
import Derived.Lib.QuietBelow
import Derived.BigQuiet
namespace Go.Proofs.YtgabjiamabbheaaGreatDoor
open Go.RowKit Go.Lib
set_option maxRecDepth 10000 in
set_option maxHeartbeats 1000000 in
theorem specSame (n m : ByteArray) (w : World) (hn : n.size ≤ 100000) (hm : m.size ≤ 100000) :
    Calls Tryz.prog 44 #[.string n, .string m] w fun e w' => e = .returned (.bool (namedB n m)) ∧ Below w.heap.size w w' := by
  have hA := fun w => specLower n w hn
  have hB := fun w => specLower m w hm
  have HE : Hid (namedB n m = ((⟨(lower n.data.toList).toArray⟩ : ByteArray).data.toList == (⟨(lower m.data.toList).toArray⟩ : ByteArray).data.toList)) := rfl
  generalize (⟨(lower n.data.toList).toArray⟩ : ByteArray) = ta at *
  generalize (⟨(lower m.data.toList).toArray⟩ : ByteArray) = tb at *
  have HA := (show Hid _ from hA)
  have HB := (show Hid _ from hB)
  clear hA hB
  go_enter Tryz.func44, Tryz.ntmps44
  go_wp2_with fail
  refine (HA.out _).mono ?_
  rintro e w1 ⟨rfl, hb1⟩
  go_wp2_with fail
  refine (HB.out _).mono ?_
  rintro e w2 ⟨rfl, hb2⟩
  have hbq := hb1.trans (hb2.mono hb1.size)
  go_wp2
  go_ret
  rw [HE.out, ← ByteArray.toList_eq, ← ByteArray.toList_eq]
  exact ⟨rfl, hbq⟩
end Go.Proofs.YtgabjiamabbheaaGreatDoor
namespace Go.Proofs.YtgabjiamabbheaaGreatDoor
open Go.RowKit Go.Lib
set_option maxRecDepth 20000 in
theorem rowIs_keepS {g n : Nat} {t : TypeId} {f : Nat → Value} {w w' : World} (h : w.rowIs g t n f) (hb : Below w.heap.size w w') : w'.rowIs g t n f := h.of_block (hb.block g h.lt)
set_option maxRecDepth 20000 in
theorem Tryz.infoBl : (Tryz.prog.info? 4).map (fun i => (i.zero, i.size, i.bytes)) = some (some (.bool false), 1, 1) := by kernel_rfl
def mkAt (Z : List (Fd × Bool)) (j : Nat) : Bool := (Z[j]?.map (·.2)).getD false
set_option maxRecDepth 20000 in
theorem named_size (n m : ByteArray) (h : ¬ n.size = m.size) : namedB n m = false := by
  unfold namedB
  rw [beq_eq_false_iff_ne]
  intro e
  have := congrArg List.length e
  simp [lower] at this
  exact h this
set_option maxRecDepth 20000 in
theorem un_at (p : Fd → Bool) (Z : List (Fd × Bool)) (k : Nat) (hk : k < Z.length) : unAt p Z k = (!mkAt Z k && p Z[k].1) := by
  unfold unAt mkAt
  rw [List.getElem?_eq_getElem hk]
  rfl
set_option maxRecDepth 20000 in
theorem mk_set (Z : List (Fd × Bool)) (k : Nat) (hk : k < Z.length) (f : Fd) (j : Nat) : mkAt (Z.set k (f, true)) j = if j = k then true else mkAt Z j := by
  unfold mkAt
  rw [List.getElem?_set]
  by_cases e : k = j
  · subst e; simp [hk]
  · rw [if_neg e, if_neg (fun h => e h.symm)]
set_option maxRecDepth 20000 in
theorem fst_set (Z : List (Fd × Bool)) (F : List Fd) (k : Nat) (hk : k < Z.length) (h : Z.map (·.1) = F) : (Z.set k (Z[k].1, true)).map (·.1) = F := by
  subst h
  apply List.ext_getElem
  · simp
  · intro j h1 h2
    simp only [List.getElem_map, List.getElem_set]
    split
    · rename_i e; subst e; rfl
    · rfl
abbrev bxSg (d s : ByteArray) (A B : Int) (v : Value) (h b : Int) : Obj := .cells #[.string d, .string s, .int .i64 A, .int .i64 B, v, .int .i64 h, .int .i64 b] 31
set_option maxHeartbeats 4000000 in
set_option maxRecDepth 20000 in
theorem specText (d s : ByteArray) (A B h b : Int) (on : Option Addr) (M : List ByteArray) (capn : Nat) (fo : Option Addr) (F : List Fd) (capf : Nat) (v p : ByteArray) (w : World)
    (hM : Tx w.heap.size w on M) (hml : M.length ≤ 30) (hmz : ∀ t ∈ M, t.size ≤ 70) (hF : Fld w.heap.size w fo F) (hfl : F.length ≤ 200) (hfz : ∀ f ∈ F, f.1.size ≤ 100000 ∧ f.2.size ≤ 100000)
    (hfs : fsum F ≤ 100002) (hv : v.size ≤ 4000) (hp : canonF sgName v h = p ++ ⟨#[13, 10]⟩) (hps : p.size ≤ 5000) :
    Calls Tryz.prog 17 #[sgV d s A B (.slice on M.length capn) h b, .slice fo F.length capf, .string v] w fun e w' => e = .returned (.string (⟨(tkL h M F).toArray⟩ ++ p)) ∧ Below w.heap.size w w' := by
  obtain ⟨R, hR⟩ : ∃ R, tkL h M F = R := ⟨_, rfl⟩
  have hRl : R.length ≤ 100002 := by rw [← hR]; exact Nat.le_trans (tkL_len h M F) hfs
  have HR0 : Hid ([] ++ tkZ h (M.drop 0) (F.map fun f => (f, false)) = R) := by
    show _ = _
    rw [List.nil_append, List.drop_zero, tk_eq, keep_new]
    exact hR
  have cO := mkHid (fun w' => specCanonField sgName v h w' (by show 9 ≤ 1048576; omega) (by omega))
  rw [hp] at cO
  rw [hR]
  have HRl := mkHid hRl
  have hpz : (p ++ (⟨#[13, 10]⟩ : ByteArray)).size = p.size + 2 := by rw [ByteArray.size_append]; rfl
  have hpx : (p ++ (⟨#[13, 10]⟩ : ByteArray)).extract 0 p.size = p := by
    have := own_cut p
    rw [hpz] at this
    simpa using this
  have HM := mkHid hM
  have HF := mkHid hF
  have Hmz := mkHid hmz
  have Hfz := mkHid hfz
  clear hR hRl hp hM hF hmz hfz hfs
  have hmk := run_make_row' (P := Tryz.prog) 70 4 (.bool false) 1 Tryz.underlying70 Tryz.infoBl rfl .i64 .i64 F.length (by omega) (by omega)
  obtain ⟨w1, hw1⟩ : ∃ w1, w1 = w.alloc (bxSg d s A B (.slice on M.length capn) h b) := ⟨_, rfl⟩
  have hs1 : w1.heap.size = w.heap.size + 1 := by rw [hw1]; simp
  have hbw1 : Below w.heap.size w w1 := by rw [hw1]; exact (Below.refl _ _).alloc (Nat.le_refl _) _
  have e4 : w1.cell? ⟨w.heap.size, 4, none⟩ = some (.slice on M.length capn) := by rw [hw1]; simp
  have e5 : w1.cell? ⟨w.heap.size, 5, none⟩ = some (.int .i64 h) := by rw [hw1]; simp
  have HW1 := mkHid hw1
  clear hw1
  go_enter Tryz.func17, Tryz.ntmps17
  go_wp2
  clear hmk
  generalize hg : w.heap.size = g at *
  have Hg := mkHid hg
  clear hg
  have hbw1H := mkHid hbw1
  clear hbw1
  go_loopw [8, 9] (fun ov iv wr => ∃ (i : Nat) (O : ByteArray) (Z : List (Fd × Bool)), i ≤ M.length ∧ ov = .string O ∧ iv = .int .i64 i ∧ Hid (Z.map (·.1) = F) ∧ Hid (O.data.toList ++ tkZ h (M.drop i) Z = R) ∧ Hid (wr.rowIs (g + 1) 4 F.length (fun j => .bool (mkAt Z j))) ∧ Hid (Below (g + 1) w1 wr)) (fun _ iv _ => M.length - (Lib.intOf iv).toNat)
  case atStart =>
    refine ⟨0, ⟨#[]⟩, F.map fun f => (f, false), Nat.zero_le _, rfl, rfl, ?_, HR0, ?_, ?_⟩
    · show List.map _ (List.map _ F) = F
      rw [List.map_map]
      exact (List.map_congr_left fun _ _ => rfl).trans (List.map_id F)
    · have := World.rowIs_made w1 (.bool false) F.length 4
      rw [hs1, HW1.out] at this
      refine World.rowIs.congr this fun j hj => ?_
      unfold mkAt
      simp [hj]
    · have := (Below.refl (g + 1) w1).alloc (Nat.le_of_eq hs1.symm) (.cells (madeCells #[.bool false] F.length) 4)
      rw [HW1.out] at this ⊢
      exact this
  case round =>
    clear HR0
    obtain ⟨i, O, Z, hi, rfl, rfl, hZ, hp, hrow, hB⟩ := hrel
    have c4 := (hB.out.cell (p := ⟨g, 4, none⟩) (Nat.lt_succ_self g)).trans e4
    have c5 := (hB.out.cell (p := ⟨g, 5, none⟩) (Nat.lt_succ_self g)).trans e5
    have hZl : Hid (Z.length = F.length) := by show _ = _; rw [← hZ.out, List.length_map]
    have hOl : O.size ≤ 100002 := by
      have := congrArg List.length hp.out
      rw [List.length_append] at this
      have e : O.data.toList.length = O.size := by simp
      have := HRl.out
      omega
    by_cases hlt : i < M.length
    · obtain ⟨a, rfl, ha, hn0⟩ := HM.out i hlt
      obtain ⟨m, hm⟩ : ∃ m, M[i] = m := ⟨_, rfl⟩
      have hms : m.size ≤ 70 := hm ▸ Hmz.out _ (List.getElem_mem hlt)
      have hpm : Hid (O.data.toList ++ tkZ h (m :: M.drop (i + 1)) Z = R) := by
        show _ = _
        rw [← hp.out, List.drop_eq_getElem_cons hlt, hm]
      rw [hm] at hn0
      have Hn0 := mkHid hn0
      have hbr0 := mkHid (hbw1H.out.trans (hB.out.mono (Nat.le_succ g)))
      clear hm hp hn0
      go_wp2
      go_loopw [8, 10] (fun ov kv wq => ∃ k : Nat, k ≤ F.length ∧ ov = .string O ∧ kv = .int .i64 ((k : Int) - 1) ∧ Hid (lastTo (unAt (nmF m) Z) k = lastTo (unAt (nmF m) Z) Z.length) ∧ Hid (wq.rowIs (g + 1) 4 F.length (fun j => .bool (mkAt Z j))) ∧ Hid (Below (g + 1) w1 wq)) (fun _ kv _ => (Lib.intOf kv + 1).toNat)
      case atStart =>
        refine ⟨F.length, Nat.le_refl _, rfl, by go_num, ?_, hrow, hB⟩
        show _ = _
        rw [hZl.out]
      case round =>
        clear hrow hB c4 c5 hbr0
        obtain ⟨k, hk, rfl, rfl, hq, hrow, hB⟩ := hrel
        cases k with
        | zero =>
          have hnx : Hid (O.data.toList ++ tkZ h (M.drop (i + 1)) Z = R) := by
            show _ = _
            rw [← hpm.out, tkZ_none _ _ _ _ hq.out.symm]
          clear hq hpm
          go_wp2
          go_roundw
          case rel => exact ⟨i + 1, O, Z, by omega, rfl, by go_num, hZ, hnx, hrow, hB⟩
          case measure => simp [Lib.intOf]; omega
        | succ k =>
          have hkF : k < F.length := by omega
          have hkZ : k < Z.length := by rw [hZl.out]; exact hkF
          have hfk : Hid (Z[k].1 = F[k]) := by
            show _ = _
            have := hZ.out
            subst this
            simp
          have hbq := hbw1H.out.trans (hB.out.mono (Nat.le_succ g))
          obtain ⟨af, rfl, haf, p0, p1⟩ := (HF.out.below hbq) k hkF
          have q4 := (hB.out.cell (p := ⟨g, 4, none⟩) (Nat.lt_succ_self g)).trans e4
          have q5 := (hB.out.cell (p := ⟨g, 5, none⟩) (Nat.lt_succ_self g)).trans e5
          have qn := (hbq.cell (p := a.add i) (by rw [add_block]; exact ha)).trans Hn0.out
          have q7 := hrow.out.cell hkF
          have hfs := Hfz.out F[k] (List.getElem_mem hkF)
          have hstep : Hid (lastTo (unAt (nmF m) Z) (k + 1) = if (!mkAt Z k && namedB F[k].1 m) then some k else lastTo (unAt (nmF m) Z) k) := by
            show _ = _
            rw [lastTo, un_at _ _ _ hkZ, hfk.out]
            rfl
          have k0 := cell_regrown p0
          have k4 := cell_regrown q4
          have kn := cell_regrown qn
          have k7 := cell_regrown q7
          have e1 : ((k + 1 : Nat) : Int) - 1 = (k : Int) := by omega
          rw [e1]
          obtain ⟨fn, hfn⟩ : ∃ fn, F[k].1 = fn := ⟨_, rfl⟩
          obtain ⟨fv, hfv⟩ : ∃ fv, F[k].2 = fv := ⟨_, rfl⟩
          rw [hfn] at k0 hfs hstep p0
          rw [hfv] at hfs p1
          have hsz1 := hfs.1
          have hsz2 := hfs.2
          clear hfs
          have Hbq := mkHid hbq
          have Hp0 := mkHid p0
          have Hp1 := mkHid p1
          have Hq5 := mkHid q5
          clear hbq p0 p1 q4 q5 qn q7
          have cS : Hid (∀ d os, Calls Tryz.prog 44 #[.string fn, .string m] (Go.Sort.grow (redrawn wr d) os) fun e w'' => e = .returned (.bool (namedB fn m)) ∧ ∃ p : Regrown, w'' = Go.Sort.grow (redrawn wr p.d) p.os) := fun d os => Calls.regrown_of (specSame fn m _ hsz1 (by omega))
          cases ht : mkAt Z k with
          | true =>
            rw [ht] at k7
            have hq2 : Hid (lastTo (unAt (nmF m) Z) k = lastTo (unAt (nmF m) Z) Z.length) := by
              show _ = _
              rw [← hq.out, hstep.out, ht, Bool.not_true, Bool.false_and]
              rfl
            clear hq hstep
            go_wp2
            refine wp_region_quiet_below (by kernel_rfl) (by kernel_rfl) ?_
            repeat (go_big_quiet_step (exact cS.out _ _))
            refine wpQuiet_nil ?_
            intro _ hw'
            obtain ⟨⟨dq, osq⟩, hw''⟩ := hw'
            subst hw''
            have hbx := below_regrown wr dq osq
            have hrow2 := mkHid (rowIs_keepS hrow.out hbx)
            have hB2 := mkHid (hB.out.trans (hbx.mono (by have := hrow.out.lt; omega)))
            clear hbx k0 k4 kn k7 cS hrow hB
            go_wp2
            go_roundw
            case rel => exact ⟨k, by omega, rfl, by go_num, hq2, hrow2, hB2⟩
            case measure => simp [Lib.intOf]
          | false =>
            rw [ht] at k7
            by_cases hsz : fn.size = m.size
            rotate_left
            · have hx : ((fn.size : Int) == (m.size : Int)) = false := by rw [beq_eq_false_iff_ne]; omega
              have hnm := named_size fn m hsz
              have hq2 : Hid (lastTo (unAt (nmF m) Z) k = lastTo (unAt (nmF m) Z) Z.length) := by
                show _ = _
                rw [← hq.out, hstep.out, hnm, Bool.and_false]
                rfl
              clear hq hstep
              go_wp2
              refine wp_region_quiet_below (by kernel_rfl) (by kernel_rfl) ?_
              repeat (go_big_quiet_step (exact cS.out _ _))
              refine wpQuiet_nil ?_
              intro _ hw'
              obtain ⟨⟨dq, osq⟩, hw''⟩ := hw'
              subst hw''
              have hbx := below_regrown wr dq osq
              have hrow2 := mkHid (rowIs_keepS hrow.out hbx)
              have hB2 := mkHid (hB.out.trans (hbx.mono (by have := hrow.out.lt; omega)))
              clear hbx k0 k4 kn k7 cS hrow hB
              go_wp2
              go_roundw
              case rel => exact ⟨k, by omega, rfl, by go_num, hq2, hrow2, hB2⟩
              case measure => simp [Lib.intOf]
            have hx : ((fn.size : Int) == (m.size : Int)) = true := by rw [beq_iff_eq]; omega
            have Hsz := mkHid hsz
            clear hsz
            cases hnm : namedB fn m with
            | false =>
              rw [hnm] at cS
              have hq2 : Hid (lastTo (unAt (nmF m) Z) k = lastTo (unAt (nmF m) Z) Z.length) := by
                show _ = _
                rw [← hq.out, hstep.out, hnm, Bool.and_false]
                rfl
              clear hq hstep
              go_wp2
              refine wp_region_quiet_below (by kernel_rfl) (by kernel_rfl) ?_
              repeat (go_big_quiet_step (exact cS.out _ _))
              refine wpQuiet_nil ?_
              intro _ hw'
              obtain ⟨⟨dq, osq⟩, hw''⟩ := hw'
              subst hw''
              have hbx := below_regrown wr dq osq
              have hrow2 := mkHid (rowIs_keepS hrow.out hbx)
              have hB2 := mkHid (hB.out.trans (hbx.mono (by have := hrow.out.lt; omega)))
              clear hbx k0 k4 kn k7 cS hrow hB
              go_wp2
              go_roundw
              case rel => exact ⟨k, by omega, rfl, by go_num, hq2, hrow2, hB2⟩
              case measure => simp [Lib.intOf]
            | true =>
              rw [hnm] at cS
              have hfound : Hid (lastTo (unAt (nmF m) Z) Z.length = some k) := by
                show _ = _
                rw [← hq.out, hstep.out, ht, hnm]
                rfl
              clear hq hstep hnm
              go_wp2
              refine wp_region_quiet_below (by kernel_rfl) (by kernel_rfl) ?_
              repeat (go_big_quiet_step (exact cS.out _ _))
              refine wpQuiet_nil ?_
              intro _ hw'
              obtain ⟨⟨dq, osq⟩, hw''⟩ := hw'
              have hbx := below_regrown wr dq osq
              rw [← hw''] at hbx
              clear hw''
              rename_i V
              have hgs := hrow.out.lt
              have hrowV := rowIs_keepS hrow.out hbx
              have hBV := hB.out.trans (hbx.mono (Nat.le_of_lt hgs))
              have fz := hrowV.frozen k
              have qc := hrowV.cell hkF
              rw [ht] at qc
              have hrow2 := mkHid (hrowV.set k (.bool true))
              have hB2 := mkHid (hBV.setCell (p := ⟨g + 1, k, none⟩) (Nat.le_refl _) (.bool true))
              have haf2 : (af.add (k * 2)).block < g + 1 := by rw [add_block]; omega
              have P0 := (hB.out.cell (p := af.add (k * 2)) haf2).symm.trans Hp0.out
              have P1 := (hB.out.cell (p := ⟨(af.add (k * 2)).block, (af.add (k * 2)).off + 1, none⟩) haf2).symm.trans Hp1.out
              obtain ⟨V2, hV2⟩ : ∃ V2, V2 = V.setCell ⟨g + 1, k, none⟩ (.bool true) := ⟨_, rfl⟩
              rw [← hV2] at hrow2 hB2
              have r0 := cell_regrown ((hB2.out.cell (p := af.add (k * 2)) haf2).trans P0)
              have r1 := cell_regrown ((hB2.out.cell (p := ⟨(af.add (k * 2)).block, (af.add (k * 2)).off + 1, none⟩) haf2).trans P1)
              have r5 := cell_regrown ((hB2.out.cell (p := ⟨g, 5, none⟩) (Nat.lt_succ_self g)).trans e5)
              have cC : Hid (∀ d os, Calls Tryz.prog 45 #[.agg #[.string fn, .string fv], .int .i64 h] (Go.Sort.grow (redrawn V2 d) os) fun e w'' => e = .returned (.string (canonF fn fv h)) ∧ ∃ p : Regrown, w'' = Go.Sort.grow (redrawn V2 p.d) p.os) := fun d os => Calls.regrown_of (specCanonField fn fv h _ (by omega) (by omega))
              have hZk : Hid (Z[k]? = some ((fn, fv), false)) := by
                show _ = _
                have e2 : mkAt Z k = Z[k].2 := by unfold mkAt; rw [List.getElem?_eq_getElem hkZ]; rfl
                rw [List.getElem?_eq_getElem hkZ]
                refine congrArg some (Prod.ext ?_ ?_)
                · show Z[k].1 = (fn, fv)
                  rw [hfk.out, ← hfn, ← hfv]
                · exact e2.symm.trans ht
              have hnx : Hid ((O ++ canonF fn fv h).data.toList ++ tkZ h (M.drop (i + 1)) (Z.set k ((fn, fv), true)) = R) := by
                show _ = _
                rw [← hpm.out, tkZ_some _ _ _ _ _ _ hfound.out hZk.out, ByteArray.data_append, Array.toList_append, List.append_assoc]
              have hZ2 : Hid ((Z.set k ((fn, fv), true)).map (·.1) = F) := by
                have := fst_set Z F k hkZ hZ.out
                rw [hfk.out] at this
                show _ = _
                rw [← this, ← hfn, ← hfv]
              have hrow3 : Hid (V2.rowIs (g + 1) 4 F.length (fun j => .bool (mkAt (Z.set k ((fn, fv), true)) j))) := World.rowIs.congr hrow2.out fun j _ => by
                rw [mk_set Z k hkZ]
                split <;> rfl
              have hcs := canonF_size fn fv h
              unfold fsz at hcs
              simp only at hcs
              have HV2 := mkHid hV2
              obtain ⟨cf, hcf⟩ : ∃ cf, canonF fn fv h = cf := ⟨_, rfl⟩
              rw [hcf] at cC hnx hcs
              have hpn : ¬ (9223372036854775807 < O.size + cf.size) := by omega
              have Hfn := mkHid hfn
              have Hfv := mkHid hfv
              clear hbx k0 k4 kn k7 cS hrow hB hrowV hBV ht hgs hV2 P0 P1 hrow2 hfn hfv hcf
              go_wp2
              rw [← HV2.out]
              refine wp_region_quiet_below (by kernel_rfl) (by kernel_rfl) ?_
              repeat (go_big_quiet_step (exact cC.out _ _))
              refine wpQuiet_nil ?_
              intro _ hw'
              obtain ⟨⟨dq, osq⟩, hw''⟩ := hw'
              subst hw''
              have hbx := below_regrown V2 dq osq
              have hrow4 := mkHid (rowIs_keepS hrow3.out hbx)
              have hB4 := mkHid (hB2.out.trans (hbx.mono (by have := hrow3.out.lt; omega)))
              clear hbx r0 r1 r5 cC hrow3 hB2 fz qc HV2
              go_wp2
              go_roundw
              case rel => exact ⟨i + 1, O ++ cf, Z.set k ((fn, fv), true), by omega, rfl, by go_num, hZ2, hnx, hrow4, hB4⟩
              case measure => simp [Lib.intOf]; omega
    · go_wp2_with fail
      refine (cO.out wr).mono ?_
      rintro e w2 ⟨rfl, hb2⟩
      have hre : Hid (R = O.data.toList) := by
        show _ = _
        rw [← hp.out, List.drop_eq_nil_of_le (by omega)]
        simp [tkZ]
      have hpn : ¬ (9223372036854775807 < O.size + p.size) := by omega
      have hend := mkHid (hbw1H.out.trans ((hB.out.trans (hb2.mono (by have := hrow.out.lt; omega))).mono (Nat.le_succ g)))
      clear hb2 hB hrow c4 c5 cO hp
      go_wp2
      go_ret
      refine ⟨?_, by rw [Hg.out]; exact hend.out⟩
      rw [hre.out]
      exact congrArg (fun x => Ending.returned (.string (x ++ p))) (show O = ⟨O.data.toList.toArray⟩ from by simp)
end Go.Proofs.YtgabjiamabbheaaGreatDoor
