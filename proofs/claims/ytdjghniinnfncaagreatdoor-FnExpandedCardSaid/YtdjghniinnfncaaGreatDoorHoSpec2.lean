
/- The specification's HostsOf. -/
import Derived.Test.YtdjghniinnfncaaGreatDoorHoSpec
namespace Go.Proofs.YtdjghniinnfncaaGreatDoor
open Go.RowKit Go.Lib Go.Maps Go.Shelf Go.Sort
set_option maxHeartbeats 8000000 in
set_option maxRecDepth 20000 in
theorem specHostsOf (o : Option Addr) (T : List GMx) (cap lo hi : Nat) (d : ByteArray) (w : World) (hT : T.length ≤ 100) (hc : GMxsL lo hi w o T) (hhi : hi ≤ w.heap.size) (hz : ∀ t ∈ T, t.fits 100000) (hd : d.size ≤ 255) :
    Calls Tryz.prog 10 #[.slice o T.length cap, .string d] w fun e w' => ∃ v, e = .returned v ∧ OwnX w.heap.size v (Ho.hosts (fun m => namedB m.domain d) T d) w' ∧ Below w.heap.size w w' := by
  have e1 : ¬ (100 : Int) < (T.length : Int) := by omega
  have e2 : ¬ (255 : Int) < (d.size : Int) := by omega
  obtain ⟨W1, hW1⟩ : ∃ W, w.alloc (.cells #[] 9) = W := ⟨_, rfl⟩
  obtain ⟨W2, hW2⟩ : ∃ W, W1.alloc (.cells #[] 58) = W := ⟨_, rfl⟩
  obtain ⟨B, hB⟩ : ∃ B, w.heap.size = B := ⟨_, rfl⟩
  have s1 : W1.heap.size = B + 1 := by rw [← hW1, ← hB]; simp
  have b1 : Below B w W1 := by rw [← hW1, ← hB]; exact (Below.refl _ _).alloc (Nat.le_refl _) _
  have b2 : Below (B + 1) W1 W2 := by rw [← hW2, ← s1]; exact (Below.refl _ _).alloc (Nat.le_refl _) _
  have n2 : W2.heap[B + 1]? = some (.cells #[] 58 (0, 0)) := by rw [← hW2, ← s1]; exact World.alloc_heap_new W1 _
  have hq0 : HqT (B + 1) W1 [] (B + 1) 0 W2 := ⟨⟨rfl, .inr ⟨B + 1, 0, #[], rfl, Nat.le_refl _, n2, Nat.le_refl _, by decide, rfl, rfl⟩⟩, b2⟩
  have n1 : W1.heap[B]? = some (.cells #[] 9 (0, 0)) := by rw [← hW1, ← hB]; exact World.alloc_heap_new w _
  have hc1 : GMxsL lo (B + 1) W1 o T := (hc.below (show Below B w W1 from b1) (by omega)).mono (Nat.le_refl _) (by omega)
  have Hc1 := mkHid hc1
  have Hq0 := mkHid hq0
  have Hz := mkHid hz
  have Hb1 := mkHid b1
  have Hn1 := mkHid n1
  have HW1 := mkHid hW1
  have HW2 := mkHid hW2
  have Hs1 := mkHid s1
  have HB := mkHid hB
  clear hc hz hc1 hq0 b1 b2 n1 n2 hW1 hW2 hB s1
  go_enter Tryz.func10, Tryz.ntmps10
  go_wp2
  rw [HB.out, HW1.out, HW2.out]
  go_loopw [6, 7] (fun lv iv wr => ∃ (i g c : Nat) (S : List GMx), i ≤ T.length ∧ iv = .int .i64 i ∧ lv = .slice (some ⟨g, 0, none⟩) S.length c ∧ S.length ≤ i ∧ Hid (S = Ho.sorted (fun m => namedB m.domain d) (T.take i)) ∧ Hid (HqT (B + 1) W1 S g c wr)) (fun _ iv _ => T.length - (Lib.intOf iv).toNat)
  case atStart => exact ⟨0, B + 1, 0, [], Nat.zero_le _, rfl, rfl, Nat.zero_le _, rfl, Hq0⟩
  case round =>
    clear Hq0 HW1 HW2
    obtain ⟨i, g, c, S, hi, rfl, rfl, hSi, hS, hQ⟩ := hrel
    by_cases hlt : i < T.length
    · obtain ⟨a, ha, hr1, hr2, hA⟩ := (Hc1.out.below hQ.out.bel (Nat.le_refl _)) i hlt
      have hfit := Hz.out T[i] (List.getElem_mem hlt)
      have hnx : Hid (Ho.sorted (fun m => namedB m.domain d) (T.take (i + 1)) = if namedB T[i].domain d = true then Ho.ins T[i] S else S) := by
        show _ = _
        rw [hS.out]
        unfold Ho.sorted
        rw [← List.take_append_getElem hlt, List.filter_append, List.foldl_append]
        by_cases hb : namedB T[i].domain d = true
        · simp [hb]
        · simp [hb]
      generalize hm : T[i] = t at hA hfit hnx
      have c0 := hA.c0
      have c1 := hA.c1
      have c2 := hA.c2
      subst ha
      clear hA hm hr1 hr2 hS
      have cS := mkHid (fun W => specSame t.domain d W hfit.1 (by omega))
      by_cases hsz : t.domain.size = d.size
      · have hdn : ∃ b, namedB t.domain d = b := ⟨_, rfl⟩
        obtain ⟨b, hb⟩ := hdn
        rw [hb] at cS hnx
        clear hb
        go_wp2_with fail
        refine (cS.out _).mono ?_
        rintro e wr1 ⟨rfl, hbr⟩
        have hQ1 : Hid (HqT (B + 1) W1 S g c wr1) := hQ.out.below hbr
        have d1 : wr1.cell? _ = _ := (hbr.cell (World.block_lt_of_cell? _ _ c1)).trans c1
        have d2 : wr1.cell? _ = _ := (hbr.cell (World.block_lt_of_cell? _ _ c2)).trans c2
        have d0 : wr1.cell? _ = _ := (hbr.cell (World.block_lt_of_cell? _ _ c0)).trans c0
        clear cS hbr hQ c0 c1 c2 hsz
        cases b with
        | false =>
          have hn2 : Hid (S = Ho.sorted (fun m => namedB m.domain d) (T.take (i + 1))) := by show _ = _; rw [hnx.out]; rfl
          clear hnx d0 d1 d2
          go_wp2
          refine ⟨⟨i + 1, g, c, S, by omega, by go_num, rfl, by omega, hn2, hQ1⟩, by simp [Lib.intOf]; omega⟩
        | true =>
          have hn2 : Hid (Ho.sorted (fun m => namedB m.domain d) (T.take (i + 1)) = Ho.ins t S) := by show _ = _; rw [hnx.out]; rfl
          clear hnx
          go_wp2
          go_loopw [8] (fun kv wk => ∃ k : Nat, k ≤ S.length ∧ kv = .int .i64 k ∧ Hid (Ho.place t S = k + Ho.place t (S.drop k)) ∧ Hid (Below wr1.heap.size wr1 wk)) (fun kv _ => S.length - (Lib.intOf kv).toNat)
          case atStart => exact ⟨0, Nat.zero_le _, rfl, by show _ = _; simp, Below.refl _ _⟩
          case round =>
            obtain ⟨k, hk, rfl, hpl, hbk⟩ := hrel
            obtain ⟨wk, hwk⟩ : ∃ V, V = wr := ⟨_, rfl⟩
            subst hwk
            have hQ2 : Hid (HqT (B + 1) W1 S g c wk) := hQ1.out.below hbk.out
            have c0 : wk.cell? _ = _ := (hbk.out.cell (World.block_lt_of_cell? _ _ d0)).trans d0
            have c1 : wk.cell? _ = _ := (hbk.out.cell (World.block_lt_of_cell? _ _ d1)).trans d1
            have c2 : wk.cell? _ = _ := (hbk.out.cell (World.block_lt_of_cell? _ _ d2)).trans d2
            by_cases hk2 : k < S.length
            · have x1 : wk.cell? ⟨g, k * 3 + 1, none⟩ = some (.int .i64 S[k].prefer) := hQ2.out.own.cells _ _ (by rw [mxCells_at S k 1 hk2 (by decide)]; rfl)
              have x2 : wk.cell? ⟨g, k * 3 + 2, none⟩ = some (.string S[k].host) := hQ2.out.own.cells _ _ (by rw [mxCells_at S k 2 hk2 (by decide)]; rfl)
              have hpd := mkHid (Ho.place_drop t S k hk2)
              generalize S[k] = x at *
              have hle : Hid (Ho.le x t = (decide (x.prefer < t.prefer) || (x.prefer == t.prefer && (Op.bytesLess x.host.toList t.host.toList || x.host.toList == t.host.toList)))) := by
                show _ = _
                rw [← Ho.leB, bytesLess_eq, ByteArray.toList_eq, ByteArray.toList_eq]
                rfl
              by_cases h1 : x.prefer < t.prefer
              · have hnx : Hid (Ho.place t S = (k + 1) + Ho.place t (S.drop (k + 1))) := by
                  show _ = _
                  rw [hpl.out, hpd.out, hle.out, decide_eq_true h1, Bool.true_or, if_pos rfl]
                  omega
                clear hpl hpd hle
                go_wp2
                go_quiet (fail)
                go_wp2
                go_roundw
                case rel => exact ⟨k + 1, by omega, by go_num, hnx, below_drewN hbk.out _⟩
                case measure => simp [Lib.intOf]; omega
              · cases h2 : (x.prefer == t.prefer) with
                | true =>
                  cases hb : Op.bytesLess x.host.toList t.host.toList with
                  | true =>
                    have hnx : Hid (Ho.place t S = (k + 1) + Ho.place t (S.drop (k + 1))) := by
                      show _ = _
                      rw [hpl.out, hpd.out, hle.out, h2, hb]
                      simp
                      omega
                    clear hpl hpd hle
                    go_wp2
                    go_quiet (fail)
                    go_wp2
                    go_roundw
                    case rel => exact ⟨k + 1, by omega, by go_num, hnx, below_drewN hbk.out _⟩
                    case measure => simp [Lib.intOf]; omega
                  | false =>
                    cases hb3 : (x.host.toList == t.host.toList) with
                    | true =>
                      have hnx : Hid (Ho.place t S = (k + 1) + Ho.place t (S.drop (k + 1))) := by
                        show _ = _
                        rw [hpl.out, hpd.out, hle.out, h2, hb, hb3]
                        simp
                        omega
                      clear hpl hpd hle
                      go_wp2
                      go_quiet (fail)
                      go_wp2
                      go_roundw
                      case rel => exact ⟨k + 1, by omega, by go_num, hnx, below_drewN hbk.out _⟩
                      case measure => simp [Lib.intOf]; omega
                    | false =>
                      have hpk : Hid (Ho.place t S = k) := by
                        show _ = _
                        rw [hpl.out, hpd.out, hle.out, h2, hb, hb3, decide_eq_false h1]
                        rfl
                      clear hpd hle
                      clear hpl d0 d1 d2 hQ1
                      go_wp2
                      go_quiet (fail)
                      obtain ⟨wq, hwq⟩ : ∃ V, V = wk.drewN nq := ⟨_, rfl⟩
                      have bq : Below wk.heap.size wk wq := by rw [hwq]; exact below_drewN (Below.refl _ _) _
                      have hQ3 := mkHid (hQ2.out.below bq)
                      have k0 : wq.cell? _ = _ := (bq.cell (World.block_lt_of_cell? _ _ c0)).trans c0
                      have k1 : wq.cell? _ = _ := (bq.cell (World.block_lt_of_cell? _ _ c1)).trans c1
                      have k2 : wq.cell? _ = _ := (bq.cell (World.block_lt_of_cell? _ _ c2)).trans c2
                      rw [← hwq]
                      clear hwq bq hQ2 hbk c0 c1 c2
                      have hcap := hQ3.out.cap
                      have hkc : ¬ (c : Int) < (k : Int) := by omega
                      obtain ⟨V1, hV1⟩ : ∃ V, wq.alloc (.cells #[] 58) = V := ⟨_, rfl⟩
                      have bV1 : Below wq.heap.size wq V1 := by rw [← hV1]; exact (Below.refl _ _).alloc (Nat.le_refl _) _
                      have O1 : OwnM wq.heap.size (.slice (some ⟨wq.heap.size, 0, none⟩) 0 0) [] V1 := by rw [← hV1]; exact OwnM.fresh wq
                      have HV1 := mkHid hV1
                      have HO1 := mkHid O1
                      have HbV1 := mkHid bV1
                      clear hV1 O1 bV1
                      go_wp2_with (at_builtin; go_must (rw [HV1.out]; refine wp_appM (w := V1) rfl _ _ rfl wq.heap.size (.slice (some ⟨wq.heap.size, 0, none⟩) 0 0) [] rfl HO1.out (S.take k) ⟨g, 0, none⟩ k c rfl (by rw [List.length_take]; omega) (hQ3.out.takes HbV1.out k) (by simp; omega) HbV1.out.size ?_; intro v1 X1 hO hG; refine Hid.out ?_))
                      obtain ⟨b1x, s1x⟩ := HO1.out.step HbV1.out HbV1.out.size hG
                      have q0 : X1.cell? _ = _ := (b1x.cell (World.block_lt_of_cell? _ _ k0)).trans k0
                      have q1 : X1.cell? _ = _ := (b1x.cell (World.block_lt_of_cell? _ _ k1)).trans k1
                      have q2 : X1.cell? _ = _ := (b1x.cell (World.block_lt_of_cell? _ _ k2)).trans k2
                      obtain ⟨V2, hV2⟩ : ∃ V, X1.alloc (.cells #[.string t.domain, .int .i64 t.prefer, .string t.host] 58) = V := ⟨_, rfl⟩
                      have O2 : OwnM wq.heap.size v1 ([] ++ S.take k) V2 := by rw [← hV2]; exact hO.more _
                      have bV2 : Below wq.heap.size wq V2 := by rw [← hV2]; exact b1x.alloc s1x _
                      have n2 : V2.heap[X1.heap.size]? = some (.cells #[.string t.domain, .int .i64 t.prefer, .string t.host] 58 (0, 0)) := by rw [← hV2]; exact World.alloc_heap_new X1 _
                      have R2 : ∀ j u, (mxCells [t])[j]? = some u → V2.cell? ((⟨X1.heap.size, 0, none⟩ : Addr).add j) = some u := by
                        intro j u hj
                        rw [Addr.add_lit, Nat.zero_add]
                        match j, hj with
                        | 0, hj => cases hj; simp [World.cell?, n2]
                        | 1, hj => cases hj; simp [World.cell?, n2]
                        | 2, hj => cases hj; simp [World.cell?, n2]
                      have HV2 := mkHid hV2
                      have HO2 := mkHid O2
                      have HbV2 := mkHid bV2
                      have HR2 := mkHid R2
                      clear hV2 O2 bV2 n2 R2 hO hG HV1 HO1 HbV1 b1x s1x k0 k1 k2
                      refine mkHid ?_
                      go_wp2_with (at_builtin; go_must (rw [HV2.out]; refine wp_appM (w := V2) rfl _ _ rfl wq.heap.size v1 ([] ++ S.take k) rfl HO2.out [t] ⟨X1.heap.size, 0, none⟩ 1 1 rfl rfl HR2.out (by simp; omega) HbV2.out.size ?_; intro v2 X2 hO2 hG2; refine Hid.out ?_))
                      obtain ⟨b2x, s2x⟩ := HO2.out.step HbV2.out HbV2.out.size hG2
                      obtain ⟨S', hS'⟩ : ∃ S', ([] ++ S.take k ++ [t]) ++ S.drop k = S' := ⟨_, rfl⟩
                      have hl' : Hid (S'.length = S.length + 1) := by show _ = _; rw [← hS']; simp; omega
                      have hs' : Hid (S' = Ho.sorted (fun m => namedB m.domain d) (T.take (i + 1))) := by show _ = _; rw [← hS', hn2.out]; exact Ho.ins_at t S k hpk.out
                      have Hfin : Hid (∀ (v3 : Value) (X3 : World), OwnM wq.heap.size v3 (([] ++ S.take k ++ [t]) ++ S.drop k) X3 → X2.grownBy X3 v2.ownBlock → ∃ g' c', v3 = .slice (some ⟨g', 0, none⟩) S'.length c' ∧ HqT (B + 1) W1 S' g' c' X3) := by
                        intro v3 X3 hO3 hG3
                        rw [hS'] at hO3
                        exact hQ3.out.next (hO2.step b2x s2x hG3).1 hO3 (by have := hl'.out; omega)
                      have HO2x := mkHid hO2
                      have HbX2 := mkHid b2x
                      clear hO2 hG2 b2x HV2 HO2 HbV2 HR2 hS' q0 q1 q2 hn2 hpk
                      have hkl : ¬ (S.length : Int) < (k : Int) := by omega
                      refine mkHid ?_
                      by_cases hck : c = k
                      · go_wp2_with (at_builtin; go_must (refine wp_appM (w := X2) rfl _ _ rfl wq.heap.size v2 ([] ++ S.take k ++ [t]) rfl HO2x.out (S.drop k) _ _ _ rfl (by rw [List.length_drop]) (hQ3.out.drops HbX2.out k hk _ (Or.inr (by omega))) (by simp; omega) s2x ?_; intro v3 X3 hO3 hG3; obtain ⟨g', c', rfl, hN⟩ := Hfin.out v3 X3 hO3 hG3; have HN := mkHid hN; clear hN hO3 hG3; refine Hid.out ?_))
                        have hl2 := hl'.out
                        replace hl2 : S'.length ≤ i + 1 := by omega
                        refine mkHid ?_
                        go_wp2
                        refine ⟨⟨i + 1, g', c', S', by omega, by go_num, rfl, hl2, hs', HN⟩, by simp [Lib.intOf]; omega⟩
                      · go_wp2_with (at_builtin; go_must (refine wp_appM (w := X2) rfl _ _ rfl wq.heap.size v2 ([] ++ S.take k ++ [t]) rfl HO2x.out (S.drop k) _ _ _ rfl (by rw [List.length_drop]) (hQ3.out.drops HbX2.out k hk _ (Or.inl rfl)) (by simp; omega) s2x ?_; intro v3 X3 hO3 hG3; obtain ⟨g', c', rfl, hN⟩ := Hfin.out v3 X3 hO3 hG3; have HN := mkHid hN; clear hN hO3 hG3; refine Hid.out ?_))
                        have hl2 := hl'.out
                        replace hl2 : S'.length ≤ i + 1 := by omega
                        refine mkHid ?_
                        go_wp2
                        refine ⟨⟨i + 1, g', c', S', by omega, by go_num, rfl, hl2, hs', HN⟩, by simp [Lib.intOf]; omega⟩
                | false =>
                  have hpk : Hid (Ho.place t S = k) := by
                    show _ = _
                    rw [hpl.out, hpd.out, hle.out, h2, decide_eq_false h1]
                    rfl
                  clear hpd hle
                  have hne : ¬ x.prefer = t.prefer := by simpa using h2
                  have hgt : t.prefer < x.prefer := by omega
                  clear h2
                  clear hpl d0 d1 d2 hQ1
                  go_wp2
                  go_quiet (fail)
                  obtain ⟨wq, hwq⟩ : ∃ V, V = wk.drewN nq := ⟨_, rfl⟩
                  have bq : Below wk.heap.size wk wq := by rw [hwq]; exact below_drewN (Below.refl _ _) _
                  have hQ3 := mkHid (hQ2.out.below bq)
                  have k0 : wq.cell? _ = _ := (bq.cell (World.block_lt_of_cell? _ _ c0)).trans c0
                  have k1 : wq.cell? _ = _ := (bq.cell (World.block_lt_of_cell? _ _ c1)).trans c1
                  have k2 : wq.cell? _ = _ := (bq.cell (World.block_lt_of_cell? _ _ c2)).trans c2
                  rw [← hwq]
                  clear hwq bq hQ2 hbk c0 c1 c2
                  have hcap := hQ3.out.cap
                  have hkc : ¬ (c : Int) < (k : Int) := by omega
                  obtain ⟨V1, hV1⟩ : ∃ V, wq.alloc (.cells #[] 58) = V := ⟨_, rfl⟩
                  have bV1 : Below wq.heap.size wq V1 := by rw [← hV1]; exact (Below.refl _ _).alloc (Nat.le_refl _) _
                  have O1 : OwnM wq.heap.size (.slice (some ⟨wq.heap.size, 0, none⟩) 0 0) [] V1 := by rw [← hV1]; exact OwnM.fresh wq
                  have HV1 := mkHid hV1
                  have HO1 := mkHid O1
                  have HbV1 := mkHid bV1
                  clear hV1 O1 bV1
                  go_wp2_with (at_builtin; go_must (rw [HV1.out]; refine wp_appM (w := V1) rfl _ _ rfl wq.heap.size (.slice (some ⟨wq.heap.size, 0, none⟩) 0 0) [] rfl HO1.out (S.take k) ⟨g, 0, none⟩ k c rfl (by rw [List.length_take]; omega) (hQ3.out.takes HbV1.out k) (by simp; omega) HbV1.out.size ?_; intro v1 X1 hO hG; refine Hid.out ?_))
                  obtain ⟨b1x, s1x⟩ := HO1.out.step HbV1.out HbV1.out.size hG
                  have q0 : X1.cell? _ = _ := (b1x.cell (World.block_lt_of_cell? _ _ k0)).trans k0
                  have q1 : X1.cell? _ = _ := (b1x.cell (World.block_lt_of_cell? _ _ k1)).trans k1
                  have q2 : X1.cell? _ = _ := (b1x.cell (World.block_lt_of_cell? _ _ k2)).trans k2
                  obtain ⟨V2, hV2⟩ : ∃ V, X1.alloc (.cells #[.string t.domain, .int .i64 t.prefer, .string t.host] 58) = V := ⟨_, rfl⟩
                  have O2 : OwnM wq.heap.size v1 ([] ++ S.take k) V2 := by rw [← hV2]; exact hO.more _
                  have bV2 : Below wq.heap.size wq V2 := by rw [← hV2]; exact b1x.alloc s1x _
                  have n2 : V2.heap[X1.heap.size]? = some (.cells #[.string t.domain, .int .i64 t.prefer, .string t.host] 58 (0, 0)) := by rw [← hV2]; exact World.alloc_heap_new X1 _
                  have R2 : ∀ j u, (mxCells [t])[j]? = some u → V2.cell? ((⟨X1.heap.size, 0, none⟩ : Addr).add j) = some u := by
                    intro j u hj
                    rw [Addr.add_lit, Nat.zero_add]
                    match j, hj with
                    | 0, hj => cases hj; simp [World.cell?, n2]
                    | 1, hj => cases hj; simp [World.cell?, n2]
                    | 2, hj => cases hj; simp [World.cell?, n2]
                  have HV2 := mkHid hV2
                  have HO2 := mkHid O2
                  have HbV2 := mkHid bV2
                  have HR2 := mkHid R2
                  clear hV2 O2 bV2 n2 R2 hO hG HV1 HO1 HbV1 b1x s1x k0 k1 k2
                  refine mkHid ?_
                  go_wp2_with (at_builtin; go_must (rw [HV2.out]; refine wp_appM (w := V2) rfl _ _ rfl wq.heap.size v1 ([] ++ S.take k) rfl HO2.out [t] ⟨X1.heap.size, 0, none⟩ 1 1 rfl rfl HR2.out (by simp; omega) HbV2.out.size ?_; intro v2 X2 hO2 hG2; refine Hid.out ?_))
                  obtain ⟨b2x, s2x⟩ := HO2.out.step HbV2.out HbV2.out.size hG2
                  obtain ⟨S', hS'⟩ : ∃ S', ([] ++ S.take k ++ [t]) ++ S.drop k = S' := ⟨_, rfl⟩
                  have hl' : Hid (S'.length = S.length + 1) := by show _ = _; rw [← hS']; simp; omega
                  have hs' : Hid (S' = Ho.sorted (fun m => namedB m.domain d) (T.take (i + 1))) := by show _ = _; rw [← hS', hn2.out]; exact Ho.ins_at t S k hpk.out
                  have Hfin : Hid (∀ (v3 : Value) (X3 : World), OwnM wq.heap.size v3 (([] ++ S.take k ++ [t]) ++ S.drop k) X3 → X2.grownBy X3 v2.ownBlock → ∃ g' c', v3 = .slice (some ⟨g', 0, none⟩) S'.length c' ∧ HqT (B + 1) W1 S' g' c' X3) := by
                    intro v3 X3 hO3 hG3
                    rw [hS'] at hO3
                    exact hQ3.out.next (hO2.step b2x s2x hG3).1 hO3 (by have := hl'.out; omega)
                  have HO2x := mkHid hO2
                  have HbX2 := mkHid b2x
                  clear hO2 hG2 b2x HV2 HO2 HbV2 HR2 hS' q0 q1 q2 hn2 hpk
                  have hkl : ¬ (S.length : Int) < (k : Int) := by omega
                  refine mkHid ?_
                  by_cases hck : c = k
                  · go_wp2_with (at_builtin; go_must (refine wp_appM (w := X2) rfl _ _ rfl wq.heap.size v2 ([] ++ S.take k ++ [t]) rfl HO2x.out (S.drop k) _ _ _ rfl (by rw [List.length_drop]) (hQ3.out.drops HbX2.out k hk _ (Or.inr (by omega))) (by simp; omega) s2x ?_; intro v3 X3 hO3 hG3; obtain ⟨g', c', rfl, hN⟩ := Hfin.out v3 X3 hO3 hG3; have HN := mkHid hN; clear hN hO3 hG3; refine Hid.out ?_))
                    have hl2 := hl'.out
                    replace hl2 : S'.length ≤ i + 1 := by omega
                    refine mkHid ?_
                    go_wp2
                    refine ⟨⟨i + 1, g', c', S', by omega, by go_num, rfl, hl2, hs', HN⟩, by simp [Lib.intOf]; omega⟩
                  · go_wp2_with (at_builtin; go_must (refine wp_appM (w := X2) rfl _ _ rfl wq.heap.size v2 ([] ++ S.take k ++ [t]) rfl HO2x.out (S.drop k) _ _ _ rfl (by rw [List.length_drop]) (hQ3.out.drops HbX2.out k hk _ (Or.inl rfl)) (by simp; omega) s2x ?_; intro v3 X3 hO3 hG3; obtain ⟨g', c', rfl, hN⟩ := Hfin.out v3 X3 hO3 hG3; have HN := mkHid hN; clear hN hO3 hG3; refine Hid.out ?_))
                    have hl2 := hl'.out
                    replace hl2 : S'.length ≤ i + 1 := by omega
                    refine mkHid ?_
                    go_wp2
                    refine ⟨⟨i + 1, g', c', S', by omega, by go_num, rfl, hl2, hs', HN⟩, by simp [Lib.intOf]; omega⟩
            · have hpk : Hid (Ho.place t S = k) := by
                show _ = _
                rw [hpl.out, List.drop_eq_nil_of_le (by omega)]
                rfl
              clear hpl d0 d1 d2 hQ1
              go_wp2
              go_quiet (fail)
              obtain ⟨wq, hwq⟩ : ∃ V, V = wk.drewN nq := ⟨_, rfl⟩
              have bq : Below wk.heap.size wk wq := by rw [hwq]; exact below_drewN (Below.refl _ _) _
              have hQ3 := mkHid (hQ2.out.below bq)
              have k0 : wq.cell? _ = _ := (bq.cell (World.block_lt_of_cell? _ _ c0)).trans c0
              have k1 : wq.cell? _ = _ := (bq.cell (World.block_lt_of_cell? _ _ c1)).trans c1
              have k2 : wq.cell? _ = _ := (bq.cell (World.block_lt_of_cell? _ _ c2)).trans c2
              rw [← hwq]
              clear hwq bq hQ2 hbk c0 c1 c2
              have hcap := hQ3.out.cap
              have hkc : ¬ (c : Int) < (k : Int) := by omega
              obtain ⟨V1, hV1⟩ : ∃ V, wq.alloc (.cells #[] 58) = V := ⟨_, rfl⟩
              have bV1 : Below wq.heap.size wq V1 := by rw [← hV1]; exact (Below.refl _ _).alloc (Nat.le_refl _) _
              have O1 : OwnM wq.heap.size (.slice (some ⟨wq.heap.size, 0, none⟩) 0 0) [] V1 := by rw [← hV1]; exact OwnM.fresh wq
              have HV1 := mkHid hV1
              have HO1 := mkHid O1
              have HbV1 := mkHid bV1
              clear hV1 O1 bV1
              go_wp2_with (at_builtin; go_must (rw [HV1.out]; refine wp_appM (w := V1) rfl _ _ rfl wq.heap.size (.slice (some ⟨wq.heap.size, 0, none⟩) 0 0) [] rfl HO1.out (S.take k) ⟨g, 0, none⟩ k c rfl (by rw [List.length_take]; omega) (hQ3.out.takes HbV1.out k) (by simp; omega) HbV1.out.size ?_; intro v1 X1 hO hG; refine Hid.out ?_))
              obtain ⟨b1x, s1x⟩ := HO1.out.step HbV1.out HbV1.out.size hG
              have q0 : X1.cell? _ = _ := (b1x.cell (World.block_lt_of_cell? _ _ k0)).trans k0
              have q1 : X1.cell? _ = _ := (b1x.cell (World.block_lt_of_cell? _ _ k1)).trans k1
              have q2 : X1.cell? _ = _ := (b1x.cell (World.block_lt_of_cell? _ _ k2)).trans k2
              obtain ⟨V2, hV2⟩ : ∃ V, X1.alloc (.cells #[.string t.domain, .int .i64 t.prefer, .string t.host] 58) = V := ⟨_, rfl⟩
              have O2 : OwnM wq.heap.size v1 ([] ++ S.take k) V2 := by rw [← hV2]; exact hO.more _
              have bV2 : Below wq.heap.size wq V2 := by rw [← hV2]; exact b1x.alloc s1x _
              have n2 : V2.heap[X1.heap.size]? = some (.cells #[.string t.domain, .int .i64 t.prefer, .string t.host] 58 (0, 0)) := by rw [← hV2]; exact World.alloc_heap_new X1 _
              have R2 : ∀ j u, (mxCells [t])[j]? = some u → V2.cell? ((⟨X1.heap.size, 0, none⟩ : Addr).add j) = some u := by
                intro j u hj
                rw [Addr.add_lit, Nat.zero_add]
                match j, hj with
                | 0, hj => cases hj; simp [World.cell?, n2]
                | 1, hj => cases hj; simp [World.cell?, n2]
                | 2, hj => cases hj; simp [World.cell?, n2]
              have HV2 := mkHid hV2
              have HO2 := mkHid O2
              have HbV2 := mkHid bV2
              have HR2 := mkHid R2
              clear hV2 O2 bV2 n2 R2 hO hG HV1 HO1 HbV1 b1x s1x k0 k1 k2
              refine mkHid ?_
              go_wp2_with (at_builtin; go_must (rw [HV2.out]; refine wp_appM (w := V2) rfl _ _ rfl wq.heap.size v1 ([] ++ S.take k) rfl HO2.out [t] ⟨X1.heap.size, 0, none⟩ 1 1 rfl rfl HR2.out (by simp; omega) HbV2.out.size ?_; intro v2 X2 hO2 hG2; refine Hid.out ?_))
              obtain ⟨b2x, s2x⟩ := HO2.out.step HbV2.out HbV2.out.size hG2
              obtain ⟨S', hS'⟩ : ∃ S', ([] ++ S.take k ++ [t]) ++ S.drop k = S' := ⟨_, rfl⟩
              have hl' : Hid (S'.length = S.length + 1) := by show _ = _; rw [← hS']; simp; omega
              have hs' : Hid (S' = Ho.sorted (fun m => namedB m.domain d) (T.take (i + 1))) := by show _ = _; rw [← hS', hn2.out]; exact Ho.ins_at t S k hpk.out
              have Hfin : Hid (∀ (v3 : Value) (X3 : World), OwnM wq.heap.size v3 (([] ++ S.take k ++ [t]) ++ S.drop k) X3 → X2.grownBy X3 v2.ownBlock → ∃ g' c', v3 = .slice (some ⟨g', 0, none⟩) S'.length c' ∧ HqT (B + 1) W1 S' g' c' X3) := by
                intro v3 X3 hO3 hG3
                rw [hS'] at hO3
                exact hQ3.out.next (hO2.step b2x s2x hG3).1 hO3 (by have := hl'.out; omega)
              have HO2x := mkHid hO2
              have HbX2 := mkHid b2x
              clear hO2 hG2 b2x HV2 HO2 HbV2 HR2 hS' q0 q1 q2 hn2 hpk
              have hkl : ¬ (S.length : Int) < (k : Int) := by omega
              refine mkHid ?_
              by_cases hck : c = k
              · go_wp2_with (at_builtin; go_must (refine wp_appM (w := X2) rfl _ _ rfl wq.heap.size v2 ([] ++ S.take k ++ [t]) rfl HO2x.out (S.drop k) _ _ _ rfl (by rw [List.length_drop]) (hQ3.out.drops HbX2.out k hk _ (Or.inr (by omega))) (by simp; omega) s2x ?_; intro v3 X3 hO3 hG3; obtain ⟨g', c', rfl, hN⟩ := Hfin.out v3 X3 hO3 hG3; have HN := mkHid hN; clear hN hO3 hG3; refine Hid.out ?_))
                have hl2 := hl'.out
                replace hl2 : S'.length ≤ i + 1 := by omega
                refine mkHid ?_
                go_wp2
                refine ⟨⟨i + 1, g', c', S', by omega, by go_num, rfl, hl2, hs', HN⟩, by simp [Lib.intOf]; omega⟩
              · go_wp2_with (at_builtin; go_must (refine wp_appM (w := X2) rfl _ _ rfl wq.heap.size v2 ([] ++ S.take k ++ [t]) rfl HO2x.out (S.drop k) _ _ _ rfl (by rw [List.length_drop]) (hQ3.out.drops HbX2.out k hk _ (Or.inl rfl)) (by simp; omega) s2x ?_; intro v3 X3 hO3 hG3; obtain ⟨g', c', rfl, hN⟩ := Hfin.out v3 X3 hO3 hG3; have HN := mkHid hN; clear hN hO3 hG3; refine Hid.out ?_))
                have hl2 := hl'.out
                replace hl2 : S'.length ≤ i + 1 := by omega
                refine mkHid ?_
                go_wp2
                refine ⟨⟨i + 1, g', c', S', by omega, by go_num, rfl, hl2, hs', HN⟩, by simp [Lib.intOf]; omega⟩
      · have hn2 : Hid (S = Ho.sorted (fun m => namedB m.domain d) (T.take (i + 1))) := by show _ = _; rw [hnx.out, namedB_size hsz]; rfl
        clear hnx cS
        go_wp2
        refine ⟨⟨i + 1, g, c, S, by omega, by go_num, rfl, by omega, hn2, hQ⟩, by simp [Lib.intOf]; omega⟩
    · have hS2 : Hid (S = Ho.sorted (fun m => namedB m.domain d) T) := by
        show _ = _
        rw [hS.out, show i = T.length by omega, List.take_length]
      have hgl := hQ.out.lt
      have hgB : B + 1 ≤ g := hgl.2
      obtain ⟨wA, hwA⟩ : ∃ V, V = wr := ⟨_, rfl⟩
      subst hwA
      have HO0 : Hid (OwnX B (.slice (some ⟨B, 0, none⟩) 0 0) [] wA) := ⟨rfl, .inr ⟨B, 0, #[], rfl, Nat.le_refl _, (hQ.out.bel.block B (by omega)).trans Hn1.out, Nat.le_refl _, Nat.zero_le _, rfl, rfl⟩⟩
      have HbA : Hid (Below B w wA) := Hb1.out.trans (hQ.out.bel.mono (by omega))
      have HM := mkHid hQ.out.own
      have hSl : S.length ≤ 100 := by omega
      have HsB : Hid (B ≤ wA.heap.size) := by show _ ≤ _; omega
      clear hS hQ hgl Hn1 Hb1 Hc1 Hz hSi
      go_wp2
      go_loopw [5, 10] (fun ov iv wr => ∃ (j c1 : Nat) (o1 : Option Addr) (P : List ByteArray), j ≤ S.length ∧ iv = .int .i64 j ∧ ov = .slice o1 P.length c1 ∧ P.length ≤ j ∧ Hid (P = Ho.once (S.take j)) ∧ Hid (OwnX B ov P wr) ∧ Hid (OwnM (B + 1) (.slice (some ⟨g, 0, none⟩) S.length c) S wr) ∧ Hid (Below B w wr) ∧ Hid (ov.ownBlock ≠ some g) ∧ Hid (B ≤ wr.heap.size)) (fun _ iv _ => S.length - (Lib.intOf iv).toNat)
      case atStart => exact ⟨0, 0, _, [], Nat.zero_le _, rfl, rfl, Nat.le_refl _, by show _ = _; simp [Ho.once], HO0, HM, HbA, (show _ ≠ _ by simp [Value.ownBlock]; omega), HsB⟩
      case round =>
        clear HO0 HM HbA HsB
        obtain ⟨j, c1, o1, P, hj, rfl, rfl, hPj, hP, HO, HM, Hb, Hne, HsB⟩ := hrel
        by_cases hjl : j < S.length
        · have x2 : wr.cell? ⟨g, j * 3 + 2, none⟩ = some (.string S[j].host) := HM.out.cells _ _ (by rw [mxCells_at S j 2 hjl (by decide)]; rfl)
          have hnx : Hid (Ho.once (S.take (j + 1)) = if Ex.isIn P S[j].host then P else P ++ [S[j].host]) := by
            show _ = _
            rw [hP.out, ← List.take_append_getElem hjl]
            unfold Ho.once
            rw [List.foldl_append]
            rfl
          generalize S[j].host = x at x2 hnx
          have cI := mkHid (specIn o1 P c1 B wr.heap.size x wr HO.out.txL (by omega))
          clear hP
          cases hb : Ex.isIn P x with
          | true =>
            have hn2 : Hid (P = Ho.once (S.take (j + 1))) := by show _ = _; rw [hnx.out, if_pos hb]
            rw [hb] at cI
            clear hb hnx
            go_wp2_with fail
            refine cI.out.mono ?_
            rintro e w9 ⟨rfl, rfl⟩
            clear cI
            go_wp2
            refine ⟨⟨j + 1, c1, o1, P, by omega, by go_num, rfl, by omega, hn2, HO, HM, Hb, Hne, HsB⟩, by simp [Lib.intOf]; omega⟩
          | false =>
            have hn2 : Hid (P ++ [x] = Ho.once (S.take (j + 1))) := by show _ = _; rw [hnx.out, if_neg (by rw [hb]; decide)]
            rw [hb] at cI
            clear hb hnx
            go_wp2_with fail
            refine cI.out.mono ?_
            rintro e w9 ⟨rfl, rfl⟩
            clear cI
            go_wp2_with (at_builtin; go_must (refine wp_appXat (w := wr) rfl _ _ rfl B (.slice o1 P.length c1) P rfl HO.out x 1 rfl (by omega) HsB.out ?_; intro v' w' hO' hG' hat; refine Hid.out ?_))
            have hgw : g < wr.heap.size := (World.ownsRow.lt HM.out g rfl).2
            have hbA2 : Below B w (wr.alloc (.cells #[.string x] 9)) := Hb.out.alloc HsB.out _
            have hsA2 : B ≤ (wr.alloc (.cells #[.string x] 9)).heap.size := by have := HsB.out; simp; omega
            have hO2 : OwnX B (.slice o1 P.length c1) P (wr.alloc (.cells #[.string x] 9)) := World.ownsRow.alloc HO.out _
            have Hb2 : Hid (Below B w w') := hbA2.grown hG' hsA2 (fun j hj => (World.ownsRow.lt hO2 j hj).1)
            have HM2 : Hid (OwnM (B + 1) (.slice (some ⟨g, 0, none⟩) S.length c) S w') := World.ownsRow.kept (World.ownsRow.alloc HM.out _) hG' (.inr (fun e => Hne.out e.symm))
            have HsB2 : Hid (B ≤ w'.heap.size) := Nat.le_trans hsA2 hG'.size
            have Hne2 : Hid (v'.ownBlock ≠ some g) := by
              show _ ≠ _
              rcases hat with h | h
              · rw [h]; exact Hne.out
              · rw [h]; intro e; have := Option.some.inj e; simp at this; omega
            obtain ⟨o2, c2, rfl⟩ := hO'.shape
            have HO2 := mkHid hO'
            have hPl : (P ++ [x]).length ≤ j + 1 := by simp; omega
            clear hO' hG' hat hbA2 hsA2 hO2 HO HM Hb Hne HsB x2
            generalize P ++ [x] = P2 at *
            refine mkHid ?_
            go_wp2
            refine ⟨⟨j + 1, c2, o2, P2, by omega, by go_num, rfl, by omega, hn2, HO2, HM2, Hb2, Hne2, HsB2⟩, by simp [Lib.intOf]; omega⟩
        · have hP2 : Hid (P = Ho.once (Ho.sorted (fun m => namedB m.domain d) T)) := by
            show _ = _
            rw [hP.out, show j = S.length by omega, List.take_length, hS2.out]
          clear hP
          by_cases hS0 : S.length = 0
          · have hPe : P = [] := List.eq_nil_of_length_eq_zero (by omega)
            have hans : Hid (P ++ [d] = Ho.hosts (fun m => namedB m.domain d) T d) := by
              show _ = _
              unfold Ho.hosts
              rw [← hP2.out, hPe]
              rfl
            have hS0i : ((S.length : Int) == 0) = true := by rw [hS0]; rfl
            have hPl : P.length ≤ 100 := by omega
            clear hPe hS0 hP2 hS2
            go_wp2_with (at_builtin; go_must (refine wp_appXat (w := wr) rfl _ _ rfl B (.slice o1 P.length c1) P rfl HO.out d 1 rfl (by omega) HsB.out ?_; intro v' w' hO' hG' hat; refine Hid.out ?_))
            have hbA2 : Below B w (wr.alloc (.cells #[.string d] 9)) := Hb.out.alloc HsB.out _
            have hsA2 : B ≤ (wr.alloc (.cells #[.string d] 9)).heap.size := by have := HsB.out; simp; omega
            have hO2 : OwnX B (.slice o1 P.length c1) P (wr.alloc (.cells #[.string d] 9)) := World.ownsRow.alloc HO.out _
            have Hb2 : Hid (Below B w w') := hbA2.grown hG' hsA2 (fun j hj => (World.ownsRow.lt hO2 j hj).1)
            have HO2 := mkHid hO'
            clear hO' hG' hat hbA2 hsA2 hO2 HO HM Hb Hne HsB
            refine mkHid ?_
            go_wp2
            go_ret
            refine ⟨_, rfl, ?_, ?_⟩
            · rw [HB.out, ← hans.out]; exact HO2.out
            · rw [HB.out]; exact Hb2.out
          · have hans : Hid (P = Ho.hosts (fun m => namedB m.domain d) T d) := by
              show _ = _
              unfold Ho.hosts
              rw [← hP2.out, if_neg]
              rw [hP2.out, Ho.once_nil, ← hS2.out]
              intro e
              rw [e] at hS0
              exact hS0 rfl
            have hS0i : ¬ (S.length : Int) = 0 := by omega
            have hS0b : ((S.length : Int) == 0) = false := beq_eq_false_iff_ne.2 hS0i
            clear hS0 hP2 hS2
            go_wp2
            go_ret
            refine ⟨_, rfl, ?_, ?_⟩
            · rw [HB.out, ← hans.out]; exact HO.out
            · rw [HB.out]; exact Hb.out
  all_goals skip
end Go.Proofs.YtdjghniinnfncaaGreatDoor
