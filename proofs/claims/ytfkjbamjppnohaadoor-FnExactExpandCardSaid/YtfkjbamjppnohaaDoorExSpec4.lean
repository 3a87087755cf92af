
/- The specification's Expand. -/
import Derived.Test.YtfkjbamjppnohaaDoorExSpec3
import Derived.Test.YtfkjbamjppnohaaDoorExImpl
namespace Go.Proofs.YtfkjbamjppnohaaDoor
open Go.RowKit Go.Lib Go.Maps
set_option maxHeartbeats 8000000 in
set_option maxRecDepth 40000 in
theorem specExpandW (oa : Option Addr) (A : List GAlias) (ca lo : Nat) (o : Option Addr) (K : List ByteArray) (cap lo2 hi2 : Nat) (w : World) (hF : GAliassL lo w.heap.size w oa A) (hA : A.length ≤ 100) (hT : TextsOk A) (hK : TxL lo2 hi2 w o K) (hhi2 : hi2 ≤ w.heap.size) (hKl : K.length ≤ 1048576) (hKs : ∀ t ∈ K, t.size ≤ 1048576) :
    Calls Tryd.prog 16 #[.slice oa A.length ca, .slice o K.length cap] w fun e w' => Hid (∃ (oo : Option Addr) (P : List ByteArray) (cc : Nat), e = .returned (.agg #[.int .i64 (Ex.run A K).2, .slice oo P.length cc]) ∧ P = (if (Ex.run A K).2 = 0 then (Ex.run A K).1.out else []) ∧ P.length ≤ 200 ∧ OwnX w.heap.size (.slice oo P.length cc) P w' ∧ Below w.heap.size w w') := by
  obtain ⟨W, hW⟩ : ∃ W, W = (w.alloc (.cells #[.int .i64 0, .slice none 0 0] 26)).alloc (.cells #[.slice oa A.length ca, .slice none 0 0, .slice none 0 0, .slice none 0 0, .int .i64 0] 60) := ⟨_, rfl⟩
  have a1 : Below w.heap.size w (w.alloc (.cells #[.int .i64 0, .slice none 0 0] 26)) := (Below.refl _ _).alloc (Nat.le_refl _) _
  have hbW : Below w.heap.size w W := by rw [hW]; exact a1.alloc a1.size _
  have hWs : W.heap.size = w.heap.size + 2 := by rw [hW]; simp
  have hr0 : W.heap[w.heap.size]? = some (.cells #[.int .i64 0, .slice none 0 0] 26 (0, 0)) := by rw [hW, heap_alloc_old _ _ _ (by simp)]; exact heap_alloc_at _ _
  have hr1 : W.heap[w.heap.size + 1]? = some (.cells #[.slice oa A.length ca, .slice none 0 0, .slice none 0 0, .slice none 0 0, .int .i64 0] 60 (0, 0)) := by
    have := heap_alloc_at (w.alloc (.cells #[.int .i64 0, .slice none 0 0] 26)) (.cells #[.slice oa A.length ca, .slice none 0 0, .slice none 0 0, .slice none 0 0, .int .i64 0] 60)
    rw [hW]
    simpa using this
  have hap : Apart (.slice none 0 0) (.slice none 0 0) := fun k hk => by simp [Value.ownBlock] at hk
  have hS : Sp (w.heap.size + 1) lo w.heap.size oa ca A [] ⟨[], []⟩ 0 W := ⟨⟨none, 0, none, 0, none, 0, hr1, OwnX.nil _ _, OwnX.nil _ _, OwnX.nil _ _, hap, hap, hap⟩, hF.below hbW (Nat.le_refl _)⟩
  have hgo := mkHid (specGo (w.heap.size + 1) lo w.heap.size oa ca A (by omega) hA hT 20)
  have HK := mkHid (hK.below hbW hhi2)
  have HKs := mkHid hKs
  have HbW := mkHid hbW
  have HW := mkHid hW.symm
  have Hr0 := mkHid hr0
  have HS := mkHid hS
  obtain ⟨L, hL⟩ : ∃ L, Ex.run A K = L := ⟨_, rfl⟩
  rw [hL]
  have HL : Hid (Ex.all (Ex.go A 20 []) ⟨[], []⟩ (K.drop 0) = L) := hL
  obtain ⟨cd, hcd⟩ : ∃ cd, L.2 = cd := ⟨_, rfl⟩
  obtain ⟨P0, hP0⟩ : ∃ P0, (if L.2 = 0 then L.1.out else []) = P0 := ⟨_, rfl⟩
  rw [hP0, hcd]
  rw [hcd] at hP0
  replace hcd := mkHid hcd
  replace hP0 := mkHid hP0
  clear hF hK hKs hW a1 hbW hr0 hr1 hap hS hL
  go_enter Tryd.func16, Tryd.ntmps16
  go_wp2
  rw [HW.out]
  go_loopw [6] (fun iv wr => ∃ (j : Nat) (s' : Ex.St) (c : Int), j ≤ K.length ∧ iv = .int .i64 j ∧ Hid (Sp (w.heap.size + 1) lo w.heap.size oa ca A [] s' c wr) ∧ Hid (Ex.Inv A [] s') ∧ Hid ((c = 0 → s'.out.length ≤ 200 ∧ Ex.all (Ex.go A 20 []) s' (K.drop j) = L) ∧ (c ≠ 0 → L.2 = c)) ∧ Hid (Below (w.heap.size + 1) W wr)) (fun iv _ => K.length - (Lib.intOf iv).toNat)
  case atStart => exact ⟨0, ⟨[], []⟩, 0, Nat.zero_le _, rfl, HS, Ex.start_inv A, ⟨fun _ => ⟨by simp, HL.out⟩, fun e => absurd rfl e⟩, Below.refl _ _⟩
  case round =>
    clear HS HL HW
    obtain ⟨j, s', c, hj, rfl, hS, hInv', hRel, hB⟩ := hrel
    obtain ⟨e1, j1, e2, j2, e3, j3, y0, y1, -⟩ := hS.out.blk
    obtain ⟨z0, z1, z2, z3, z4⟩ := cells5 y0
    by_cases hlt : j < K.length
    · obtain ⟨b, rfl, hb1, hb2, ck⟩ := (HK.out.below hB.out (by omega)) j hlt
      have hxs := HKs.out _ (List.getElem_mem hlt)
      by_cases hc : c = 0
      · obtain ⟨hf2, hal2⟩ := hRel.out.1 hc
        subst hc
        have cI := mkHid (hgo.out [] s' K[j] wr rfl hS.out hInv'.out hf2 hxs)
        have hgi := mkHid (Ex.go_inv A 20 [] s' K[j] hInv'.out hf2)
        rw [List.drop_eq_getElem_cons hlt, Ex.all_step] at hal2
        have Hal2 := mkHid hal2
        clear hal2 hRel hS hInv' y0 y1
        generalize K[j] = x at *
        generalize Ex.go A 20 [] s' x = q at *
        go_wp2_with fail
        refine cI.out.mono ?_
        rintro e w4 ⟨rfl, hA4, hB4⟩
        obtain ⟨s4, hS4, hI4, hE4⟩ := hA4.out.ex
        have hB5 := mkHid (hB.out.trans hB4.out)
        have HS4 := mkHid hS4
        have HI4 := mkHid hI4
        have hrel4 : Hid ((q.2 = 0 → s4.out.length ≤ 200 ∧ Ex.all (Ex.go A 20 []) s4 (K.drop (j + 1)) = L) ∧ (q.2 ≠ 0 → L.2 = q.2)) := ⟨fun e => by
          rw [hE4 e]
          refine ⟨hgi.out.2, ?_⟩
          rw [← Hal2.out, if_pos e], fun e => by rw [← Hal2.out, if_neg e]⟩
        clear cI hA4 hB4 hS4 hI4 hE4 hB Hal2 hgi ck z0 z1 z2 z3 z4
        go_wp2
        go_roundw
        case rel => exact ⟨j + 1, s4, q.2, by omega, by go_num, HS4, HI4, hrel4, hB5⟩
        case measure => simp [Lib.intOf]; omega
      · have cI := mkHid (specStill (w.heap.size + 1) lo w.heap.size oa ca A [] s' c K[j] wr hS.out hc)
        have hrel4 : Hid ((c = 0 → s'.out.length ≤ 200 ∧ Ex.all (Ex.go A 20 []) s' (K.drop (j + 1)) = L) ∧ (c ≠ 0 → L.2 = c)) := ⟨fun e => absurd e hc, hRel.out.2⟩
        clear hRel y0 y1
        generalize K[j] = x at *
        go_wp2_with fail
        refine cI.out.mono ?_
        rintro e w4 ⟨rfl, rfl⟩
        clear cI
        go_wp2
        go_roundw
        case rel => exact ⟨j + 1, s', c, by omega, by go_num, hS, hInv', hrel4, hB⟩
        case measure => simp [Lib.intOf]; omega
    · have hend : (c = 0 → s' = L.1) ∧ L.2 = c := by
        by_cases hc : c = 0
        · obtain ⟨-, hal2⟩ := hRel.out.1 hc
          rw [List.drop_eq_nil_of_le (by omega)] at hal2
          rw [← hal2]
          exact ⟨fun _ => rfl, hc.symm⟩
        · exact ⟨fun e => absurd e hc, hRel.out.2 hc⟩
      have hrW := (hB.out.block w.heap.size (Nat.lt_succ_self _)).trans Hr0.out
      have hBw := mkHid (HbW.out.trans (hB.out.mono (Nat.le_succ _)))
      have hfew : c = 0 → s'.out.length ≤ 200 := fun e => (hRel.out.1 e).1
      have hown := mkHid (y1.base (show w.heap.size + 1 ≤ w.heap.size + 1 + 1 by omega))
      have Hend : Hid (cd = c ∧ (c = 0 → P0 = s'.out) ∧ (c ≠ 0 → P0 = [])) := by
        have e1 := hcd.out.symm.trans hend.2
        refine ⟨e1, fun e => ?_, fun e => ?_⟩
        · rw [← hP0.out, e1, if_pos e, hend.1 e]
        · rw [← hP0.out, e1, if_neg e]
      clear hend hRel hS hInv' y0 y1 hB Hr0 HbW hcd hP0
      obtain ⟨rfl, hP1, hP2⟩ := Hend.out
      clear Hend
      by_cases hc : cd = 0
      · have hf2 := hfew hc
        obtain rfl := hP1 hc
        subst hc
        clear hP1 hP2 hfew
        have hset := mkHid (fun (v : World) (row : Array Value) => grown_setRow v w.heap.size row)
        go_wp2_with (first | (refine wpL_store_row rfl 26 _ _ rfl w.heap.size #[.int .i64 0, .slice e1 s'.out.length j1] rfl rfl 26 _ hrW (by kernel_rfl) rfl (by simp [Value.oneCell']) ?_) | go_in)
        refine bodyPost_ret (v := .agg #[.int .i64 0, .slice e1 s'.out.length j1]) (results_cell_row Tryd.results16 _ _ w.heap.size 26 _ (0, 0) _ rfl (setRow_heap _ _ _ _ _ _ hrW) Tryd.underlying26 rfl (by kernel_rfl)) rfl ?_
        exact mkHid ⟨e1, s'.out, j1, rfl, rfl, hf2, (hown.out.keep (hset.out _ _) (own_ne hown.out (by omega))).base (by omega), hBw.out.grown (hset.out _ _) hBw.out.size (fun j hj => by cases hj; exact Nat.le_refl _)⟩
      · have bc : (cd != 0) = true := by simp [hc]
        obtain rfl := hP2 hc
        clear hP1 hP2 hfew hown
        go_wp2_with (first | (refine wpL_store_row rfl 26 _ _ rfl w.heap.size #[.int .i64 cd, .slice none 0 0] rfl rfl 26 _ hrW (by kernel_rfl) rfl (by simp [Value.oneCell']) ?_) | go_in)
        refine bodyPost_ret (v := .agg #[.int .i64 cd, .slice none 0 0]) (results_cell_row Tryd.results16 _ _ w.heap.size 26 _ (0, 0) _ rfl (setRow_heap _ _ _ _ _ _ hrW) Tryd.underlying26 rfl (by kernel_rfl)) rfl ?_
        exact mkHid ⟨none, [], 0, rfl, rfl, by simp, OwnX.nil _ _, hBw.out.grown (grown_setRow _ _ _) hBw.out.size (fun j hj => by cases hj; exact Nat.le_refl _)⟩
end Go.Proofs.YtfkjbamjppnohaaDoor
