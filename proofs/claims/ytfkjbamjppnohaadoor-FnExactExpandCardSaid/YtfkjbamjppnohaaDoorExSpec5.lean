
/- The specification's Expand, whole. -/
import Derived.Test.YtfkjbamjppnohaaDoorExSpec4
import Derived.Test.YtfkjbamjppnohaaDoorSpecAliases
namespace Go.Proofs.YtfkjbamjppnohaaDoor
open Go.RowKit Go.Lib Go.Maps
set_option maxHeartbeats 4000000 in
set_option maxRecDepth 20000 in
theorem specExpand (o : Option Addr) (A : List GAlias) (cap lo : Nat) (k : ByteArray) (w : World) (hF : GAliassL lo w.heap.size w o A) (hl : A.length ≤ 1048576) (hsz : ∀ t ∈ A, t.fits 1048576) (hk1 : k.size ≤ 1048576) :
    Calls Tryd.prog 5 #[.slice o A.length cap, .string k] w fun e w' => Hid (∃ (oo : Option Addr) (cc : Nat), e = .returned (.agg #[.int .i64 (Ex.ans A k).1, .slice oo (Ex.ans A k).2.length cc]) ∧ (Ex.ans A k).2.length ≤ 200 ∧ OwnX w.heap.size (.slice oo (Ex.ans A k).2.length cc) (Ex.ans A k).2 w' ∧ Below w.heap.size w w') := by
  obtain ⟨V, hV⟩ : ∃ V, V = w.alloc (.cells #[.int .i64 0, .slice none 0 0] 26) := ⟨_, rfl⟩
  have hbV : Below w.heap.size w V := by rw [hV]; exact (Below.refl _ _).alloc (Nat.le_refl _) _
  have hVs : V.heap.size = w.heap.size + 1 := by rw [hV]; simp
  have hrV : V.heap[w.heap.size]? = some (.cells #[.int .i64 0, .slice none 0 0] 26 (0, 0)) := by rw [hV]; exact heap_alloc_at _ _
  have cA := mkHid (specAliases o A cap lo V ((hF.below hbV (Nat.le_refl _)).mono (Nat.le_refl _) hbV.size) hl hsz)
  have cK := mkHid (fun (W : World) => specKeyFault k W hk1)
  have HV := mkHid hV.symm
  have HF := mkHid hF
  have Hsz := mkHid hsz
  have HbV := mkHid hbV
  obtain ⟨R, hR⟩ : ∃ R, Ex.ans A k = R := ⟨_, rfl⟩
  rw [hR]
  unfold Ex.ans at hR
  clear hV hF hsz hbV
  cases x1 : Ky.asok A
  · rw [x1] at cA hR
    have HR : Hid ((1, []) = R) := show _ = _ from by rw [← hR]; rfl
    clear hR x1
    go_enter Tryd.func5, Tryd.ntmps5
    go_wp2_with fail
    rw [HV.out]
    refine cA.out.mono ?_
    rintro e w1 ⟨rfl, hb1⟩
    have hr1 := (hb1.block w.heap.size (show w.heap.size < V.heap.size by omega)).trans hrV
    have hB1 := mkHid (HbV.out.trans (hb1.mono HbV.out.size))
    clear cA hb1 cK
    go_wp2_with (first | (refine wpL_store_row rfl 26 _ _ rfl w.heap.size #[.int .i64 1, .slice none 0 0] rfl rfl 26 _ hr1 (by kernel_rfl) rfl (by simp [Value.oneCell']) ?_) | go_in)
    refine bodyPost_ret (v := .agg #[.int .i64 1, .slice none 0 0]) (results_cell_row Tryd.results5 _ _ w.heap.size 26 _ (0, 0) _ rfl (setRow_heap _ _ _ _ _ _ hr1) Tryd.underlying26 rfl (by kernel_rfl)) rfl ?_
    rw [← HR.out]
    exact mkHid ⟨none, 0, rfl, by simp, OwnX.nil _ _, hB1.out.grown (grown_setRow _ _ _) hB1.out.size (fun j hj => by cases hj; exact Nat.le_refl _)⟩
  · rw [x1] at cA hR
    cases x2 : Ky.ok k
    · rw [x2] at cK hR
      have HR : Hid ((1, []) = R) := show _ = _ from by rw [← hR]; rfl
      have hcd : dcode false = 1 := rfl
      rw [hcd] at cK
      clear hR x1 x2 hcd
      go_enter Tryd.func5, Tryd.ntmps5
      go_wp2_with fail
      rw [HV.out]
      refine cA.out.mono ?_
      rintro e w1 ⟨rfl, hb1⟩
      have hr1 := (hb1.block w.heap.size (show w.heap.size < V.heap.size by omega)).trans hrV
      have hB1 := mkHid (HbV.out.trans (hb1.mono HbV.out.size))
      have hl1 : w.heap.size < w1.heap.size := heap_lt hr1
      clear cA hb1
      go_wp2_with fail
      refine (cK.out w1).mono ?_
      rintro e w2 ⟨rfl, hb2⟩
      have hr2 := (hb2.block w.heap.size hl1).trans hr1
      have hB2 := mkHid (hB1.out.trans (hb2.mono hB1.out.size))
      clear cK hb2 hB1 hr1
      go_wp2_with (first | (refine wpL_store_row rfl 26 _ _ rfl w.heap.size #[.int .i64 1, .slice none 0 0] rfl rfl 26 _ hr2 (by kernel_rfl) rfl (by simp [Value.oneCell']) ?_) | go_in)
      refine bodyPost_ret (v := .agg #[.int .i64 1, .slice none 0 0]) (results_cell_row Tryd.results5 _ _ w.heap.size 26 _ (0, 0) _ rfl (setRow_heap _ _ _ _ _ _ hr2) Tryd.underlying26 rfl (by kernel_rfl)) rfl ?_
      rw [← HR.out]
      exact mkHid ⟨none, 0, rfl, by simp, OwnX.nil _ _, hB2.out.grown (grown_setRow _ _ _) hB2.out.size (fun j hj => by cases hj; exact Nat.le_refl _)⟩
    · rw [x2] at cK hR
      have hA := asok_few x1
      have hT : TextsOk A := fun al hal => by
        obtain ⟨f1, f2, f3⟩ := Hsz.out al hal
        exact ⟨f1, f2, f3⟩
      have HR : Hid (((Ex.run A [k]).2, if (Ex.run A [k]).2 = 0 then (Ex.run A [k]).1.out else []) = R) := show _ = _ from by rw [← hR]; rfl
      have hcd : dcode true = 0 := rfl
      rw [hcd] at cK
      clear hR x1 x2 hcd
      go_enter Tryd.func5, Tryd.ntmps5
      go_wp2_with fail
      rw [HV.out]
      refine cA.out.mono ?_
      rintro e w1 ⟨rfl, hb1⟩
      have hr1 := (hb1.block w.heap.size (show w.heap.size < V.heap.size by omega)).trans hrV
      have hB1 := mkHid (HbV.out.trans (hb1.mono HbV.out.size))
      have hl1 : w.heap.size < w1.heap.size := heap_lt hr1
      clear cA hb1
      go_wp2_with fail
      refine (cK.out w1).mono ?_
      rintro e w3 ⟨rfl, hb2⟩
      have hr3 := (hb2.block w.heap.size hl1).trans hr1
      have hB3 := mkHid (hB1.out.trans (hb2.mono hB1.out.size))
      have hl3 : w.heap.size < w3.heap.size := heap_lt hr3
      clear cK hb2 hB1 hr1
      obtain ⟨Y, hY⟩ : ∃ Y, Y = w3.alloc (.cells #[.string k] 9) := ⟨_, rfl⟩
      have hbY : Below w3.heap.size w3 Y := by rw [hY]; exact (Below.refl _ _).alloc (Nat.le_refl _) _
      have hYs : Y.heap.size = w3.heap.size + 1 := by rw [hY]; simp
      have hTxY : TxL 0 Y.heap.size Y (some ⟨w3.heap.size, 0, none⟩) [k] := by
        intro i hi
        obtain rfl : i = 0 := by simpa using hi
        refine ⟨_, rfl, Nat.zero_le _, by show w3.heap.size < _; omega, ?_⟩
        rw [hY]
        simp [Addr.add]
      have hrY := (hbY.block w.heap.size hl3).trans hr3
      have hBY := mkHid (hB3.out.trans (hbY.mono hB3.out.size))
      have hlY : w.heap.size < Y.heap.size := heap_lt hrY
      have cE := mkHid (specExpandW o A cap lo (some ⟨w3.heap.size, 0, none⟩) [k] 1 0 Y.heap.size Y ((HF.out.below hBY.out (Nat.le_refl _)).mono (Nat.le_refl _) hBY.out.size) hA hT hTxY (Nat.le_refl _) (by simp) (fun t ht => by simp at ht; rw [ht]; exact hk1))
      have HY := mkHid hY.symm
      clear hY hbY hTxY hB3 hr3
      go_wp2_with fail
      rw [HY.out]
      refine cE.out.mono ?_
      rintro e w4 hx
      obtain ⟨oo, P, cc, rfl, hP, hP2, hown, hb4⟩ := hx.out
      have hr4 := (hb4.block w.heap.size hlY).trans hrY
      have hB4 := mkHid (hBY.out.trans (hb4.mono hBY.out.size))
      have hown4 := mkHid (hown.base (show w.heap.size + 1 ≤ Y.heap.size by omega))
      have HR2 : Hid (((Ex.run A [k]).2, P) = R) := show _ = _ from by rw [hP]; exact HR.out
      clear cE hx hP hown hb4 HY hBY hrY HR
      generalize (Ex.run A [k]).2 = code at *
      go_wp2_with (first | (refine wpL_store_row rfl 26 _ _ rfl w.heap.size #[.int .i64 code, .slice oo P.length cc] rfl rfl 26 _ hr4 (by kernel_rfl) rfl (by simp [Value.oneCell']) ?_) | go_in)
      refine bodyPost_ret (v := .agg #[.int .i64 code, .slice oo P.length cc]) (results_cell_row Tryd.results5 _ _ w.heap.size 26 _ (0, 0) _ rfl (setRow_heap _ _ _ _ _ _ hr4) Tryd.underlying26 rfl (by kernel_rfl)) rfl ?_
      rw [← HR2.out]
      have hset := grown_setRow w4 w.heap.size #[.int .i64 code, .slice oo P.length cc]
      exact mkHid ⟨oo, cc, rfl, hP2, (hown4.out.keep hset (own_ne hown4.out (by omega))).base (by omega), hB4.out.grown hset hB4.out.size (fun j hj => by cases hj; exact Nat.le_refl _)⟩
end Go.Proofs.YtfkjbamjppnohaaDoor
