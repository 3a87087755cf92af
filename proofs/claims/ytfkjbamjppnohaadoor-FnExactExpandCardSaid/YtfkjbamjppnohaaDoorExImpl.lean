
/- The program's Expand. -/
import Derived.Test.YtfkjbamjppnohaaDoorExFollow
import Derived.Test.YtfkjbamjppnohaaDoorImplQueue1
namespace Go.Proofs.YtfkjbamjppnohaaDoor
open Go.RowKit Go.Lib Go.Maps
theorem OwnX.base {B B' : Nat} {v : Value} {F : List ByteArray} {w : World} (h : OwnX B v F w) (hB : B' ≤ B) : OwnX B' v F w := by
  obtain ⟨h1, h2⟩ := h
  refine ⟨h1, ?_⟩
  rcases h2 with h2 | ⟨k, cap, cur, e, hk, r⟩
  · exact .inl h2
  · exact .inr ⟨k, cap, cur, e, Nat.le_trans hB hk, r⟩
theorem make_set (w : World) : (Instr.makeMap 70 none).run Tryd.prog w = .ok (.map (some w.heap.size)) (w.alloc (.map #[] 0)) := by first | kernel_rfl | rfl
def Ex.run (A : List GAlias) (K : List ByteArray) : Ex.St × Int := Ex.all (Ex.go A 20 []) ⟨[], []⟩ K
theorem Ex.start_inv (A : List GAlias) : Ex.Inv A [] ⟨[], []⟩ := ⟨List.nodup_nil, fun k hk => by simp at hk, by simp⟩
set_option maxHeartbeats 4000000 in
set_option maxRecDepth 20000 in
theorem implExpandB (lo hi b0 n0 : Nat) (A : List GAlias) (o : Option Addr) (K : List ByteArray) (cap lo2 hi2 : Nat) (w : World) (hBk : Book lo hi w b0 n0 A) (hhi : hi ≤ b0) (hA : A.length ≤ 100) (hT : TextsOk A) (hK : TxL lo2 hi2 w o K) (hhi2 : hi2 ≤ w.heap.size) (hKl : K.length ≤ 1048576) (hKs : ∀ t ∈ K, t.size ≤ 1048576) :
    Calls Tryd.prog 21 #[.map (some b0), .slice o K.length cap] w fun e w' => Hid (∃ (oo : Option Addr) (P : List ByteArray) (cc : Nat), e = .returned (.tuple #[.slice oo P.length cc, .int .i64 (Ex.run A K).2]) ∧ P = (if (Ex.run A K).2 = 0 then (Ex.run A K).1.out else []) ∧ P.length ≤ 200 ∧ OwnX w.heap.size (.slice oo P.length cc) P w' ∧ Below w.heap.size w w') := by
  have hb0 := hBk.lt
  obtain ⟨p, hp⟩ : ∃ p : Pl5, p = ⟨lo, hi, b0, w.heap.size, w.heap.size + 1, w.heap.size + 2, w.heap.size + 3, n0⟩ := ⟨_, rfl⟩
  have hpo : p.ok := by rw [hp]; exact ⟨hhi, hb0, Nat.lt_succ_self _, Nat.lt_succ_self _, Nat.lt_succ_self _⟩
  obtain ⟨W, hW⟩ : ∃ W, W = (((w.alloc (.map #[] 0)).alloc (.map #[] 0)).alloc (.map #[] 0)).alloc (.cells #[.map (some b0), .map (some w.heap.size), .map (some (w.heap.size + 1)), .map (some (w.heap.size + 2)), .slice none 0 0] 72) := ⟨_, rfl⟩
  have a1 : Below w.heap.size w (w.alloc (.map #[] 0)) := (Below.refl _ _).alloc (Nat.le_refl _) _
  have a2 := a1.alloc a1.size (.map #[] 0)
  have a3 := a2.alloc a2.size (.map #[] 0)
  have hbW : Below w.heap.size w W := by rw [hW]; exact a3.alloc a3.size _
  have gA : ∀ (v : World) (ob : Obj), Below v.heap.size v (v.alloc ob) := fun v ob => (Below.refl _ _).alloc (Nat.le_refl _) _
  have e1 : (w.alloc (.map #[] 0)).heap.size = w.heap.size + 1 := by simp
  have e2 : ((w.alloc (.map #[] 0)).alloc (.map #[] 0)).heap.size = w.heap.size + 2 := by simp
  have e3 : (((w.alloc (.map #[] 0)).alloc (.map #[] 0)).alloc (.map #[] 0)).heap.size = w.heap.size + 3 := by simp
  have hE : Ep p A [] ⟨[], []⟩ W := by
    rw [hp]
    refine ⟨⟨none, 0, ?_, OwnX.nil _ _⟩, hBk.kept (gr_of_below hbW) (by simp) (Same.of_below hbW (by omega)), ?_, ?_, ?_⟩
    · have := heap_alloc_at (((w.alloc (.map #[] 0)).alloc (.map #[] 0)).alloc (.map #[] 0)) (.cells #[.map (some b0), .map (some w.heap.size), .map (some (w.heap.size + 1)), .map (some (w.heap.size + 2)), .slice none 0 0] 72)
      rw [e3] at this
      rw [hW]
      exact this
    · rw [hW]
      exact (((SetT.made w).below (gA _ _)).below (gA _ _)).below (gA _ _)
    · have := SetT.made (w.alloc (.map #[] 0))
      rw [e1] at this
      rw [hW]
      exact (this.below (gA _ _)).below (gA _ _)
    · have := SetT.made ((w.alloc (.map #[] 0)).alloc (.map #[] 0))
      rw [e2] at this
      rw [hW]
      exact this.below (gA _ _)
  have cF := mkHid (implFollowAll p A 20 (implFollow p A hpo hA hT 20) [] ⟨[], []⟩ o K cap lo2 hi2 W rfl hE (Ex.start_inv A) (by simp) (hK.below hbW hhi2) (by rw [hp]; exact hhi2) hKl hKs)
  have hfew := (Ex.all_inv A [] _ (fun s' k' => Ex.go_inv A 20 [] s' k') K ⟨[], []⟩ (Ex.start_inv A) (by simp)).2
  rw [show Ex.all (Ex.go A 20 []) ⟨[], []⟩ K = Ex.run A K from rfl] at cF hfew
  rw [show p.g = w.heap.size + 3 by rw [hp]] at cF
  have hpg : p.g = w.heap.size + 3 := by rw [hp]
  have hpb : p.b1 = w.heap.size := by rw [hp]
  have hm := mkHid make_set
  have HW := mkHid hW.symm
  have HbW := mkHid hbW
  generalize Ex.run A K = r at *
  clear a1 a2 a3 hW hbW hE hp gA hBk hK
  have hm1 := hm.out w
  have hm2 := hm.out (w.alloc (.map #[] 0))
  have hm3 := hm.out ((w.alloc (.map #[] 0)).alloc (.map #[] 0))
  rw [e1] at hm2
  rw [e2] at hm3
  go_enter Tryd.func21, Tryd.ntmps21
  go_wp2_with fail
  rw [HW.out]
  refine cF.out.mono ?_
  rintro e w1 ⟨rfl, hE1, hB1⟩
  have hB2 := mkHid (HbW.out.trans (by rw [← hpb]; exact hB1.out))
  obtain ⟨o1, c1, q1, q2⟩ := hE1.out.blk
  obtain ⟨-, -, -, -, k4⟩ := cells5 q1
  rw [hpg] at k4
  have hown := mkHid (q2.base (show w.heap.size ≤ p.g + 1 by omega))
  clear cF hE1 hB1 q1 q2 HW HbW hm hm1 hm2 hm3
  by_cases hr : r.2 = 0
  · have b0 : (r.2 != 0) = false := by rw [hr]; rfl
    go_wp2
    go_ret2
    refine mkHid ⟨o1, r.1.out, c1, by first | rfl | rw [hr], by first | rfl | rw [if_pos hr], hfew, hown.out, hB2.out⟩
  · have b0 : (r.2 != 0) = true := by simp [hr]
    go_wp2
    go_ret2
    refine mkHid ⟨none, [], 0, rfl, by first | rfl | rw [if_neg hr], by simp, OwnX.nil _ _, hB2.out⟩
/-- The code, and what an address stands for. -/
def Ex.ans (A : List GAlias) (k : ByteArray) : Int × List ByteArray := if Ky.asok A && Ky.ok k then ((Ex.run A [k]).2, if (Ex.run A [k]).2 = 0 then (Ex.run A [k]).1.out else []) else (1, [])
theorem asok_few {A : List GAlias} (h : Ky.asok A = true) : A.length ≤ 100 := by
  unfold Ky.asok at h
  rw [Bool.and_eq_true, decide_eq_true_eq] at h
  exact h.1
set_option maxHeartbeats 4000000 in
set_option maxRecDepth 20000 in
theorem implExpand (o : Option Addr) (A : List GAlias) (cap lo : Nat) (k : ByteArray) (mx : Int) (w : World) (hF : GAliassL lo w.heap.size w o A) (hl : A.length ≤ 1048576) (hsz : ∀ t ∈ A, t.fits 1048576) (hk1 : k.size ≤ 1048576) (hm : w.cell? ⟨0, 0, none⟩ = some (.int .i64 mx)) :
    Calls Tryd.prog 7 #[.slice o A.length cap, .string k] w fun e w' => Hid (∃ (oo : Option Addr) (cc : Nat), e = .returned (.agg #[.int .i64 (Ex.ans A k).1, .slice oo (Ex.ans A k).2.length cc]) ∧ (Ex.ans A k).2.length ≤ 200 ∧ OwnX w.heap.size (.slice oo (Ex.ans A k).2.length cc) (Ex.ans A k).2 w' ∧ Below w.heap.size w w') := by
  have hlt := bcell_lt hm
  obtain ⟨V, hV⟩ : ∃ V, V = w.alloc (.cells #[.int .i64 0, .slice none 0 0] 26) := ⟨_, rfl⟩
  have hbV : Below w.heap.size w V := by rw [hV]; exact (Below.refl _ _).alloc (Nat.le_refl _) _
  have hVs : V.heap.size = w.heap.size + 1 := by rw [hV]; simp
  have hrV : V.heap[w.heap.size]? = some (.cells #[.int .i64 0, .slice none 0 0] 26 (0, 0)) := by rw [hV]; exact heap_alloc_at _ _
  have cA := mkHid (implAreAliases o A cap lo mx V ((hF.below hbV (Nat.le_refl _)).mono (Nat.le_refl _) hbV.size) hl hsz ((hbV.cell hlt).trans hm))
  have cK := mkHid (fun (W : World) (hb : Below w.heap.size w W) => implIsKey k mx W hk1 ((hb.cell hlt).trans hm))
  have HV := mkHid hV.symm
  have HF := mkHid hF
  have Hsz := mkHid hsz
  have HbV := mkHid hbV
  obtain ⟨R, hR⟩ : ∃ R, Ex.ans A k = R := ⟨_, rfl⟩
  rw [hR]
  unfold Ex.ans at hR
  clear hV hF hsz hbV hm
  cases x1 : Ky.asok A
  · rw [x1] at cA hR
    have HR : Hid ((1, []) = R) := show _ = _ from by rw [← hR]; rfl
    clear hR x1
    go_enter Tryd.func7, Tryd.ntmps7
    go_wp2_with fail
    rw [HV.out]
    refine cA.out.mono ?_
    rintro e w1 ⟨rfl, hb1⟩
    have hr1 := (hb1.block w.heap.size (show w.heap.size < V.heap.size by omega)).trans hrV
    have hB1 := mkHid (HbV.out.trans (hb1.mono HbV.out.size))
    clear cA hb1 cK
    go_wp2_with (first | (refine wpL_store_row rfl 26 _ _ rfl w.heap.size #[.int .i64 1, .slice none 0 0] rfl rfl 26 _ hr1 (by kernel_rfl) rfl (by simp [Value.oneCell']) ?_) | go_in)
    refine bodyPost_ret (v := .agg #[.int .i64 1, .slice none 0 0]) (results_cell_row Tryd.results7 _ _ w.heap.size 26 _ (0, 0) _ rfl (setRow_heap _ _ _ _ _ _ hr1) Tryd.underlying26 rfl (by kernel_rfl)) rfl ?_
    rw [← HR.out]
    exact mkHid ⟨none, 0, rfl, by simp, OwnX.nil _ _, hB1.out.grown (grown_setRow _ _ _) hB1.out.size (fun j hj => by cases hj; exact Nat.le_refl _)⟩
  · rw [x1] at cA hR
    cases x2 : Ky.ok k
    · rw [x2] at cK hR
      have HR : Hid ((1, []) = R) := show _ = _ from by rw [← hR]; rfl
      clear hR x1 x2
      go_enter Tryd.func7, Tryd.ntmps7
      go_wp2_with fail
      rw [HV.out]
      refine cA.out.mono ?_
      rintro e w1 ⟨rfl, hb1⟩
      have hr1 := (hb1.block w.heap.size (show w.heap.size < V.heap.size by omega)).trans hrV
      have hB1 := mkHid (HbV.out.trans (hb1.mono HbV.out.size))
      have hl1 : w.heap.size < w1.heap.size := heap_lt hr1
      clear cA hb1
      go_wp2_with fail
      refine (cK.out w1 hB1.out).mono ?_
      rintro e w2 ⟨rfl, hb2⟩
      have hr2 := (hb2.block w.heap.size hl1).trans hr1
      have hB2 := mkHid (hB1.out.trans (hb2.mono hB1.out.size))
      clear cK hb2 hB1 hr1
      go_wp2_with (first | (refine wpL_store_row rfl 26 _ _ rfl w.heap.size #[.int .i64 1, .slice none 0 0] rfl rfl 26 _ hr2 (by kernel_rfl) rfl (by simp [Value.oneCell']) ?_) | go_in)
      refine bodyPost_ret (v := .agg #[.int .i64 1, .slice none 0 0]) (results_cell_row Tryd.results7 _ _ w.heap.size 26 _ (0, 0) _ rfl (setRow_heap _ _ _ _ _ _ hr2) Tryd.underlying26 rfl (by kernel_rfl)) rfl ?_
      rw [← HR.out]
      exact mkHid ⟨none, 0, rfl, by simp, OwnX.nil _ _, hB2.out.grown (grown_setRow _ _ _) hB2.out.size (fun j hj => by cases hj; exact Nat.le_refl _)⟩
    · rw [x2] at cK hR
      have hA := asok_few x1
      have hT : TextsOk A := fun al hal => by
        obtain ⟨f1, f2, f3⟩ := Hsz.out al hal
        exact ⟨f1, f2, f3⟩
      have HR : Hid (((Ex.run A [k]).2, if (Ex.run A [k]).2 = 0 then (Ex.run A [k]).1.out else []) = R) := show _ = _ from by rw [← hR]; rfl
      clear hR x1 x2
      go_enter Tryd.func7, Tryd.ntmps7
      go_wp2_with fail
      rw [HV.out]
      refine cA.out.mono ?_
      rintro e w1 ⟨rfl, hb1⟩
      have hr1 := (hb1.block w.heap.size (show w.heap.size < V.heap.size by omega)).trans hrV
      have hB1 := mkHid (HbV.out.trans (hb1.mono HbV.out.size))
      have hl1 : w.heap.size < w1.heap.size := heap_lt hr1
      clear cA hb1
      go_wp2_with fail
      refine (cK.out w1 hB1.out).mono ?_
      rintro e w2 ⟨rfl, hb2⟩
      have hr2 := (hb2.block w.heap.size hl1).trans hr1
      have hB2 := mkHid (hB1.out.trans (hb2.mono hB1.out.size))
      have hl2 : w.heap.size < w2.heap.size := heap_lt hr2
      have cB := mkHid (implBookOf o A cap lo w2 ((HF.out.below hB2.out (Nat.le_refl _)).mono (Nat.le_refl _) hB2.out.size) hA (fun t ht => (hT t ht).1))
      clear cK hb2 hB1 hr1
      go_wp2_with fail
      refine cB.out.mono ?_
      rintro e w3 ⟨n0, hn0, rfl, hBk, hb3⟩
      have hr3 := (hb3.block w.heap.size hl2).trans hr2
      have hB3 := mkHid (hB2.out.trans (hb3.mono hB2.out.size))
      have hl3 : w.heap.size < w3.heap.size := heap_lt hr3
      obtain ⟨Y, hY⟩ : ∃ Y, Y = w3.alloc (.cells #[.string k] 9) := ⟨_, rfl⟩
      have hbY : Below w3.heap.size w3 Y := by rw [hY]; exact (Below.refl _ _).alloc (Nat.le_refl _) _
      have hYs : Y.heap.size = w3.heap.size + 1 := by rw [hY]; simp
      have hTxY : TxL 0 Y.heap.size Y (some ⟨w3.heap.size, 0, none⟩) [k] := by
        intro i hi
        obtain rfl : i = 0 := by simpa using hi
        refine ⟨_, rfl, Nat.zero_le _, by show w3.heap.size < _; omega, ?_⟩
        rw [hY]
        simp [Addr.add]
      have hs3 := hb3.size
      have cE := mkHid (implExpandB lo w2.heap.size w2.heap.size n0 A (some ⟨w3.heap.size, 0, none⟩) [k] 1 0 Y.heap.size Y (hBk.out.kept (gr_of_below hbY) (by simp) (Same.of_below hbY hs3)) (Nat.le_refl _) hA hT hTxY (Nat.le_refl _) (by simp) (fun t ht => by simp at ht; rw [ht]; exact hk1))
      have hrY := (hbY.block w.heap.size hl3).trans hr3
      have hBY := mkHid (hB3.out.trans (hbY.mono hB3.out.size))
      have hlY : w.heap.size < Y.heap.size := heap_lt hrY
      have HY := mkHid hY.symm
      clear cB hb3 hB2 hr2 hBk hY hbY hTxY hB3 hr3
      go_wp2_with fail
      rw [HY.out]
      refine cE.out.mono ?_
      rintro e w4 hx
      obtain ⟨oo, P, cc, rfl, hP, hP2, hown, hb4⟩ := hx.out
      have hr4 := (hb4.block w.heap.size hlY).trans hrY
      have hB4 := mkHid (hBY.out.trans (hb4.mono hBY.out.size))
      have hown4 := mkHid (hown.base (show w.heap.size + 1 ≤ Y.heap.size by omega))
      have HR2 : Hid (((Ex.run A [k]).2, P) = R) := show _ = _ from by rw [hP]; exact HR.out
      clear cE hx hP hown hb4 HY hBY hrY HR
      generalize (Ex.run A [k]).2 = code at *
      go_wp2_with (first | (refine wpL_store_row rfl 26 _ _ rfl w.heap.size #[.int .i64 code, .slice oo P.length cc] rfl rfl 26 _ hr4 (by kernel_rfl) rfl (by simp [Value.oneCell']) ?_) | go_in)
      refine bodyPost_ret (v := .agg #[.int .i64 code, .slice oo P.length cc]) (results_cell_row Tryd.results7 _ _ w.heap.size 26 _ (0, 0) _ rfl (setRow_heap _ _ _ _ _ _ hr4) Tryd.underlying26 rfl (by kernel_rfl)) rfl ?_
      rw [← HR2.out]
      have hset := grown_setRow w4 w.heap.size #[.int .i64 code, .slice oo P.length cc]
      exact mkHid ⟨oo, cc, rfl, hP2, (hown4.out.keep hset (own_ne hown4.out (by omega))).base (by omega), hB4.out.grown hset hB4.out.size (fun j hj => by cases hj; exact Nat.le_refl _)⟩
end Go.Proofs.YtfkjbamjppnohaaDoor
