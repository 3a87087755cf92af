
/- The specification's Expand, whole. -/

/- The walk of the law on what an address stands for. -/

/- The walk of the law on what an address stands for: the whole. -/
import Derived.Test.YtdjghniinnfncaaGreatDoorExSpec4
import Derived.Test.YtdjghniinnfncaaGreatDoorSpecAliases
import Derived.Test.YtdjghniinnfncaaGreatDoorDrawExE
import Derived.Test.YtdjghniinnfncaaGreatDoorHoSpec2
import Derived.Test.YtdjghniinnfncaaGreatDoorExSpec2
namespace Go.Proofs.YtdjghniinnfncaaGreatDoor
open Go.RowKit Go.Lib Go.Maps
set_option maxHeartbeats 4000000 in
set_option maxRecDepth 20000 in
theorem specExpand (o : Option Addr) (A : List GAlias) (cap lo : Nat) (k : ByteArray) (w : World) (hF : GAliassL lo w.heap.size w o A) (hl : A.length ≤ 1048576) (hsz : ∀ t ∈ A, t.fits 1048576) (hk1 : k.size ≤ 1048576) :
    Calls Tryz.prog 6 #[.slice o A.length cap, .string k] w fun e w' => Hid (∃ (oo : Option Addr) (cc : Nat), e = .returned (.agg #[.int .i64 (Ex.ans A k).1, .slice oo (Ex.ans A k).2.length cc]) ∧ (Ex.ans A k).2.length ≤ 200 ∧ OwnX w.heap.size (.slice oo (Ex.ans A k).2.length cc) (Ex.ans A k).2 w' ∧ Below w.heap.size w w') := by
  obtain ⟨V, hV⟩ : ∃ V, V = w.alloc (.cells #[.int .i64 0, .slice none 0 0] 28) := ⟨_, rfl⟩
  have hbV : Below w.heap.size w V := by rw [hV]; exact (Below.refl _ _).alloc (Nat.le_refl _) _
  have hVs : V.heap.size = w.heap.size + 1 := by rw [hV]; simp
  have hrV : V.heap[w.heap.size]? = some (.cells #[.int .i64 0, .slice none 0 0] 28 (0, 0)) := by rw [hV]; exact heap_alloc_at _ _
  have cA := mkHid (specAliases o A cap lo V ((hF.below hbV (Nat.le_refl _)).mono (Nat.le_refl _) hbV.size) hl hsz)
  have cK := mkHid (fun (W : World) => specKeyFault k W hk1)
  have HV := mkHid hV.symm
  have HF := mkHid hF
  have Hsz := mkHid hsz
  have HbV := mkHid hbV
  obtain ⟨R, hR⟩ : ∃ R, Ex.ans A k = R := ⟨_, rfl⟩
  rw [hR]
  unfold Ex.ans at hR
  clear hV hF hsz hbV
  cases x1 : Ky.asok A
  · rw [x1] at cA hR
    have HR : Hid ((1, []) = R) := show _ = _ from by rw [← hR]; rfl
    clear hR x1
    go_enter Tryz.func6, Tryz.ntmps6
    go_wp2_with fail
    rw [HV.out]
    refine cA.out.mono ?_
    rintro e w1 ⟨rfl, hb1⟩
    have hr1 := (hb1.block w.heap.size (show w.heap.size < V.heap.size by omega)).trans hrV
    have hB1 := mkHid (HbV.out.trans (hb1.mono HbV.out.size))
    clear cA hb1 cK
    go_wp2_with (first | (refine wpL_store_row rfl 28 _ _ rfl w.heap.size #[.int .i64 1, .slice none 0 0] rfl rfl 28 _ hr1 (by kernel_rfl) rfl (by simp [Value.oneCell']) ?_) | go_in)
    refine bodyPost_ret (v := .agg #[.int .i64 1, .slice none 0 0]) (results_cell_row Tryz.results6 _ _ w.heap.size 28 _ (0, 0) _ rfl (setRow_heap _ _ _ _ _ _ hr1) Tryz.underlying28 rfl (by kernel_rfl)) rfl ?_
    rw [← HR.out]
    exact mkHid ⟨none, 0, rfl, by simp, OwnX.nil _ _, hB1.out.grown (grown_setRow _ _ _) hB1.out.size (fun j hj => by cases hj; exact Nat.le_refl _)⟩
  · rw [x1] at cA hR
    cases x2 : Ky.ok k
    · rw [x2] at cK hR
      have HR : Hid ((1, []) = R) := show _ = _ from by rw [← hR]; rfl
      have hcd : dcode false = 1 := rfl
      rw [hcd] at cK
      clear hR x1 x2 hcd
      go_enter Tryz.func6, Tryz.ntmps6
      go_wp2_with fail
      rw [HV.out]
      refine cA.out.mono ?_
      rintro e w1 ⟨rfl, hb1⟩
      have hr1 := (hb1.block w.heap.size (show w.heap.size < V.heap.size by omega)).trans hrV
      have hB1 := mkHid (HbV.out.trans (hb1.mono HbV.out.size))
      have hl1 : w.heap.size < w1.heap.size := heap_lt hr1
      clear cA hb1
      go_wp2_with fail
      refine (cK.out w1).mono ?_
      rintro e w2 ⟨rfl, hb2⟩
      have hr2 := (hb2.block w.heap.size hl1).trans hr1
      have hB2 := mkHid (hB1.out.trans (hb2.mono hB1.out.size))
      clear cK hb2 hB1 hr1
      go_wp2_with (first | (refine wpL_store_row rfl 28 _ _ rfl w.heap.size #[.int .i64 1, .slice none 0 0] rfl rfl 28 _ hr2 (by kernel_rfl) rfl (by simp [Value.oneCell']) ?_) | go_in)
      refine bodyPost_ret (v := .agg #[.int .i64 1, .slice none 0 0]) (results_cell_row Tryz.results6 _ _ w.heap.size 28 _ (0, 0) _ rfl (setRow_heap _ _ _ _ _ _ hr2) Tryz.underlying28 rfl (by kernel_rfl)) rfl ?_
      rw [← HR.out]
      exact mkHid ⟨none, 0, rfl, by simp, OwnX.nil _ _, hB2.out.grown (grown_setRow _ _ _) hB2.out.size (fun j hj => by cases hj; exact Nat.le_refl _)⟩
    · rw [x2] at cK hR
      have hA := asok_few x1
      have hT : TextsOk A := fun al hal => by
        obtain ⟨f1, f2, f3⟩ := Hsz.out al hal
        exact ⟨f1, f2, f3⟩
      have HR : Hid (((Ex.run A [k]).2, if (Ex.run A [k]).2 = 0 then (Ex.run A [k]).1.out else []) = R) := show _ = _ from by rw [← hR]; rfl
      have hcd : dcode true = 0 := rfl
      rw [hcd] at cK
      clear hR x1 x2 hcd
      go_enter Tryz.func6, Tryz.ntmps6
      go_wp2_with fail
      rw [HV.out]
      refine cA.out.mono ?_
      rintro e w1 ⟨rfl, hb1⟩
      have hr1 := (hb1.block w.heap.size (show w.heap.size < V.heap.size by omega)).trans hrV
      have hB1 := mkHid (HbV.out.trans (hb1.mono HbV.out.size))
      have hl1 : w.heap.size < w1.heap.size := heap_lt hr1
      clear cA hb1
      go_wp2_with fail
      refine (cK.out w1).mono ?_
      rintro e w3 ⟨rfl, hb2⟩
      have hr3 := (hb2.block w.heap.size hl1).trans hr1
      have hB3 := mkHid (hB1.out.trans (hb2.mono hB1.out.size))
      have hl3 : w.heap.size < w3.heap.size := heap_lt hr3
      clear cK hb2 hB1 hr1
      obtain ⟨Y, hY⟩ : ∃ Y, Y = w3.alloc (.cells #[.string k] 9) := ⟨_, rfl⟩
      have hbY : Below w3.heap.size w3 Y := by rw [hY]; exact (Below.refl _ _).alloc (Nat.le_refl _) _
      have hYs : Y.heap.size = w3.heap.size + 1 := by rw [hY]; simp
      have hTxY : TxL 0 Y.heap.size Y (some ⟨w3.heap.size, 0, none⟩) [k] := by
        intro i hi
        obtain rfl : i = 0 := by simpa using hi
        refine ⟨_, rfl, Nat.zero_le _, by show w3.heap.size < _; omega, ?_⟩
        rw [hY]
        simp [Addr.add]
      have hrY := (hbY.block w.heap.size hl3).trans hr3
      have hBY := mkHid (hB3.out.trans (hbY.mono hB3.out.size))
      have hlY : w.heap.size < Y.heap.size := heap_lt hrY
      have cE := mkHid (specExpandW o A cap lo (some ⟨w3.heap.size, 0, none⟩) [k] 1 0 Y.heap.size Y ((HF.out.below hBY.out (Nat.le_refl _)).mono (Nat.le_refl _) hBY.out.size) hA hT hTxY (Nat.le_refl _) (by simp) (fun t ht => by simp at ht; rw [ht]; exact hk1))
      have HY := mkHid hY.symm
      clear hY hbY hTxY hB3 hr3
      go_wp2_with fail
      rw [HY.out]
      refine cE.out.mono ?_
      rintro e w4 hx
      obtain ⟨oo, P, cc, rfl, hP, hP2, hown, hb4⟩ := hx.out
      have hr4 := (hb4.block w.heap.size hlY).trans hrY
      have hB4 := mkHid (hBY.out.trans (hb4.mono hBY.out.size))
      have hown4 := mkHid (hown.base (show w.heap.size + 1 ≤ Y.heap.size by omega))
      have HR2 : Hid (((Ex.run A [k]).2, P) = R) := show _ = _ from by rw [hP]; exact HR.out
      clear cE hx hP hown hb4 HY hBY hrY HR
      generalize (Ex.run A [k]).2 = code at *
      go_wp2_with (first | (refine wpL_store_row rfl 28 _ _ rfl w.heap.size #[.int .i64 code, .slice oo P.length cc] rfl rfl 28 _ hr4 (by kernel_rfl) rfl (by simp [Value.oneCell']) ?_) | go_in)
      refine bodyPost_ret (v := .agg #[.int .i64 code, .slice oo P.length cc]) (results_cell_row Tryz.results6 _ _ w.heap.size 28 _ (0, 0) _ rfl (setRow_heap _ _ _ _ _ _ hr4) Tryz.underlying28 rfl (by kernel_rfl)) rfl ?_
      rw [← HR2.out]
      have hset := grown_setRow w4 w.heap.size #[.int .i64 code, .slice oo P.length cc]
      exact mkHid ⟨oo, cc, rfl, hP2, (hown4.out.keep hset (own_ne hown4.out (by omega))).base (by omega), hB4.out.grown hset hB4.out.size (fun j hj => by cases hj; exact Nat.le_refl _)⟩
end Go.Proofs.YtdjghniinnfncaaGreatDoor
namespace Go.Proofs.YtdjghniinnfncaaGreatDoor
open Go.RowKit Go.Lib Go.Maps
set_option maxHeartbeats 2000000 in
set_option maxRecDepth 20000 in
/-- Two lists of the same texts are the same. -/
theorem lwSame (o1 o2 : Option Addr) (F : List ByteArray) (c1 c2 lo1 lo2 : Nat) (w : World) (h1 : TxL lo1 w.heap.size w o1 F) (h2 : TxL lo2 w.heap.size w o2 F) (hl : F.length ≤ 1048576) :
    Calls Tryz.prog 7 #[.slice o1 F.length c1, .slice o2 F.length c2] w fun e w' => e = .returned (.bool true) ∧ Below w.heap.size w w' := by
  have H1 := mkHid h1
  have H2 := mkHid h2
  clear h1 h2
  go_enter Tryz.func7, Tryz.ntmps7
  go_wp2
  go_loopw [5] (fun iv wr => ∃ i : Nat, i ≤ F.length ∧ iv = .int .i64 i ∧ Hid (Below w.heap.size w wr)) (fun iv _ => F.length - (Lib.intOf iv).toNat)
  case atStart => exact ⟨0, Nat.zero_le _, rfl, Below.refl _ _⟩
  case round =>
    obtain ⟨i, hi, rfl, hb⟩ := hrel
    by_cases hlt : i < F.length
    · obtain ⟨a, rfl, ha1, ha2, x0⟩ := (H1.out.below hb.out (Nat.le_refl _)) i hlt
      obtain ⟨b, rfl, hb1, hb2, y0⟩ := (H2.out.below hb.out (Nat.le_refl _)) i hlt
      generalize F[i] = t at *
      go_wp2
      go_quiet (fail)
      go_wp2
      go_roundw
      case rel => exact ⟨i + 1, by omega, by go_num, below_drewN hb.out _⟩
      case measure => simp [Lib.intOf]; omega
    · go_wp2
      go_ret
      exact ⟨rfl, hb.out⟩
end Go.Proofs.YtdjghniinnfncaaGreatDoor
namespace Go.Proofs.YtdjghniinnfncaaGreatDoor
open Go.RowKit Go.Lib Go.Maps
set_option maxRecDepth 20000 in
theorem OwnX.base0 {B : Nat} {v : Value} {F : List ByteArray} {w : World} (h : OwnX B v F w) : OwnX 0 v F w := h.baseA (Nat.zero_le _)
def exFact (sA sL : Value) (t : ByteArray) (gL i0 b1 : Nat) (j : Nat) (v : Value) (w : World) : Prop :=
  match j with
  | 0 => v = sA
  | 1 => v = .pointer (some ⟨b1, 1, none⟩)
  | 2 => v = sL
  | 3 => v = .int .i64 (i0 : Int)
  | 4 => v = .pointer (some ⟨gL, i0, none⟩)
  | 5 => v = .string t
  | 6 => ∃ (oo : Option Addr) (c2 : Nat), v = .agg #[.int .i64 0, .slice oo 1 c2] ∧ OwnX 0 (.slice oo 1 c2) [t] w
  | 7 => ∃ (oo : Option Addr) (c2 : Nat), v = .slice oo 1 c2 ∧ OwnX 0 (.slice oo 1 c2) [t] w
  | 8 => v = .pointer (some ⟨b1, 1, none⟩)
  | 9 => v = sL
  | 10 => v = .int .i64 (i0 : Int)
  | 11 => v = .pointer (some ⟨gL, i0, none⟩)
  | 12 => v = .string t
  | 13 => ∃ b : Nat, v = .slice (some ⟨b, 0, none⟩) 1 1 ∧ w.heap[b]? = some (.cells #[.string t] 9 (0, 0))
  | _ => True
def exDst (j : Nat) : Nat :=
  match j with
  | 0 => 82
  | 1 => 83
  | 2 => 84
  | 3 => 85
  | 4 => 86
  | 5 => 87
  | 6 => 88
  | 7 => 89
  | 8 => 90
  | 9 => 91
  | 10 => 92
  | 11 => 93
  | 12 => 94
  | 13 => 95
  | _ => 999
set_option maxRecDepth 20000 in
theorem exFact.gr {sA sL : Value} {t : ByteArray} {gL i0 b1 : Nat} (j : Nat) (v : Value) (w w' : World) (h : exFact sA sL t gL i0 b1 j v w) (hb : Below w.heap.size w w') : exFact sA sL t gL i0 b1 j v w' := by
  unfold exFact at h ⊢
  split
  case h_7 =>
    obtain ⟨oo, c2, h1, h2⟩ := h
    exact ⟨oo, c2, h1, h2.below hb⟩
  case h_8 =>
    obtain ⟨oo, c2, h1, h2⟩ := h
    exact ⟨oo, c2, h1, h2.below hb⟩
  case h_14 =>
    obtain ⟨b, h1, h2⟩ := h
    exact ⟨b, h1, (hb.block b (hp_lt h2)).trans h2⟩
  all_goals first
    | exact h
    | trivial
set_option maxRecDepth 20000 in
theorem Ex.same_no {x y : ByteArray} (h : x ≠ y) : (x.toList == y.toList) = false := by
  rw [eq_same]
  cases hs : Ex.same x y with
  | false => rfl
  | true => exact absurd ((Ex.same_iff x y).1 hs) h
set_option maxRecDepth 20000 in
theorem Ho.both (T : List GMx) (d : ByteArray) : Ho.hosts (Ho.isOf (Ho.low d)) T d = Ho.hosts (fun m => namedB m.domain d) T d := by
  have e : Ho.isOf (Ho.low d) = fun m => namedB m.domain d := funext fun m => Ho.named_is d m
  rw [e]
set_option maxRecDepth 20000 in
theorem OwnX.cellsAt {B : Nat} {oo : Option Addr} {cc : Nat} {F : List ByteArray} {w : World} (h : OwnX B (.slice oo F.length cc) F w) (hn : 0 < F.length) : ∃ gL, oo = some ⟨gL, 0, none⟩ ∧ ∀ j (hj : j < F.length), w.cell? ⟨gL, j, none⟩ = some (.string F[j]) := by
  rcases h.2 with ⟨h1, h0⟩ | ⟨g, cap', cur, h1, -⟩
  · omega
  · simp only [Value.slice.injEq] at h1
    obtain ⟨rfl, -⟩ := h1
    refine ⟨g, rfl, fun j hj => ?_⟩
    have := World.ownsRow.cells h (g := g) rfl j (.string F[j]) (by simp [strCellsX, hj])
    rw [Addr.add_lit, Nat.zero_add] at this
    exact this
set_option maxRecDepth 20000 in
theorem Ky.ok_size {t : ByteArray} (h : Ky.ok t = true) : t.size ≤ 400 := by
  unfold Ky.ok at h
  rw [Bool.and_eq_true, Bool.and_eq_true, decide_eq_true_eq, decide_eq_true_eq] at h
  exact h.2.1
set_option maxRecDepth 20000 in
theorem nodup_ne {F : List ByteArray} (h : F.Nodup) {i j : Nat} (hi : i < F.length) (hj : j < i) : F[i] ≠ F[j] := by
  intro e
  have := (List.pairwise_iff_getElem.1 h) j i (by omega) hi hj
  exact this e.symm
set_option maxRecDepth 40000 in
set_option maxHeartbeats 16000000 in
theorem walkExpanded (o : Option Addr) (c : List UInt8) (cp : Nat) (mx : Int) (w : World) (hc : Code w.heap.size w o c) (hl : c.length ≤ maxLen) (hm : w.cell? ⟨0, 0, none⟩ = some (.int .i64 mx)) :
    Calls Tryz.prog 3 #[.slice o c.length cp] w fun e w' => e = .returned (.bool true) ∧ Below w.heap.size w w' := by
  unfold maxLen at hl
  by_cases hbig : 1048576 < c.length
  · clear hc hm
    go_enter Tryz.func3, Tryz.ntmps3
    go_wp2
    go_ret
    exact ⟨rfl, Below.refl _ _⟩
  have hbigI : ¬ (1048576 : Int) < (c.length : Int) := by omega
  have hD := drawExpand o c cp w hc (by omega)
  have HC := mkHid hc
  have Hm0 := mkHid hm
  have hw0 : 0 < w.heap.size := World.block_lt_of_cell? _ _ hm
  clear hc hm
  go_enter Tryz.func3, Tryz.ntmps3
  go_wp2_with fail
  refine hD.mono ?_
  rintro e w1 ⟨v, E, k, rfl, hE, hfit, hAl, hk, hb1⟩
  clear hD
  obtain ⟨o1, cap, rfl⟩ := hAl.shape
  obtain ⟨A, hA⟩ : ∃ A, E.map (·.1) = A := ⟨_, rfl⟩
  have hgl := hAl.gl
  rw [hA] at hgl
  have hAe : E.length = A.length := by rw [← hA]; simp
  have hAf : ∀ t ∈ A, t.fits 1048576 := by
    intro t ht
    rw [← hA] at ht
    obtain ⟨e, he, rfl⟩ := List.mem_map.1 ht
    exact GAlias.fits_mono (hfit e he) (by omega)
  have hAl1 : A.length ≤ 1048576 := by omega
  have hA100 : A.length ≤ 100 := by omega
  rw [hAe]
  have HAf := mkHid hAf
  have Hgl := mkHid hgl
  have Hb1 := mkHid hb1
  have Hm1 : Hid (w1.cell? ⟨0, 0, none⟩ = some (.int .i64 mx)) := (hb1.cell (p := ⟨0, 0, none⟩) hw0).trans Hm0.out
  have hs1 := hb1.size
  clear hfit hAl hA hAe hAf hgl hb1 hE
  obtain ⟨lo, hlo⟩ : ∃ lo, lo = w.heap.size := ⟨_, rfl⟩
  rw [← hlo] at Hgl
  clear hlo
  have cX := implExpand o1 A cap lo k mx w1 Hgl.out hAl1 HAf.out (by omega) Hm1.out
  have cY := mkHid (fun (W : World) (hb : Below w1.heap.size w1 W) => specExpand o1 A cap lo k W ((Hgl.out.below hb (Nat.le_refl _)).mono (Nat.le_refl _) hb.size) hAl1 HAf.out (by omega))
  have Hgood := mkHid (Ex.ans_good A k)
  obtain ⟨code, hcode⟩ : ∃ q, (Ex.ans A k).1 = q := ⟨_, rfl⟩
  obtain ⟨L, hL⟩ : ∃ q, (Ex.ans A k).2 = q := ⟨_, rfl⟩
  rw [hcode, hL] at cX
  rw [hcode, hL] at cY
  rw [hL] at Hgood
  clear hcode hL
  go_wp2_with fail
  refine cX.mono ?_
  rintro e w2 hx2
  obtain ⟨oo, cc, rfl, hL200, hO2, hb2⟩ := hx2.out
  clear cX hx2
  have hR2 := hp_alloc w2 (.cells #[.int .i64 0, .slice none 0 0] 28)
  go_wp2_with (refine wpL_store_row rfl 28 _ _ rfl w2.heap.size _ rfl rfl 28 _ hR2 (by kernel_rfl) rfl (by simp [Value.oneCell']) ?_; refine Hid.out ?_)
  obtain ⟨V2, hV5⟩ : ∃ V, (w2.alloc (.cells #[.int .i64 0, .slice none 0 0] 28)).setRow w2.heap.size #[.int .i64 code, .slice oo L.length cc] = V := ⟨_, rfl⟩
  have HB5 : V2.heap[w2.heap.size]? = some (.cells #[.int .i64 code, .slice oo L.length cc] 28 (0, 0)) := by rw [← hV5]; exact setRow_heap _ _ _ _ _ _ hR2
  have hoth : ∀ i, i < w2.heap.size → V2.heap[i]? = w2.heap[i]? := by
    intro i hi
    rw [← hV5, setRow_other _ _ _ _ (by omega)]
    exact ((Below.refl w2.heap.size w2).alloc (Nat.le_refl _) _).block i hi
  have hb5 : Below w2.heap.size w2 V2 := ⟨by rw [← hV5]; rfl, by rw [← hV5]; rfl, by rw [← hV5]; rfl, by rw [← hV5]; simp, hoth⟩
  rw [hV5]
  obtain ⟨b1, hb1⟩ : ∃ b, b = w2.heap.size := ⟨_, rfl⟩
  rw [← hb1] at HB5 ⊢
  have hb1l : b1 < V2.heap.size := hp_lt HB5
  clear hoth hV5 hR2 hb1
  have hb12 := hb2.trans (hb5.mono hb2.size)
  have HO2 := mkHid (hO2.below hb5)
  have Hb12 := mkHid hb12
  have HB1a := mkHid HB5
  clear hb2 hb5 hO2 hb12 HB5
  refine mkHid ?_
  go_wp2_with fail
  refine (cY.out V2 Hb12.out).mono ?_
  rintro e w3 hx3
  obtain ⟨oo3, cc3, rfl, -, hO3, hb3⟩ := hx3.out
  clear cY hx3
  have hR2 := hp_alloc w3 (.cells #[.int .i64 0, .slice none 0 0] 28)
  go_wp2_with (refine wpL_store_row rfl 28 _ _ rfl w3.heap.size _ rfl rfl 28 _ hR2 (by kernel_rfl) rfl (by simp [Value.oneCell']) ?_; refine Hid.out ?_)
  obtain ⟨W3, hV5⟩ : ∃ V, (w3.alloc (.cells #[.int .i64 0, .slice none 0 0] 28)).setRow w3.heap.size #[.int .i64 code, .slice oo3 L.length cc3] = V := ⟨_, rfl⟩
  have HB5 : W3.heap[w3.heap.size]? = some (.cells #[.int .i64 code, .slice oo3 L.length cc3] 28 (0, 0)) := by rw [← hV5]; exact setRow_heap _ _ _ _ _ _ hR2
  have hoth : ∀ i, i < w3.heap.size → W3.heap[i]? = w3.heap[i]? := by
    intro i hi
    rw [← hV5, setRow_other _ _ _ _ (by omega)]
    exact ((Below.refl w3.heap.size w3).alloc (Nat.le_refl _) _).block i hi
  have hb5 : Below w3.heap.size w3 W3 := ⟨by rw [← hV5]; rfl, by rw [← hV5]; rfl, by rw [← hV5]; rfl, by rw [← hV5]; simp, hoth⟩
  rw [hV5]
  obtain ⟨b2, hb2⟩ : ∃ b, b = w3.heap.size := ⟨_, rfl⟩
  rw [← hb2] at HB5 ⊢
  have hb2l : b2 < W3.heap.size := hp_lt HB5
  clear hoth hV5 hR2 hb2
  have hb23 := hb3.trans (hb5.mono hb3.size)
  have HBb := mkHid HB5
  have HBa : Hid (W3.heap[b1]? = some (.cells #[.int .i64 code, .slice oo L.length cc] 28 (0, 0))) := (hb23.block b1 hb1l).trans HB1a.out
  have HX1 := mkHid ((HO2.out.below hb23).baseA (Nat.zero_le _))
  have HX2 := mkHid ((hO3.below hb5).baseA (Nat.zero_le _))
  have hb13 := Hb12.out.trans (hb23.mono Hb12.out.size)
  have HAl := mkHid ((Hgl.out.below hb13 (Nat.le_refl _)).mono (Nat.le_refl _) hb13.size)
  have Hm : Hid (W3.cell? ⟨0, 0, none⟩ = some (.int .i64 mx)) := (hb13.cell (p := ⟨0, 0, none⟩) (World.block_lt_of_cell? _ _ Hm1.out)).trans Hm1.out
  have HbW := mkHid (Hb1.out.trans (hb13.mono hs1))
  have ca0 : W3.cell? ⟨b1, 0, none⟩ = some (.int .i64 code) := by simp [World.cell?, HBa.out]
  have ca1 : W3.cell? ⟨b1, 1, none⟩ = some (.slice oo L.length cc) := by simp [World.cell?, HBa.out]
  have cb0 : W3.cell? ⟨b2, 0, none⟩ = some (.int .i64 code) := by simp [World.cell?, HBb.out]
  have cb1 : W3.cell? ⟨b2, 1, none⟩ = some (.slice oo3 L.length cc3) := by simp [World.cell?, HBb.out]
  have cW := mkHid (lwSame oo oo3 L cc cc3 0 0 W3 HX1.out.txL HX2.out.txL (by omega))
  clear hb3 hb5 hO3 hb23 hb13 HB5 HO2 Hb12 HB1a Hgl Hm1 Hb1 hs1
  refine mkHid ?_
  go_wp2_with fail
  refine cW.out.mono ?_
  rintro e w4 ⟨rfl, hb4⟩
  have HW4 := mkHid hb4
  have HB1 := mkHid ca1
  clear hb4 cW ca0 ca1 cb0 cb1 HX2 HBb
  go_wp2
  go_loopw [7] (fun iv wr => ∃ i0 : Nat, i0 ≤ L.length ∧ iv = .int .i64 i0 ∧ Hid (Below W3.heap.size W3 wr)) (fun iv _ => L.length - (Lib.intOf iv).toNat)
  case atStart => exact ⟨0, Nat.zero_le _, rfl, HW4⟩
  case round =>
    clear HW4
    obtain ⟨i0, hi0, rfl, hbi⟩ := hrel
    have hb1W : b1 < W3.heap.size := hp_lt HBa.out
    have HB1W := mkHid HB1.out
    clear HB1
    by_cases hlt : i0 < L.length
    · obtain ⟨gL, hoo, hLc⟩ := HX1.out.cellsAt (by omega)
      subst hoo
      have HLc := mkHid hLc
      have hgLW : gL < W3.heap.size := World.block_lt_of_cell? _ _ (hLc i0 hlt)
      have x1 : wr.cell? ⟨b1, 1, none⟩ = some (.slice (some ⟨gL, 0, none⟩) L.length cc) := (hbi.out.cell (p := ⟨b1, 1, none⟩) hb1W).trans HB1W.out
      clear hLc
      go_wp2
      clear x1
      go_loopw [8] (fun kv wr => ∃ k2 : Nat, k2 ≤ i0 ∧ kv = .int .i64 k2 ∧ Hid (Below W3.heap.size W3 wr)) (fun kv _ => i0 - (Lib.intOf kv).toNat)
      case atStart => exact ⟨0, Nat.zero_le _, rfl, hbi⟩
      case round =>
        clear hbi
        obtain ⟨k2, hk2, rfl, hbk⟩ := hrel
        have x1 : wr.cell? ⟨b1, 1, none⟩ = some (.slice (some ⟨gL, 0, none⟩) L.length cc) := (hbk.out.cell (p := ⟨b1, 1, none⟩) hb1W).trans HB1W.out
        have x2 : wr.cell? ⟨gL, i0, none⟩ = some (.string L[i0]) := (hbk.out.cell (p := ⟨gL, i0, none⟩) hgLW).trans (HLc.out i0 hlt)
        by_cases hlk : k2 < i0
        · have hk2l : k2 < L.length := by omega
          have x3 : wr.cell? ⟨gL, k2, none⟩ = some (.string L[k2]) := (hbk.out.cell (p := ⟨gL, k2, none⟩) hgLW).trans (HLc.out k2 hk2l)
          have hne : (L[i0].toList == L[k2].toList) = false := Ex.same_no (nodup_ne Hgood.out.1 hlt hlk)
          have hne2 : ¬ L[i0].toList = L[k2].toList := by simpa using hne
          generalize L[i0] = t1 at x2 hne hne2
          generalize L[k2] = t2 at x3 hne hne2
          go_wp2
          go_quiet (fail)
          go_wp2
          go_roundw
          case rel => exact ⟨k2 + 1, by omega, by go_num, below_drewN hbk.out _⟩
          case measure => simp [Lib.intOf]; omega
        · go_wp2
          clear x1 x2
          go_loopw [9] (fun kv wr => ∃ k3 : Nat, k3 ≤ A.length ∧ kv = .int .i64 k3 ∧ Hid (Below W3.heap.size W3 wr)) (fun kv _ => A.length - (Lib.intOf kv).toNat)
          case atStart => exact ⟨0, Nat.zero_le _, rfl, hbk⟩
          case round =>
            clear hbk
            obtain ⟨k3, hk3, rfl, hb3⟩ := hrel
            have x1 : wr.cell? ⟨b1, 1, none⟩ = some (.slice (some ⟨gL, 0, none⟩) L.length cc) := (hb3.out.cell (p := ⟨b1, 1, none⟩) hb1W).trans HB1W.out
            have x2 : wr.cell? ⟨gL, i0, none⟩ = some (.string L[i0]) := (hb3.out.cell (p := ⟨gL, i0, none⟩) hgLW).trans (HLc.out i0 hlt)
            have hgood := Hgood.out.2 L[i0] (List.getElem_mem hlt)
            by_cases hl3 : k3 < A.length
            · obtain ⟨aa, v1, rfl, ha1, ha2, hAt, -⟩ := (HAl.out.below hb3.out (Nat.le_refl _)) k3 hl3
              have y0 := hAt.c0
              have hne : (A[k3].name.toList == L[i0].toList) = false := by rw [eq_same]; exact Ex.find_none_all hgood.1 k3 hl3
              have hne2 : ¬ A[k3].name.toList = L[i0].toList := by simpa using hne
              generalize L[i0] = t1 at x2 hne hne2
              generalize A[k3].name = t2 at y0 hne hne2
              clear hAt hgood
              go_wp2
              go_quiet (fail)
              go_wp2
              go_roundw
              case rel => exact ⟨k3 + 1, by omega, by go_num, below_drewN hb3.out _⟩
              case measure => simp [Lib.intOf]; omega
            · have Hself := mkHid (Ex.ans_self A L[i0] hgood.1 hgood.2.1 hgood.2.2)
              have hts : L[i0].size ≤ 1048576 := Nat.le_trans (Ky.ok_size hgood.2.1) (by omega)
              have HLi := mkHid x2
              have HB1 := mkHid x1
              obtain ⟨W0, hW0⟩ : ∃ V, V = wr := ⟨_, rfl⟩
              have HW3W : Hid (Below W3.heap.size W3 W0) := by rw [hW0]; exact hb3.out
              subst hW0
              have HAl0 := mkHid ((HAl.out.below HW3W.out (Nat.le_refl _)).mono (Nat.le_refl _) HW3W.out.size)
              have Hm3 : Hid (W0.cell? ⟨0, 0, none⟩ = some (.int .i64 mx)) := (HW3W.out.cell (p := ⟨0, 0, none⟩) (World.block_lt_of_cell? _ _ Hm.out)).trans Hm.out
              generalize L[i0] = t at Hself hts HLi
              clear hgood x1 x2 hb3
              clear HAl Hm
              obtain ⟨HAl, Hm⟩ : Hid (GAliassL lo W0.heap.size W0 o1 A) ∧ Hid (W0.cell? ⟨0, 0, none⟩ = some (.int .i64 mx)) := ⟨HAl0, Hm3⟩
              go_wp2
              refine wp_region_any (by kernel_rfl) ?_
              refine wpAny_phase 14 2 #[true, true, true, true, true, true, true, true, true, true, true, true, true, true, false, false] exDst (fun x => rgAct [_, _, _, _, _, _, _, _, _, _, _, _, _, _, _, _, _, _, _, _, _, _, _, _, _, _, _, _, _, _, _, _, _, _, _, _, _, _, _, _, _, _, _, _, _, _, _, _, _, _, _, _, _, _, _, _, _, _, _, _, _, _, _, _, _, _, _, _, _, _, _, _, _, _, _, _, _, _, _, _, _, _] [x 82, x 83, x 84, x 85, x 86, x 87, x 88, x 89, x 90, x 91, x 92, x 93, x 94, x 95] [_, _, _, _, _, _, _, _, _, _, _, _, _, _, _, _, _, _, _, _, _, _, _, _, _, _, _, _, _, _, _, _, _, _, _, _, _, _, _, _, _]) (exFact (.slice o1 A.length cap) (.slice (some ⟨gL, 0, none⟩) L.length cc) t gL i0 b1) (fun _ w => Below W0.heap.size W0 w) (fun w w' => Below w.heap.size w w') rfl rfl (by decide) rfl (by kernel_rfl) (by kernel_rfl) ?_ exFact.gr ?hend ?hstep _ _ 0 (fun j => match j with | 82 => u82 | 83 => u83 | 84 => u84 | 85 => u85 | 86 => u86 | 87 => u87 | 88 => u88 | 89 => u89 | 90 => u90 | 91 => u91 | 92 => u92 | 93 => u93 | 94 => u94 | 95 => u95 | _ => undef) _ rfl rfl rfl (by intro j hj; simp [Array.getD]) ?_ (Below.refl _ _).drew ?_
              · intro i j hi hj hne
                have e1 : ∀ q, q < 14 → ∀ r, r < 14 → q ≠ r → exDst q ≠ exDst r := by decide
                exact e1 j hj i hi hne
              case hend =>
                intro x wq hG hf
                obtain ⟨oo2, cc2, e7, hO2⟩ := hf 7 (by decide)
                obtain ⟨b, e13, hbk⟩ := hf 13 (by decide)
                have e7' : x 89 = .slice oo2 1 cc2 := e7
                have e13' : x 95 = .slice (some ⟨b, 0, none⟩) 1 1 := e13
                have hT1 : TxL 0 wq.heap.size wq oo2 [t] := hO2.txL
                have hT2 : TxL 0 wq.heap.size wq (some ⟨b, 0, none⟩) [t] := by
                  intro q hq
                  have hq0 : q = 0 := by simp at hq; omega
                  subst hq0
                  exact ⟨_, rfl, Nat.zero_le _, hp_lt hbk, by simp [Addr.add, World.cell?, hbk]⟩
                have cW := lwSame oo2 (some ⟨b, 0, none⟩) [t] cc2 1 0 0 wq hT1 hT2 (by simp)
                clear hf e7 e13 hbk hT1 hT2 hO2
                refine wpAny_ready (rs := [14]) (by kernel_rfl) (by simp) ?_
                refine AllReady.cons rfl (fun K hK => ?_) AllReady.nil
                go_simp
                refine cW.mono ?_
                rintro e w2 ⟨rfl, hb2⟩
                go_simp
                refine hK _ _ ?_
                clear hK K cW
                have hbF := mkHid (hG.trans (hb2.mono hG.size))
                clear hb2 hG
                generalize x 82 = y82 at *
                generalize x 83 = y83 at *
                generalize x 84 = y84 at *
                generalize x 85 = y85 at *
                generalize x 86 = y86 at *
                generalize x 87 = y87 at *
                generalize x 88 = y88 at *
                generalize x 89 = y89 at *
                generalize x 90 = y90 at *
                generalize x 91 = y91 at *
                generalize x 92 = y92 at *
                generalize x 93 = y93 at *
                generalize x 94 = y94 at *
                generalize x 95 = y95 at *
                go_simp
                refine wpAny_ready (rs := [15]) (by kernel_rfl) (by simp) ?_
                refine AllReady.cons rfl (fun K hK => ?_) AllReady.nil
                go_simp
                refine hK _ _ ?_
                clear hK K
                go_simp
                refine wpAny_done (by kernel_rfl) ?_ _
                go_simp
                go_wp2
                go_roundw
                case rel => exact ⟨i0 + 1, by omega, by go_num, HW3W.out.trans (hbF.out.mono HW3W.out.size)⟩
                case measure => simp [Lib.intOf]; omega
              case hstep =>
                intro k2 x L9 wr i hil hkl hG hi hf
                rcases (show i = 0 ∨ i = 1 ∨ i = 2 ∨ i = 3 ∨ i = 4 ∨ i = 5 ∨ i = 6 ∨ i = 7 ∨ i = 8 ∨ i = 9 ∨ i = 10 ∨ i = 11 ∨ i = 12 ∨ i = 13 by omega) with rfl | rfl | rfl | rfl | rfl | rfl | rfl | rfl | rfl | rfl | rfl | rfl | rfl | rfl
                · clear hi hf
                  refine wpOp_step rfl (fun K hK => ?_)
                  go_simp
                  exact hK _ _ ⟨.slice o1 A.length cap, by simp [put, exDst], rfl, Below.refl _ _, hG⟩
                · clear hi hf
                  refine wpOp_step rfl (fun K hK => ?_)
                  go_simp
                  exact hK _ _ ⟨.pointer (some ⟨b1, 1, none⟩), by simp [put, exDst], rfl, Below.refl _ _, hG⟩
                · have e1' : x 83 = .pointer (some ⟨b1, 1, none⟩) := hf 1 (by omega) (ready_dep hi rfl 1 (by kernel_rfl))
                  clear hi hf
                  have hcel : wr.cell? ⟨b1, 1, none⟩ = some (.slice (some ⟨gL, 0, none⟩) L.length cc) := (hG.cell (World.block_lt_of_cell? _ _ HB1.out)).trans HB1.out
                  refine wpOp_step rfl (fun K hK => ?_)
                  go_simp
                  exact hK _ _ ⟨.slice (some ⟨gL, 0, none⟩) L.length cc, by simp [put, exDst, e1'], rfl, Below.refl _ _, hG⟩
                · clear hi hf
                  refine wpOp_step rfl (fun K hK => ?_)
                  go_simp
                  exact hK _ _ ⟨.int .i64 (i0 : Int), by simp [put, exDst], rfl, Below.refl _ _, hG⟩
                · have e2' : x 84 = .slice (some ⟨gL, 0, none⟩) L.length cc := hf 2 (by omega) (ready_dep hi rfl 2 (by kernel_rfl))
                  have e3' : x 85 = .int .i64 (i0 : Int) := hf 3 (by omega) (ready_dep hi rfl 3 (by kernel_rfl))
                  clear hi hf
                  refine wpOp_step rfl (fun K hK => ?_)
                  go_simp
                  exact hK _ _ ⟨.pointer (some ⟨gL, i0, none⟩), by simp [put, exDst, e2', e3'], rfl, Below.refl _ _, hG⟩
                · have e4' : x 86 = .pointer (some ⟨gL, i0, none⟩) := hf 4 (by omega) (ready_dep hi rfl 4 (by kernel_rfl))
                  clear hi hf
                  have hcel : wr.cell? ⟨gL, i0, none⟩ = some (.string t) := (hG.cell (World.block_lt_of_cell? _ _ HLi.out)).trans HLi.out
                  refine wpOp_step rfl (fun K hK => ?_)
                  go_simp
                  exact hK _ _ ⟨.string t, by simp [put, exDst, e4'], rfl, Below.refl _ _, hG⟩
                · have e0' : x 82 = .slice o1 A.length cap := hf 0 (by omega) (ready_dep hi rfl 0 (by kernel_rfl))
                  have e5' : x 87 = .string t := hf 5 (by omega) (ready_dep hi rfl 5 (by kernel_rfl))
                  clear hi hf
                  have cX := implExpand o1 A cap lo t mx wr ((HAl.out.below hG (Nat.le_refl _)).mono (Nat.le_refl _) hG.size) hAl1 HAf.out hts ((hG.cell (World.block_lt_of_cell? _ _ Hm.out)).trans Hm.out)
                  rw [Hself.out] at cX
                  refine wpOp_step rfl (fun K hK => ?_)
                  go_simp
                  refine cX.mono ?_
                  rintro e w2 hx2
                  obtain ⟨oo2, cc2, rfl, -, hO2, hb2⟩ := hx2.out
                  go_simp
                  exact hK _ _ ⟨.agg #[.int .i64 0, .slice oo2 1 cc2], by simp [put, exDst, e0', e5'], ⟨oo2, cc2, rfl, hO2.base0⟩, hb2, hG.trans (hb2.mono hG.size)⟩
                · have f6 := hf 6 (by omega) (ready_dep hi rfl 6 (by kernel_rfl))
                  clear hi hf
                  obtain ⟨oo2, cc2, e6, hO2⟩ := f6
                  have e6' : x 88 = .agg #[.int .i64 0, .slice oo2 1 cc2] := e6
                  clear e6
                  refine wpOp_step rfl (fun K hK => ?_)
                  go_simp
                  exact hK _ _ ⟨.slice oo2 1 cc2, by simp [put, exDst, e6', Act.put], ⟨oo2, cc2, rfl, hO2⟩, Below.refl _ _, hG⟩
                · clear hi hf
                  refine wpOp_step rfl (fun K hK => ?_)
                  go_simp
                  exact hK _ _ ⟨.pointer (some ⟨b1, 1, none⟩), by simp [put, exDst], rfl, Below.refl _ _, hG⟩
                · have e8' : x 90 = .pointer (some ⟨b1, 1, none⟩) := hf 8 (by omega) (ready_dep hi rfl 8 (by kernel_rfl))
                  clear hi hf
                  have hcel : wr.cell? ⟨b1, 1, none⟩ = some (.slice (some ⟨gL, 0, none⟩) L.length cc) := (hG.cell (World.block_lt_of_cell? _ _ HB1.out)).trans HB1.out
                  refine wpOp_step rfl (fun K hK => ?_)
                  go_simp
                  exact hK _ _ ⟨.slice (some ⟨gL, 0, none⟩) L.length cc, by simp [put, exDst, e8'], rfl, Below.refl _ _, hG⟩
                · clear hi hf
                  refine wpOp_step rfl (fun K hK => ?_)
                  go_simp
                  exact hK _ _ ⟨.int .i64 (i0 : Int), by simp [put, exDst], rfl, Below.refl _ _, hG⟩
                · have e9' : x 91 = .slice (some ⟨gL, 0, none⟩) L.length cc := hf 9 (by omega) (ready_dep hi rfl 9 (by kernel_rfl))
                  have e10' : x 92 = .int .i64 (i0 : Int) := hf 10 (by omega) (ready_dep hi rfl 10 (by kernel_rfl))
                  clear hi hf
                  refine wpOp_step rfl (fun K hK => ?_)
                  go_simp
                  exact hK _ _ ⟨.pointer (some ⟨gL, i0, none⟩), by simp [put, exDst, e9', e10'], rfl, Below.refl _ _, hG⟩
                · have e11' : x 93 = .pointer (some ⟨gL, i0, none⟩) := hf 11 (by omega) (ready_dep hi rfl 11 (by kernel_rfl))
                  clear hi hf
                  have hcel : wr.cell? ⟨gL, i0, none⟩ = some (.string t) := (hG.cell (World.block_lt_of_cell? _ _ HLi.out)).trans HLi.out
                  refine wpOp_step rfl (fun K hK => ?_)
                  go_simp
                  exact hK _ _ ⟨.string t, by simp [put, exDst, e11'], rfl, Below.refl _ _, hG⟩
                · have e12' : x 94 = .string t := hf 12 (by omega) (ready_dep hi rfl 12 (by kernel_rfl))
                  clear hi hf
                  refine wpOp_step rfl (fun K hK => ?_)
                  go_simp
                  have hbb : ∀ cs, Below wr.heap.size wr (wr.alloc (.cells cs 9)) := fun cs => (Below.refl _ _).alloc (Nat.le_refl _) _
                  exact hK _ _ ⟨.slice (some ⟨wr.heap.size, 0, none⟩) 1 1, by simp [put, exDst, e12'], ⟨wr.heap.size, rfl, hp_alloc _ _⟩, hbb _, hG.trans ((hbb _).mono hG.size)⟩
              · intro k2 j hk2
                simp [Array.getD] at hk2
              · intro j hj hd
                simp [Array.getD] at hd
    · obtain ⟨W5, hW5⟩ : ∃ V, V = wr := ⟨_, rfl⟩
      subst hW5
      have x1 : W5.cell? ⟨b1, 1, none⟩ = some (.slice oo L.length cc) := (hbi.out.cell (p := ⟨b1, 1, none⟩) hb1W).trans HB1W.out
      have hbw5 := HbW.out.trans (hbi.out.mono HbW.out.size)
      have cD := mkHid (drawHostsOf o c cp W5 ((HC.out.below hbw5).mono hbw5.size) (by omega))
      have Hb5 := mkHid hbw5
      clear hbi hbw5 HX1 HAl HBa HbW Hm HB1W Hgood HAf
      go_wp2_with fail
      refine cD.out.mono ?_
      rintro e w6 ⟨v, T, d, rfl, hT, hTf, hO, hd, hb6⟩
      obtain ⟨oT, cT, rfl⟩ := hO.shape
      clear cD x1
      have hTx : GMxsL 0 w6.heap.size w6 oT T := by
        rcases hO.2 with ⟨h1, h0⟩ | ⟨g, cap', cur, h1, -⟩
        · intro i hi
          omega
        · simp only [Value.slice.injEq] at h1
          obtain ⟨rfl, -, rfl⟩ := h1
          exact (OwnM.rows hO).mono (Nat.zero_le _) ((World.ownsRow.lt hO g rfl).2)
      have hTf5 : ∀ t ∈ T, t.fits 100000 := fun t ht => ⟨Nat.le_trans (hTf t ht).1 (by omega), Nat.le_trans (hTf t ht).2 (by omega)⟩
      have cI := mkHid (implHostsOf oT T cT 0 w6.heap.size d w6 (by omega) hTx (Nat.le_refl _) hTf5 (by omega))
      have cS := mkHid (fun (W : World) (hb : Below w6.heap.size w6 W) => specHostsOf oT T cT 0 w6.heap.size d W (by omega) (hTx.below hb (Nat.le_refl _)) hb.size hTf5 (by omega))
      rw [Ho.both] at cI
      have hnd := Ho.hosts_nodup (fun m => namedB m.domain d) T d
      have hne0 := Ho.hosts_ne (fun m => namedB m.domain d) T d
      have hlen := Ho.hosts_len (fun m => namedB m.domain d) T d
      obtain ⟨Z, hZ⟩ : ∃ Z, Ho.hosts (fun m => namedB m.domain d) T d = Z := ⟨_, rfl⟩
      rw [hZ] at cI cS hnd hne0 hlen
      have hZ0 : ¬ Z.length = 0 := fun e => hne0 (List.eq_nil_of_length_eq_zero e)
      have Hnd := mkHid hnd
      have Hb6 := mkHid (Hb5.out.trans (hb6.mono Hb5.out.size))
      clear hnd hne0 hZ hTx hTf5 hO hTf hb6 Hb5
      have hZl : Z.length ≤ 100 := by omega
      have hZp : 0 < Z.length := by omega
      clear hlen hZ0
      go_wp2_with fail
      refine cI.out.mono ?_
      rintro e w7 ⟨v7, rfl, hO7, hb7⟩
      obtain ⟨o7, c7, rfl⟩ := hO7.shape
      have H7 := mkHid hO7
      have Hb7 := mkHid hb7
      have hz0 : ((Z.length : Int) == 0) = false := beq_eq_false_iff_ne.2 (by omega)
      have hz0' : ¬ (Z.length : Int) = 0 := by omega
      clear cI hO7 hb7
      go_wp2_with fail
      refine (cS.out w7 Hb7.out).mono ?_
      rintro e w8 ⟨v8, rfl, hO8, hb8⟩
      obtain ⟨o8, c8, rfl⟩ := hO8.shape
      have cW := mkHid (lwSame o7 o8 Z c7 c8 0 0 w8 ((H7.out.below hb8).baseA (Nat.zero_le _)).txL (hO8.baseA (Nat.zero_le _)).txL (by omega))
      have H8 := mkHid ((H7.out.below hb8).baseA (Nat.zero_le _))
      have Hb8 := mkHid (Hb6.out.trans ((Hb7.out.trans (hb8.mono Hb7.out.size)).mono Hb6.out.size))
      clear cS hO8 hb8 H7 Hb7 Hb6
      go_wp2_with fail
      refine cW.out.mono ?_
      rintro e w9 ⟨rfl, hb9⟩
      have H9 := mkHid (H8.out.below hb9)
      have Hb9 := mkHid (Hb8.out.trans (hb9.mono Hb8.out.size))
      clear cW hb9 H8 Hb8 hz0 hz0'
      obtain ⟨gZ, hoZ, hZc⟩ := H9.out.cellsAt (by omega)
      subst hoZ
      have HZc := mkHid hZc
      have hgZ : gZ < w9.heap.size := World.block_lt_of_cell? _ _ (hZc 0 hZp)
      clear hZc H9
      go_wp2
      go_loopw [13] (fun iv wr => ∃ i1 : Nat, i1 ≤ Z.length ∧ iv = .int .i64 i1 ∧ Hid (Below w9.heap.size w9 wr)) (fun iv _ => Z.length - (Lib.intOf iv).toNat)
      case atStart => exact ⟨0, Nat.zero_le _, rfl, Below.refl _ _⟩
      case round =>
        obtain ⟨i1, hi1, rfl, hbi⟩ := hrel
        by_cases hlt1 : i1 < Z.length
        · go_wp2
          go_loopw [14] (fun kv wr => ∃ k2 : Nat, k2 ≤ i1 ∧ kv = .int .i64 k2 ∧ Hid (Below w9.heap.size w9 wr)) (fun kv _ => i1 - (Lib.intOf kv).toNat)
          case atStart => exact ⟨0, Nat.zero_le _, rfl, hbi⟩
          case round =>
            clear hbi
            obtain ⟨k2, hk2, rfl, hbk⟩ := hrel
            by_cases hlk : k2 < i1
            · have hk2l : k2 < Z.length := by omega
              have x2 : wr.cell? ⟨gZ, i1, none⟩ = some (.string Z[i1]) := (hbk.out.cell (p := ⟨gZ, i1, none⟩) hgZ).trans (HZc.out i1 hlt1)
              have x3 : wr.cell? ⟨gZ, k2, none⟩ = some (.string Z[k2]) := (hbk.out.cell (p := ⟨gZ, k2, none⟩) hgZ).trans (HZc.out k2 hk2l)
              have hne : (Z[i1].toList == Z[k2].toList) = false := Ex.same_no (nodup_ne Hnd.out hlt1 hlk)
              have hne2 : ¬ Z[i1].toList = Z[k2].toList := by simpa using hne
              generalize Z[i1] = t1 at x2 hne hne2
              generalize Z[k2] = t2 at x3 hne hne2
              go_wp2
              go_quiet (fail)
              go_wp2
              go_roundw
              case rel => exact ⟨k2 + 1, by omega, by go_num, below_drewN hbk.out _⟩
              case measure => simp [Lib.intOf]; omega
            · go_wp2
              refine ⟨⟨i1 + 1, by omega, by go_num, hbk⟩, by simp [Lib.intOf]; omega⟩
        · go_wp2
          go_ret
          exact ⟨rfl, Hb9.out.trans (hbi.out.mono Hb9.out.size)⟩
end Go.Proofs.YtdjghniinnfncaaGreatDoor
