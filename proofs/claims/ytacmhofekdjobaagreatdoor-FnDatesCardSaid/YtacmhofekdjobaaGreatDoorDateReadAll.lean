
/- The walk of the program's ReadDate over a date that is written well. -/
import Derived.Test.YtacmhofekdjobaaGreatDoorDateTexts
import Derived.Test.YtacmhofekdjobaaGreatDoorDateSpec
namespace Go.Proofs.YtacmhofekdjobaaGreatDoor
open Go.RowKit Go.Lib
/-- The tokens of a date from a place on. -/
structure Dt (T : List Tk) (k : Nat) (n : Dn) : Prop where
  len : T.length = k + 9
  kinds : ∀ t ∈ T, t.kind ≠ 4
  day : ∃ t, T[k]? = some t ∧ Dg t 2 n.dd
  month : ∃ a, T[k + 1]? = some ⟨1, Pl.monthN n.mo, a⟩
  year : ∃ t, T[k + 1 + 1]? = some t ∧ Dg t 4 n.yy
  clock : ∃ ta tb tc td te, T[k + 1 + 1 + 1]? = some ta ∧ T[k + 1 + 1 + 1 + 1]? = some tb ∧ T[k + 1 + 1 + 1 + 1 + 1]? = some tc ∧ T[k + 1 + 1 + 1 + 1 + 1 + 1]? = some td ∧ T[k + 1 + 1 + 1 + 1 + 1 + 1 + 1]? = some te ∧
    Dg ta 2 n.hh ∧ (tb.kind = 5 ∧ tb.text = ⟨#[58]⟩) ∧ Dg tc 2 n.mm ∧ (td.kind = 5 ∧ td.text = ⟨#[58]⟩) ∧ Dg te 2 n.ss
  zone : ∃ (x : ByteArray) (a : Nat) (hp : 0 < x.size), T[k + 1 + 1 + 1 + 1 + 1 + 1 + 1 + 1]? = some ⟨1, x, a⟩ ∧ x.size = 5 ∧ (x[0]'hp = if n.neg then 45 else 43) ∧ (x.extract 1 x.size).data.toList.all Pl.digit = true ∧ numF 0 (x.extract 1 x.size).data.toList = n.zh * 100 + n.zm
set_option maxRecDepth 20000 in
theorem cell_ltD {w : World} {a : Addr} {v : Value} (h : w.cell? a = some v) : a.block < w.heap.size := by
  by_cases hb : a.block < w.heap.size
  · exact hb
  · have e : w.heap[a.block]? = none := Array.getElem?_eq_none (by omega)
    simp [World.cell?, e] at h
set_option maxRecDepth 20000 in
theorem mtab_gr {w w' : World} {g : Nat} (h : MTab w) (hg : w.grownBy w' (some g)) (hG : 1 < g) : MTab w' := fun j hj => by
  have hc := h j hj
  have hb : 1 < w.heap.size := cell_ltD hc
  rw [← hc]
  exact World.cell?_of_block (w := w) (hg.block _ hb (by intro e; cases e; exact absurd hG (Nat.lt_irrefl _)))
set_option maxRecDepth 20000 in
theorem dtab_gr {w w' : World} {g : Nat} (h : DTab w) (hg : w.grownBy w' (some g)) (hG : 0 < g) : DTab w' := fun j hj => by
  have hc := h j hj
  have hb : 0 < w.heap.size := cell_ltD hc
  rw [← hc]
  exact World.cell?_of_block (w := w) (hg.block _ hb (by intro e; cases e; exact absurd hG (Nat.lt_irrefl _)))
def WkOk (s : ByteArray) (T : List Tk) (k : Nat) : Prop := ∀ (B g : Nat) (q : Nat × Nat) (w : World), Rd B T g s q 0 false w → DTab w →
    Calls Tryz.prog 25 #[scp g] w fun e w' => e = .returned (.tuple #[]) ∧ Rd B T g s q k false w' ∧ w.grownBy w' (some g)
set_option maxRecDepth 20000 in
set_option maxHeartbeats 4000000 in
theorem implReadDate (s : ByteArray) (T : List Tk) (k : Nat) (n : Dn) (t x z : Int) (w : World) (hs : s.size ≤ 4000) (hcl : Clean s) (hT : Toks s 0 T) (hD : Dt T k n) (hk2 : k ≤ 10) (hn : DnOk t z n) (hz0 : -1439 ≤ z) (hz1 : z ≤ 1439) (ht0 : 0 ≤ t) (ht1 : t ≤ 253402300799) (hx : x = t - 60 * z) (hx0 : 0 ≤ x) (hx1 : x ≤ 253402300799) (hM : MTab w) (hDy : DTab w) (hW : WkOk s T k) :
    Calls Tryz.prog 8 #[.string s] w fun e w' => e = .returned (.agg #[.bool true, .int .i64 x, .int .i64 z]) ∧ Below w.heap.size w w' := by
  have hTL := mkH (fun w => implTooLong s w (by omega))
  have y0 : decide ((100000 : Int) < (s.size : Int)) = false := by simp; omega
  rw [y0] at hTL
  have Hcl := mkH hcl
  have HT := mkH hT
  have HD := mkH hD
  have Hn := mkH hn
  have HM := mkH hM
  have HDy := mkH hDy
  have HW := mkH hW
  have Hx := mkH hx
  clear hcl hT hD hn hM hDy hW hx
  go_enter Tryz.func8, Tryz.ntmps8
  go_wp2_with (go_at_call 22; go_must (refine (hTL.out _).mono ?_; rintro e w3 ⟨rfl, rfl⟩))
  obtain ⟨G, hG⟩ : ∃ G, G = w.heap.size := ⟨_, rfl⟩
  obtain ⟨V, hV⟩ : ∃ V, V = (w.alloc (Obj.cells #[Value.bool false, Value.int IntKind.i64 0, Value.int IntKind.i64 0] 27)).alloc (Obj.cells #[Value.string s, Value.int IntKind.i64 0, Value.int IntKind.i64 0, Value.slice none 0 0, Value.int IntKind.i64 0, Value.bool false] 49) := ⟨_, rfl⟩
  have hbV := mkH (show Below w.heap.size w V from by rw [hV]; exact ((Below.refl _ _).alloc (Nat.le_refl _) _).alloc (by simp) _)
  have hVs : V.heap.size = w.heap.size + 2 := by rw [hV]; simp
  have hR0 : V.heap[w.heap.size]? = some (.cells #[Value.bool false, Value.int IntKind.i64 0, Value.int IntKind.i64 0] 27 (0, 0)) := by rw [hV, heap_alloc_old _ _ _ (by simp)]; exact heap_alloc_at _ _
  have hR1 : V.heap[w.heap.size + 1]? = some (Obj.cells #[Value.string s, Value.int IntKind.i64 0, Value.int IntKind.i64 0, Value.slice none 0 0, Value.int IntKind.i64 0, Value.bool false] 49 (0, 0)) := by
    rw [hV]
    have := heap_alloc_at (w.alloc (Obj.cells #[Value.bool false, Value.int IntKind.i64 0, Value.int IntKind.i64 0] 27)) (Obj.cells #[Value.string s, Value.int IntKind.i64 0, Value.int IntKind.i64 0, Value.slice none 0 0, Value.int IntKind.i64 0, Value.bool false] 49)
    simpa using this
  rw [← hV]
  have HR0 := mkH hR0
  have hMV := mkH (MTab.on HM.out hbV.out)
  have hDV := mkH (DTab.on HDy.out hbV.out)
  have hgM : 1 < w.heap.size := cell_ltD (HM.out 0 (by decide))
  have hgD : 0 < w.heap.size := cell_ltD (HDy.out 0 (by decide))
  clear hR0 hV
  have cS := mkH (implScan (w.heap.size + 1) s T V hs Hcl.out HT.out hR1)
  clear hR1 HM HDy
  refine cS.out.mono ?_
  rintro e w1 ⟨rfl, v, hOw, hDr, hg1⟩
  clear cS
  have hTl := HD.out.len
  obtain ⟨q1, cap, rfl⟩ : ∃ q1 cap, v = .slice (some ⟨q1, 0, none⟩) T.length cap := by
    rcases hOw.form with ⟨-, e⟩ | h
    · rw [e] at hTl; simp at hTl
    · exact h
  have r1 := mkH (show Rd V.heap.size T (w.heap.size + 1) s (q1, cap) 0 false w1 from ⟨hDr, hOw, by omega⟩)
  clear hOw hDr
  generalize hB : V.heap.size = B at *
  have hl100 : T.length ≤ 100 := by omega
  have Hkd := mkH HD.out.kinds
  have Hg1 := mkH hg1
  clear hg1
  go_wp2_with fail
  refine (HW.out B _ _ w1 r1.out (dtab_gr hDV.out Hg1.out (by omega))).mono ?_
  rintro e w2 ⟨rfl, r2, hg2⟩
  have Hg2 := mkH (grown_trans Hg1.out hg2)
  clear r1 hg2 HW Hg1
  obtain ⟨td, hd1, hd2⟩ := HD.out.day
  go_wp2_with fail
  refine (rdDigits B _ k T s _ false td 1 2 w2 r2 hl100 hs Hkd.out hd1 hd2.kind (by have := hd2.size; omega) (by have := hd2.size; omega) (by omega) hd2.all).mono ?_
  rintro e w3 ⟨rfl, r3, hg3⟩
  have Hg3 := mkH (grown_trans Hg2.out hg3)
  clear r2 hg3 Hg2
  have cN := mkH (implNumberOf td.text w3 hd2.all (by intro e; have h := hd2.size; have : td.text.data.toList.length = td.text.size := by simp
                                                      rw [e] at this; simp at this; omega) (by have := hd2.size; omega))
  rw [hd2.num] at cN
  clear hd1 hd2
  go_wp2_with fail
  refine cN.out.mono ?_
  rintro e w4 ⟨rfl, hb4⟩
  have r4 := r3.below hb4
  have Hg4 := mkH (grown_trans Hg3.out (grown_below (r := some (w.heap.size + 1)) hb4))
  clear r3 hb4 Hg3 cN
  obtain ⟨am, hm1⟩ := HD.out.month
  have cM := mkH (rdMonth B _ (k + 1) T s _ false n.mo am w4 r4 hl100 hs Hkd.out Hn.out.mo hm1 (mtab_gr hMV.out Hg4.out (by omega)) (by omega))
  clear hm1
  go_wp2_with fail
  refine cM.out.mono ?_
  rintro e w5 ⟨rfl, r5, hg5⟩
  have Hg5 := mkH (grown_trans Hg4.out hg5)
  clear r4 hg5 Hg4 cM
  obtain ⟨ty, hy1, hy2⟩ := HD.out.year
  have cY := mkH (rdYear B _ (k + 1 + 1) T s _ false ty w5 r5 hl100 hs Hkd.out hy1 hy2.kind hy2.size hy2.all)
  rw [hy2.num] at cY
  clear hy1 hy2
  go_wp2_with fail
  refine cY.out.mono ?_
  rintro e w6 ⟨rfl, r6, hg6⟩
  have Hg6 := mkH (grown_trans Hg5.out hg6)
  clear r5 hg6 Hg5 cY
  obtain ⟨ca, cb, cc, cd, ce, u1, u2, u3, u4, u5, u6, u7, u8, u9, u10⟩ := HD.out.clock
  have cC := mkH (rdClock B _ (k + 1 + 1 + 1) T s _ false ca cb cc cd ce n.hh n.mm n.ss w6 r6 hl100 hs Hkd.out u1 u2 u3 u4 u5 u6 u7 u8 u9 u10 Hn.out.hh Hn.out.mm Hn.out.ss)
  rw [Hn.out.clock] at cC
  clear u1 u2 u3 u4 u5 u6 u7 u8 u9 u10
  go_wp2_with fail
  refine cC.out.mono ?_
  rintro e w7 ⟨rfl, r7, hg7⟩
  have Hg7 := mkH (grown_trans Hg6.out hg7)
  clear r6 hg7 Hg6 cC
  obtain ⟨zx, za, zp, z1, z2, z3, z4, z5⟩ := HD.out.zone
  have hzh := Hn.out.zh
  have hzm := Hn.out.zm
  have cZ := mkH (rdZone B _ (k + 1 + 1 + 1 + 1 + 1 + 1 + 1 + 1) T s _ false zx za (n.zh * 100 + n.zm) n.neg w7 r7 hl100 hs Hkd.out z1 zp z2 z3 z4 z5 (by omega) (by omega))
  rw [Hn.out.zone] at cZ
  clear z1 z2 z3 z4 z5 zp hzh hzm
  go_wp2_with fail
  refine cZ.out.mono ?_
  rintro e w8 ⟨rfl, r8, hg8⟩
  have Hg8 := mkH (grown_trans Hg7.out hg8)
  clear r7 hg8 Hg7 cZ
  have cO := mkH (rdOver B _ (k + 1 + 1 + 1 + 1 + 1 + 1 + 1 + 1 + 1) T s _ false w8 r8 hl100 hs Hkd.out (by omega))
  obtain ⟨-, -, -, l5, -⟩ := r8.dr.cells
  go_wp2_with fail
  refine cO.out.mono ?_
  rintro e w9 ⟨rfl, hb9⟩
  have hbW := mkH (((hbV.out.grown Hg8.out hbV.out.size (fun j hj => by cases hj; omega))).trans (hb9.mono (by have := hbV.out.size; have := Hg8.out.size; omega)))
  have hR9 := mkH (show w9.heap[w.heap.size]? = some (.cells #[Value.bool false, Value.int IntKind.i64 0, Value.int IntKind.i64 0] 27 (0, 0)) from by
    rw [hb9.block _ (by have := hbV.out.size; have := Hg8.out.size; omega), Hg8.out.block _ (by omega) (by intro e; injection e with e; omega)]
    exact HR0.out)
  clear cO r8 hb9 Hg8 HR0 l5 hMV hDV
  have hd1 := Hn.out.d1
  have hd2 := Hn.out.d2
  have hy1 := Hn.out.y1
  have hy2 := Hn.out.y2
  have hmo := Hn.out.mo
  have hday := Hn.out.day
  have cD := mkH (fun w => implDays (n.yy : Int) (n.mo : Int) w (by omega) (by omega) (by omega) (by omega))
  have cB := mkH (fun w => implBeforeMonth (n.yy : Int) n.mo w (by omega) (by omega) (by omega))
  have cT := mkH (fun w => implIsTime x w)
  have e1 : (decide (0 ≤ x) && decide (x ≤ 253402300799)) = true := by simp; omega
  rw [e1] at cT
  have hdm := (Pl.dm_pos n.yy (n.mo + 1)).2
  generalize Pl.dm n.yy (n.mo + 1) = dm at *
  generalize Pl.beg n.yy + dsum n.yy n.mo = bd at *
  generalize n.dd = dd at *
  generalize n.mo = mo at *
  generalize n.yy = yy at *
  have hxe := Hx.out
  clear Hn HD Hkd Hx HT Hcl
  obtain ⟨cl, hcl⟩ : ∃ cl, t % 86400 = cl := ⟨_, rfl⟩
  have hcl0 : 0 ≤ cl ∧ cl < 86400 := by omega
  have hbd0 : bd = t / 86400 - (dd : Int) + 1 := by omega
  have hbd1 : -40 ≤ bd ∧ bd ≤ 3000000 := by omega
  have hxe2 : cl + (86400 * (bd + (dd : Int) - 1) - 60 * z) = x := by omega
  rw [hcl]
  clear hday hcl hbd0 hxe ht0 ht1
  have f1 : decide ((dd : Int) < 1) = false := by simp; omega
  have f2 : decide (dm < (dd : Int)) = false := by simp; omega
  go_wp2_with fail
  refine (cD.out _).mono ?_
  rintro e w10 ⟨rfl, rfl⟩
  have hw1 := wrap_in (bd + (dd : Int)) (by omega) (by omega)
  have hw2 := wrap_in (bd + (dd : Int) - 1) (by omega) (by omega)
  have hw3 := wrap_in (86400 * (bd + (dd : Int) - 1)) (by omega) (by omega)
  have hw4 := wrap_in (60 * z) (by omega) (by omega)
  have hw5 := wrap_in (86400 * (bd + (dd : Int) - 1) - 60 * z) (by omega) (by omega)
  have hw6 := wrap_in x (by omega) (by omega)
  go_wp2_with fail
  refine (cB.out _).mono ?_
  rintro e w11 ⟨rfl, rfl⟩
  go_wp2_with fail
  refine (cT.out _).mono ?_
  rintro e w12 ⟨rfl, rfl⟩
  have hr9 := hR9.out
  go_wp2_with (first | (refine wpL_store_row rfl 27 _ _ rfl w.heap.size #[.bool true, .int .i64 x, .int .i64 z] rfl rfl 27 _ hr9 (by kernel_rfl) rfl (by simp [Value.oneCell']) ?_) | go_in)
  refine bodyPost_ret (v := .agg #[.bool true, .int .i64 x, .int .i64 z]) (results_cell_row Tryz.results8 _ _ w.heap.size 27 _ (0, 0) _ rfl (setRow_heap _ _ _ _ _ _ hr9) Tryz.underlying27 rfl (by kernel_rfl)) rfl ⟨rfl, ?_⟩
  exact hbW.out.grown (grown_setRow _ _ _) hbW.out.size (fun j hj => by cases hj; exact Nat.le_refl _)
end Go.Proofs.YtacmhofekdjobaaGreatDoor
