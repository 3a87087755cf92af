
/- The specification's ReadReplies. (By tools/gen/specreplies.py.) -/
import Derived.Test.YtmclnkcpflehdaaDoorReplyMem2
import Derived.Test.YtmclnkcpflehdaaDoorReplyTests
import Derived.Test.YtmclnkcpflehdaaDoorSpecEnds
import Derived.OrdersHeld
import Derived.RegionTactic
namespace Go.Proofs.YtmclnkcpflehdaaDoor
open Go.RowKit Go.Lib Go.Maps
set_option maxRecDepth 20000 in
theorem Rl.ends_eq (s : ByteArray) : endsLine s = Rl.ends s.data.toList := by
  unfold endsLine Rl.ends
  have hl : s.data.toList.length = s.size := by simp
  rw [hl, Pl.ext_list]
  by_cases h : 2 ≤ s.size
  · rw [List.take_of_length_le (by simp)]
  · rw [decide_eq_false h]; rfl
set_option maxRecDepth 20000 in
theorem two_cellsR {w : World} {b : Nat} {x y : Value} {t : TypeId} {z : Nat × Nat} (h : w.heap[b]? = some (.cells #[x, y] t z)) : w.cell? ⟨b, 0, none⟩ = some x ∧ w.cell? ⟨b, 1, none⟩ = some y := by
  constructor <;> simp [World.cell?, h]
set_option maxRecDepth 20000 in
theorem two_frozenR {w : World} {b : Nat} {x y : Value} {t : TypeId} (h : w.heap[b]? = some (.cells #[x, y] t (0, 0))) (j : Nat) : w.frozen? ⟨b, j, none⟩ = false := by
  simp [World.frozen?, h]
set_option maxRecDepth 20000 in
theorem Rp.rowOther {B G t : Nat} {v : Value} {E : List RpE} {w : World} {cs : Array Value} {z : Nat × Nat} (h : Rp B v E w) (hu : w.heap[G]? = some (.cells cs t z)) (ht : t ≠ 34) : some G ≠ v.ownBlock := by
  rcases h.row.2 with ⟨rfl, -⟩ | ⟨g, cap, cur, rfl, -, hg, -⟩
  · simp [Value.ownBlock]
  · intro e
    simp only [Value.ownBlock, Option.some.injEq] at e
    subst e
    rw [hu] at hg
    simp only [Option.some.injEq, Obj.cells.injEq] at hg
    exact ht hg.2.1
set_option maxRecDepth 20000 in
theorem OwnX.apartR {B : Nat} {v : Value} {C : List ByteArray} {w : World} {G t : Nat} {cs : Array Value} {z : Nat × Nat} (h : OwnX B v C w) (hu : w.heap[G]? = some (.cells cs t z)) (ht : t ≠ 9) : some G ≠ v.ownBlock := by
  rcases h.2 with ⟨rfl, -⟩ | ⟨g, cap, cur, rfl, -, hg, -⟩
  · simp [Value.ownBlock]
  · intro e
    simp only [Value.ownBlock, Option.some.injEq] at e
    subst e
    rw [hu] at hg
    simp only [Option.some.injEq, Obj.cells.injEq] at hg
    exact ht hg.2.1
set_option maxRecDepth 20000 in
theorem lastOf (E : List RpE) (R : List GReply) (c : Int) (P : List ByteArray) (h : E.map (·.1) = R ++ [⟨c, P⟩]) : ∃ q, ∃ hq : q < E.length, E.length = q + 1 ∧ q = R.length ∧ E[q].1 = ⟨c, P⟩ := by
  have hl : E.length = R.length + 1 := by have := congrArg List.length h; simpa using this
  have hq : R.length < E.length := by omega
  refine ⟨R.length, hq, hl, rfl, ?_⟩
  have h1 : (E.map (·.1))[R.length]? = (R ++ [⟨c, P⟩])[R.length]? := by rw [h]
  rw [List.getElem?_map, List.getElem?_eq_getElem hq, List.getElem?_append_right (Nat.le_refl _), Nat.sub_self] at h1
  simpa using h1
set_option maxRecDepth 20000 in
theorem lines_packR (s : ByteArray) : ∃ ls, ls = Pl.lines s.data.toList ∧ ls.length ≤ s.size ∧ ∀ (k : Nat) (h : k < ls.length), ls[k].length ≤ s.size := by
  have hll : s.data.toList.length = s.size := by simp
  refine ⟨_, rfl, ?_, ?_⟩
  · have := Pl.lines_total _ s.data.toList (Nat.le_refl _); omega
  · intro k h; rw [← hll]; exact Pl.line_len s.data.toList k h
set_option maxHeartbeats 40000000 in
set_option maxRecDepth 20000 in
theorem specReplies (s : ByteArray) (w : World) (hs : s.size ≤ 1048576) :
    Calls Tryd.prog 4 #[.string s] w fun e w' => RpOut w.heap.size (Rl.ans s) w e w' := by
  have hroom := mkHid (roomR w)
  obtain ⟨W, hW⟩ : ∃ W, W = w.alloc (.cells #[.bool false, .slice none 0 0] 24) := ⟨_, rfl⟩
  rw [← hW] at hroom
  have HW := mkHid hW
  have cE := mkHid (fun w' => specEnds s w' (by omega))
  rw [Rl.ends_eq s] at cE
  have hA := Rl.ans_spec s
  obtain ⟨Z, hZ⟩ : ∃ Z, Rl.ans s = Z := ⟨_, rfl⟩
  rw [hZ] at hA ⊢
  have HA := mkHid hA
  clear hA hZ hW
  have htl : s.toList = s.data.toList := ByteArray.toList_eq s
  by_cases hbig : 100000 < s.size
  · have x1 : decide ((100000 : Int) < (s.size : Int)) = true := by simp; omega
    have hz : Hid (Z = none) := show _ = _ from by rw [HA.out, if_neg (by rintro ⟨h, -⟩; omega)]
    obtain ⟨q0, q1, g0, g1⟩ := hroom.out.on (Below.refl _ _)
    rw [hz.out]
    clear HA cE htl
    go_enter Tryd.func4, Tryd.ntmps4
    go_wp2
    refine bodyPost_ret (v := .agg #[.bool false, .slice none 0 0]) (by simp [results, Tryd.results4, go_sem]) rfl (outNone ?_)
    exact (Below.refl _ _).alloc (Nat.le_refl _) _
  have x1 : decide ((100000 : Int) < (s.size : Int)) = false := by simp; omega
  by_cases hbad : s.data.toList ≠ [] ∧ Rl.ends s.data.toList = false
  · have hz : Hid (Z = none) := show _ = _ from by rw [HA.out, if_neg (by rintro ⟨-, h | h⟩; exact hbad.1 h; rw [hbad.2] at h; cases h)]
    have xe : (s.toList == ([] : List UInt8)) = false := by rw [htl]; simpa using hbad.1
    have xn : (s.toList != ([] : List UInt8)) = true := by rw [bne, xe]; rfl
    have xp : ¬ s.toList = [] := by rw [htl]; exact hbad.1
    rw [hbad.2] at cE
    obtain ⟨q0, q1, g0, g1⟩ := hroom.out.on (Below.refl _ _)
    rw [hz.out]
    clear HA htl hbad
    go_enter Tryd.func4, Tryd.ntmps4
    go_wp2_with (go_at_call 9; fail)
    rw [← HW.out]
    refine (cE.out _).mono ?_
    rintro e wE ⟨rfl, rfl⟩
    go_wp2
    refine bodyPost_ret (v := .agg #[.bool false, .slice none 0 0]) (by simp [results, Tryd.results4, go_sem, q0, q1]) rfl (outNone ?_)
    exact ((hroom.out.below.setCell (p := ⟨w.heap.size, 0, none⟩) (Nat.le_refl _) _).setCell (p := ⟨w.heap.size, 1, none⟩) (Nat.le_refl _) _)
  have hgood : s.data.toList = [] ∨ Rl.ends s.data.toList = true := by
    by_cases h : s.data.toList = []
    · exact .inl h
    · right
      cases he : Rl.ends s.data.toList
      · exact absurd ⟨h, he⟩ hbad
      · rfl
  obtain ⟨ls, hls, htot, hline⟩ := lines_packR s
  have HR0 : Hid (Rl.rd (ls.drop 0) [] 0 [] = Z) := show _ = _ from by rw [HA.out, if_pos ⟨by omega, hgood⟩, List.drop_zero, hls]
  have Hls := mkHid hls
  have Hline := mkHid hline
  have cL := mkHid (specLines s W (by omega))
  rw [← hls] at cL
  clear HA hbad hline hls

  by_cases hemp : s.data.toList = []
  · skip
    have xe : (s.toList == ([] : List UInt8)) = true := by rw [htl]; simpa using hemp
    have xn : (s.toList != ([] : List UInt8)) = false := by rw [bne, xe]; rfl
    have xp : s.toList = [] := by rw [htl]; exact hemp
    have hls0 : ls.length = 0 := by rw [Hls.out, hemp]; rfl
    clear htl hgood hemp cE
    go_enter Tryd.func4, Tryd.ntmps4
    go_wp2_with (go_at_call 10; fail)
    rw [← HW.out]
    refine cL.out.mono ?_
    rintro e w1 ⟨v, rfl, hownL, hb1⟩
    obtain ⟨ao, capL, hv, hrow⟩ := hownL.row
    rw [hv]
    have hrm := mkHid (hroom.out.on hb1)
    have hbw := mkHid (hroom.out.below.trans (hb1.mono hroom.out.below.size))
    have hgw : w.heap.size < w1.heap.size := by have := hroom.out.size; have := hb1.size; omega
    have Hrow := mkHid hrow
    clear hownL hv cL hb1 hrow
    obtain ⟨V, hV⟩ : ∃ V, V = w1.alloc (.cells #[.bool true, .slice none 0 0] 24) := ⟨_, rfl⟩
    have bV : Below w1.heap.size w1 V := by rw [hV]; exact (Below.refl _ _).alloc (Nat.le_refl _) _
    have hO0 : Hid (V.heap[w1.heap.size]? = some (.cells #[.bool true, .slice none 0 0] 24 (0, 0))) := show _ = _ from by rw [hV]; exact heap_alloc_at _ _
    have HV := mkHid hV
    have HbV := mkHid bV
    clear hV bV
    generalize hGO : w1.heap.size = GO at *
    go_wp2
    go_loopw [5, 6] (fun ov iv wr => ∃ (i : Nat) (R : List GReply) (c : Int) (P : List ByteArray) (E : List RpE) (o : Option Addr) (cap nn : Nat) (b : Bool), i ≤ ls.length ∧ iv = .int .i64 i ∧ ov = .bool b ∧ Hid (b = !P.isEmpty) ∧ Hid (Rl.rd (ls.drop i) R c P = Z) ∧ Hid (E.map (·.1) = R ++ Rl.tl c P) ∧ nn ≤ i ∧ P.length ≤ i ∧ Hid (E.length = nn) ∧ Hid (Rp (GO + 1) (.slice o nn cap) E wr) ∧ Hid (wr.heap[GO]? = some (.cells #[.bool true, .slice o nn cap] 24 (0, 0))) ∧ Hid (Below GO w1 wr)) (fun _ iv _ => ls.length - (Lib.intOf iv).toNat)
    case atStart =>
      refine ⟨0, [], 0, [], [], none, 0, 0, false, Nat.zero_le _, rfl, rfl, rfl, HR0, rfl, Nat.le_refl _, Nat.le_refl _, rfl, Rp.nil _ _, ?_, ?_⟩
      · first | exact hO0 | (rw [hGO] at *; rw [← HV.out]; exact hO0) | (rw [← HV.out]; exact hO0)
      · first | exact HbV | (rw [← HV.out]; exact HbV)
    case round =>
      clear HR0 hO0 HV HbV
      obtain ⟨i, R, c, P, E, o, cap, nn, b, hi, rfl, rfl, hb0, hz0, hE0, hEl, hPl, hnn, hRp, hO, hB⟩ := hrel
      have hOs : GO < wr.heap.size := heap_lt hO.out
      obtain ⟨q0', q1', g0', g1'⟩ := hrm.out
      have q0 := (hB.out.cell (p := ⟨w.heap.size, 0, none⟩) hgw).trans q0'
      have q1 := (hB.out.cell (p := ⟨w.heap.size, 1, none⟩) hgw).trans q1'
      have g0 := (hB.out.frozen (p := ⟨w.heap.size, 0, none⟩) hgw).trans g0'
      have g1 := (hB.out.frozen (p := ⟨w.heap.size, 1, none⟩) hgw).trans g1'
      have hbF := mkHid (hbw.out.trans (hB.out.mono (Nat.le_of_lt hgw)))
      clear q0' q1' g0' g1'
      by_cases hlt : i < ls.length
      rotate_left
      · have hz1 := hz0.out
        rw [Rl.rd_end ls i (by omega)] at hz1
        obtain ⟨y0, y1⟩ := two_cellsR hO.out
        have z0 := two_frozenR hO.out 0
        have z1 := two_frozenR hO.out 1
        by_cases hP : P = []
        · rw [if_pos hP] at hz1
          have hbv : b = false := by rw [hb0.out, hP]; rfl
          subst hbv
          have hE1 : Hid (E.map (·.1) = R) := show _ = _ from by rw [hE0.out, hP]; simp [Rl.tl]
          have HZ := mkHid hz1
          clear hz0 hE0 hb0 hz1 hP
          go_wp2
          refine bodyPost_ret (v := .agg #[.bool true, .slice o nn cap]) (by simp [results, Tryd.results4, go_sem, q0, q1]) rfl ?_
          rw [← HZ.out]
          exact outSome R (((hRp.out.set (R0 := w.heap.size) (by omega)).set (R0 := w.heap.size) (by omega)).lower (by omega)) hE1.out ((hbF.out.setCell (p := ⟨w.heap.size, 0, none⟩) (Nat.le_refl _) _).setCell (p := ⟨w.heap.size, 1, none⟩) (Nat.le_refl _) _)
        · rw [if_neg hP] at hz1
          have hbv : b = true := by
            rw [hb0.out]
            cases P with
            | nil => exact absurd rfl hP
            | cons _ _ => rfl
          subst hbv
          have hz : Hid (Z = none) := hz1.symm
          clear hz0 hE0 hb0 hz1
          go_wp2
          refine bodyPost_ret (v := .agg #[.bool false, .slice none 0 0]) (by simp [results, Tryd.results4, go_sem, q0, q1]) rfl ?_
          rw [hz.out]
          exact outNone ((hbF.out.setCell (p := ⟨w.heap.size, 0, none⟩) (Nat.le_refl _) _).setCell (p := ⟨w.heap.size, 1, none⟩) (Nat.le_refl _) _)
      exfalso
      omega
  · skip
    have xe : (s.toList == ([] : List UInt8)) = false := by rw [htl]; simpa using hemp
    have xn : (s.toList != ([] : List UInt8)) = true := by rw [bne, xe]; rfl
    have xp : ¬ s.toList = [] := by rw [htl]; exact hemp
    rw [show Rl.ends s.data.toList = true from hgood.elim (fun h => absurd h hemp) id] at cE
    clear htl hgood hemp
    go_enter Tryd.func4, Tryd.ntmps4
    go_wp2_with (go_at_call 9; fail)
    rw [← HW.out]
    refine (cE.out _).mono ?_
    rintro e wE ⟨rfl, rfl⟩
    go_wp2_with (go_at_call 10; fail)
    refine cL.out.mono ?_
    rintro e w1 ⟨v, rfl, hownL, hb1⟩
    obtain ⟨ao, capL, hv, hrow⟩ := hownL.row
    rw [hv]
    have hrm := mkHid (hroom.out.on hb1)
    have hbw := mkHid (hroom.out.below.trans (hb1.mono hroom.out.below.size))
    have hgw : w.heap.size < w1.heap.size := by have := hroom.out.size; have := hb1.size; omega
    have Hrow := mkHid hrow
    clear hownL hv cL hb1 hrow
    obtain ⟨V, hV⟩ : ∃ V, V = w1.alloc (.cells #[.bool true, .slice none 0 0] 24) := ⟨_, rfl⟩
    have bV : Below w1.heap.size w1 V := by rw [hV]; exact (Below.refl _ _).alloc (Nat.le_refl _) _
    have hO0 : Hid (V.heap[w1.heap.size]? = some (.cells #[.bool true, .slice none 0 0] 24 (0, 0))) := show _ = _ from by rw [hV]; exact heap_alloc_at _ _
    have HV := mkHid hV
    have HbV := mkHid bV
    clear hV bV
    generalize hGO : w1.heap.size = GO at *
    go_wp2
    go_loopw [5, 6] (fun ov iv wr => ∃ (i : Nat) (R : List GReply) (c : Int) (P : List ByteArray) (E : List RpE) (o : Option Addr) (cap nn : Nat) (b : Bool), i ≤ ls.length ∧ iv = .int .i64 i ∧ ov = .bool b ∧ Hid (b = !P.isEmpty) ∧ Hid (Rl.rd (ls.drop i) R c P = Z) ∧ Hid (E.map (·.1) = R ++ Rl.tl c P) ∧ nn ≤ i ∧ P.length ≤ i ∧ Hid (E.length = nn) ∧ Hid (Rp (GO + 1) (.slice o nn cap) E wr) ∧ Hid (wr.heap[GO]? = some (.cells #[.bool true, .slice o nn cap] 24 (0, 0))) ∧ Hid (Below GO w1 wr)) (fun _ iv _ => ls.length - (Lib.intOf iv).toNat)
    case atStart =>
      refine ⟨0, [], 0, [], [], none, 0, 0, false, Nat.zero_le _, rfl, rfl, rfl, HR0, rfl, Nat.le_refl _, Nat.le_refl _, rfl, Rp.nil _ _, ?_, ?_⟩
      · first | exact hO0 | (rw [hGO] at *; rw [← HV.out]; exact hO0) | (rw [← HV.out]; exact hO0)
      · first | exact HbV | (rw [← HV.out]; exact HbV)
    case round =>
      clear HR0 hO0 HV HbV
      obtain ⟨i, R, c, P, E, o, cap, nn, b, hi, rfl, rfl, hb0, hz0, hE0, hEl, hPl, hnn, hRp, hO, hB⟩ := hrel
      have hOs : GO < wr.heap.size := heap_lt hO.out
      obtain ⟨q0', q1', g0', g1'⟩ := hrm.out
      have q0 := (hB.out.cell (p := ⟨w.heap.size, 0, none⟩) hgw).trans q0'
      have q1 := (hB.out.cell (p := ⟨w.heap.size, 1, none⟩) hgw).trans q1'
      have g0 := (hB.out.frozen (p := ⟨w.heap.size, 0, none⟩) hgw).trans g0'
      have g1 := (hB.out.frozen (p := ⟨w.heap.size, 1, none⟩) hgw).trans g1'
      have hbF := mkHid (hbw.out.trans (hB.out.mono (Nat.le_of_lt hgw)))
      clear q0' q1' g0' g1'
      by_cases hlt : i < ls.length
      rotate_left
      · have hz1 := hz0.out
        rw [Rl.rd_end ls i (by omega)] at hz1
        obtain ⟨y0, y1⟩ := two_cellsR hO.out
        have z0 := two_frozenR hO.out 0
        have z1 := two_frozenR hO.out 1
        by_cases hP : P = []
        · rw [if_pos hP] at hz1
          have hbv : b = false := by rw [hb0.out, hP]; rfl
          subst hbv
          have hE1 : Hid (E.map (·.1) = R) := show _ = _ from by rw [hE0.out, hP]; simp [Rl.tl]
          have HZ := mkHid hz1
          clear hz0 hE0 hb0 hz1 hP
          go_wp2
          refine bodyPost_ret (v := .agg #[.bool true, .slice o nn cap]) (by simp [results, Tryd.results4, go_sem, q0, q1]) rfl ?_
          rw [← HZ.out]
          exact outSome R (((hRp.out.set (R0 := w.heap.size) (by omega)).set (R0 := w.heap.size) (by omega)).lower (by omega)) hE1.out ((hbF.out.setCell (p := ⟨w.heap.size, 0, none⟩) (Nat.le_refl _) _).setCell (p := ⟨w.heap.size, 1, none⟩) (Nat.le_refl _) _)
        · rw [if_neg hP] at hz1
          have hbv : b = true := by
            rw [hb0.out]
            cases P with
            | nil => exact absurd rfl hP
            | cons _ _ => rfl
          subst hbv
          have hz : Hid (Z = none) := hz1.symm
          clear hz0 hE0 hb0 hz1
          go_wp2
          refine bodyPost_ret (v := .agg #[.bool false, .slice none 0 0]) (by simp [results, Tryd.results4, go_sem, q0, q1]) rfl ?_
          rw [hz.out]
          exact outNone ((hbF.out.setCell (p := ⟨w.heap.size, 0, none⟩) (Nat.le_refl _) _).setCell (p := ⟨w.heap.size, 1, none⟩) (Nat.le_refl _) _)
      obtain ⟨g, hg, hao, hcell⟩ := Hrow.out i hlt
      subst hao
      have hll := Hline.out i hlt
      have hz1 := hz0.out
      rw [List.drop_eq_getElem_cons hlt] at hz1
      have hc := (hB.out.cell (p := ⟨g, i, none⟩) (by show g < GO; omega)).trans hcell
      unfold txtL at hc
      generalize ls[i] = xl at *
      obtain ⟨T, hT⟩ : ∃ T : ByteArray, (⟨xl.toArray⟩ : ByteArray) = T := ⟨_, rfl⟩
      have hTl : T.data.toList = xl := by rw [← hT]
      have hTs : T.size ≤ 100000 := by
        have : T.size = T.data.toList.length := by simp
        rw [this, hTl]; omega
      rw [hT] at hc
      have hcL0 := hcell
      unfold txtL at hcL0
      rw [hT] at hcL0
      have hcL := mkHid hcL0
      clear hcL0
      rw [← hTl] at hz1
      have HZ1 := mkHid hz1
      clear hz0 hz1 hcell hll hT hTl
      have hll : T.data.toList.length = T.size := by simp
      by_cases h4 : 4 ≤ T.size
      rotate_left
      · have x4 : decide ((T.size : Int) < 4) = true := by simp; omega
        have hz : Hid (Z = none) := show _ = _ from by rw [← HZ1.out]; exact Rl.bad _ _ _ _ _ (.inl (by unfold Rl.ok; rw [hll, decide_eq_false h4]; rfl))
        clear HZ1 hll hb0 hE0 hRp
        go_wp2
        refine bodyPost_ret (v := .agg #[.bool false, .slice none 0 0]) (by simp [results, Tryd.results4, go_sem, q0, q1]) rfl ?_
        rw [hz.out]
        exact outNone ((hbF.out.setCell (p := ⟨w.heap.size, 0, none⟩) (Nat.le_refl _) _).setCell (p := ⟨w.heap.size, 1, none⟩) (Nat.le_refl _) _)
      have x4 : decide ((T.size : Int) < 4) = false := by simp; omega
      have g3 : 3 < T.size := Nat.lt_of_lt_of_le (by decide) h4
      have hat := Rl.at_get T 3 g3
      have h8 : (T[3]'g3).toNat < 256 := UInt8.toNat_lt _
      by_cases hsep : (Rl.at_ T.data.toList 3 == 32 || Rl.at_ T.data.toList 3 == 45) = true
      rotate_left
      · rw [Bool.not_eq_true] at hsep
        have hs2 := hsep
        rw [hat, Bool.or_eq_false_iff, beq_eq_false_iff_ne, beq_eq_false_iff_ne] at hs2
        have y1 : (((T[3]'g3).toNat : Int) != 32) = true := by rw [bne_iff_ne]; intro e; exact hs2.1 (UInt8.toNat_inj.1 (by show (T[3]'g3).toNat = 32; omega))
        have y2 : (((T[3]'g3).toNat : Int) != 45) = true := by rw [bne_iff_ne]; intro e; exact hs2.2 (UInt8.toNat_inj.1 (by show (T[3]'g3).toNat = 45; omega))
        have hz : Hid (Z = none) := show _ = _ from by rw [← HZ1.out]; exact Rl.bad _ _ _ _ _ (.inl (by unfold Rl.ok; rw [hsep]; simp))
        clear HZ1 hll hb0 hE0 hRp hsep hs2 hat
        go_wp2
        refine bodyPost_ret (v := .agg #[.bool false, .slice none 0 0]) (by simp [results, Tryd.results4, go_sem, q0, q1]) rfl ?_
        rw [hz.out]
        exact outNone ((hbF.out.setCell (p := ⟨w.heap.size, 0, none⟩) (Nat.le_refl _) _).setCell (p := ⟨w.heap.size, 1, none⟩) (Nat.le_refl _) _)
      obtain ⟨hok1, hok2⟩ := Rl.ok_num T.data.toList (by rw [hll]; exact h4) hsep
      have hm45 : (((T[3]'g3).toNat : Int) == 45) = Rl.more T.data.toList := by
        unfold Rl.more
        rw [hat, Bool.eq_iff_iff, beq_iff_eq, beq_iff_eq]
        exact ⟨fun e => UInt8.toNat_inj.1 (by show (T[3]'g3).toNat = 45; omega), fun e => by rw [e]; rfl⟩
      have hsepI : ((((T[3]'g3).toNat : Int) != 32) && (((T[3]'g3).toNat : Int) != 45)) = false := by
        rw [hat, Bool.or_eq_true, beq_iff_eq, beq_iff_eq] at hsep
        rcases hsep with e | e
        · rw [e]; rfl
        · rw [e]; rfl
      have hx3 : (T.extract 0 3).size = 3 := by rw [ByteArray.size_extract]; omega
      have cN := mkHid (fun w' => specNum3 (T.extract 0 3) w' hx3)
      rw [Pl.ext_data, List.drop_zero] at cN
      simp only [Nat.sub_zero] at cN
      obtain ⟨N, hN⟩ : ∃ N, Cu.numI (T.data.toList.take 3) = N := ⟨_, rfl⟩
      rw [hN] at cN hok1 hok2
      obtain ⟨mo, hmo⟩ : ∃ mo, Rl.more T.data.toList = mo := ⟨_, rfl⟩
      rw [hmo] at hm45
      clear hN hx3 hsep hat

      cases y1 : (((T[3]'g3).toNat : Int) != 32)
      · skip
        clear hsepI
        cases hok : Rl.ok T.data.toList
        · have hz : Hid (Z = none) := show _ = _ from by rw [← HZ1.out]; exact Rl.bad _ _ _ _ _ (.inl hok)
          have hN2 : N < 200 ∨ 599 < N := by
            rw [hok] at hok1
            by_cases h : 200 ≤ N
            · right
              rw [decide_eq_true h, Bool.true_and] at hok1
              have := of_decide_eq_false hok1.symm
              omega
            · left; omega
          clear HZ1 hll hb0 hE0 hRp hok hok1 hok2 hmo hm45
          by_cases hlo : N < 200
          · have u1 : decide (N < 200) = true := decide_eq_true hlo
            go_wp2_with (go_at_call 11; fail)
            refine (cN.out _).mono ?_
            rintro e wN ⟨rfl, rfl⟩
            go_wp2
            refine bodyPost_ret (v := .agg #[.bool false, .slice none 0 0]) (by simp [results, Tryd.results4, go_sem, q0, q1]) rfl ?_
            rw [hz.out]
            exact outNone ((hbF.out.setCell (p := ⟨w.heap.size, 0, none⟩) (Nat.le_refl _) _).setCell (p := ⟨w.heap.size, 1, none⟩) (Nat.le_refl _) _)
          · have u1 : decide (N < 200) = false := decide_eq_false hlo
            have u2 : decide (599 < N) = true := decide_eq_true (by omega)
            go_wp2_with (go_at_call 11; fail)
            refine (cN.out _).mono ?_
            rintro e wN ⟨rfl, rfl⟩
            go_wp2
            refine bodyPost_ret (v := .agg #[.bool false, .slice none 0 0]) (by simp [results, Tryd.results4, go_sem, q0, q1]) rfl ?_
            rw [hz.out]
            exact outNone ((hbF.out.setCell (p := ⟨w.heap.size, 0, none⟩) (Nat.le_refl _) _).setCell (p := ⟨w.heap.size, 1, none⟩) (Nat.le_refl _) _)
        have hNc : N = Rl.code T.data.toList := hok2 hok
        have hcin := Rl.code_in _ hok
        have u1 : decide (N < 200) = false := decide_eq_false (by omega)
        have u2 : decide (599 < N) = false := decide_eq_false (by omega)
        have hx4 : (T.extract 4 T.size) = Rl.text T.data.toList := by
          rw [Pl.ext_mk, List.take_of_length_le (by simp)]; rfl
        cases b
        · have hP : P = [] := by
            have := hb0.out
            cases P with
            | nil => rfl
            | cons _ _ => cases this
          obtain ⟨R', c', P', e1, e2, e3, e4⟩ := Rl.next T.data.toList (ls.drop (i + 1)) R c P hok (.inl hP)
          rw [HZ1.out] at e1
          rw [← hNc, ← hx4] at e3
          rw [hmo] at e2
          have hEn : Hid ((E ++ [((⟨N, [T.extract 4 T.size]⟩ : GReply), Value.slice (some ⟨wr.heap.size, 0, none⟩) 1 1)]).map (·.1) = R' ++ Rl.tl c' P') := show _ = _ from by
            rw [List.map_append, hE0.out, ← e3, hP]; simp [Rl.tl]
          have E1 : Hid (Rl.rd (ls.drop (i + 1)) R' c' P' = Z) := e1.symm
          have E2 : Hid (mo = !P'.isEmpty) := e2
          have e4' : P'.length ≤ i + 1 := by omega
          obtain ⟨t, ht⟩ : ∃ t, T.extract 4 T.size = t := ⟨_, rfl⟩
          rw [ht] at hEn
          clear HZ1 hok hok1 hok2 hmo e1 e2 e3 e4 hNc hcin hx4 hP hb0 hE0 hll
          obtain ⟨y10, y11⟩ := two_cellsR hO.out
          have hadd := add_off g i
          go_wp2_with (go_at_call 11; fail)
          refine (cN.out _).mono ?_
          rintro e wN ⟨rfl, rfl⟩
          clear cN
          obtain ⟨W2, hW2⟩ : ∃ W2, W2 = (wr.alloc (.cells #[.string t] 9)).alloc (.cells #[.int .i64 N, .slice (some ⟨wr.heap.size, 0, none⟩) 1 1] 34) := ⟨_, rfl⟩
          have b1 : Below wr.heap.size wr (wr.alloc (.cells #[.string t] 9)) := (Below.refl _ _).alloc (Nat.le_refl _) _
          have b2 : Below (wr.alloc (.cells #[.string t] 9)).heap.size (wr.alloc (.cells #[.string t] 9)) W2 := by rw [hW2]; exact (Below.refl _ _).alloc (Nat.le_refl _) _
          have b12 : Below wr.heap.size wr W2 := b1.trans (b2.mono (by simp))
          have hx1 := mkHid ((OwnX.made1 (GO + 1) wr (by omega) t).below b2)
          have hRp2 := mkHid ((hRp.out.below b12).drew)
          have hx2 : Hid (OwnX (GO + 1) (.slice (some ⟨wr.heap.size, 0, none⟩) 1 1) [t] W2.drew) := hx1.out
          have hfar : Hid (∀ (j : Nat) (hj : j < E.length), Far E[j].2 (.slice (some ⟨wr.heap.size, 0, none⟩) 1 1)) := fun j hj => by
            cases ho : E[j].2.ownBlock with
            | none => exact .inl ho
            | some k =>
              right
              rw [ho]
              have := (World.ownsRow.lt (hRp.out.own j hj) k ho).2
              simp only [Value.ownBlock, ne_eq, Option.some.injEq]
              omega
          have hblk : W2.heap[wr.heap.size + 1]? = some (.cells #[.int .i64 N, .slice (some ⟨wr.heap.size, 0, none⟩) 1 1] 34 (0, 0)) := by
            have := heap_alloc_at (wr.alloc (.cells #[.string t] 9)) (.cells #[.int .i64 N, .slice (some ⟨wr.heap.size, 0, none⟩) 1 1] 34)
            rw [← hW2] at this
            rw [show (wr.alloc (.cells #[.string t] 9)).heap.size = wr.heap.size + 1 from by simp] at this
            exact this
          have hn0 : W2.drew.cell? ⟨wr.heap.size + 1, 0, none⟩ = some (.int .i64 N) := (two_cellsR hblk).1
          have hn1 : W2.drew.cell? ⟨wr.heap.size + 1, 1, none⟩ = some (.slice (some ⟨wr.heap.size, 0, none⟩) 1 1) := (two_cellsR hblk).2
          have hO2 : Hid (W2.drew.heap[GO]? = some (.cells #[.bool true, .slice o nn cap] 24 (0, 0))) := show _ = _ from (b12.block GO hOs).trans hO.out
          have hB2 := mkHid ((hB.out.trans (b12.mono (by omega))).drew)
          have hs2 : W2.drew.heap.size = wr.heap.size + 2 := by rw [hW2]; simp [World.drew]
          have Hn0 := mkHid hn0
          have Hn1 := mkHid hn1
          have HW2 := mkHid hW2
          have Hs2 := mkHid hs2
          clear hn0 hn1 hW2 hs2 b1 b2 b12 hx1 hblk
          go_wp2
          refine wp_region_any (by kernel_rfl) ?_
          refine wpAny_take (i := 0) (v := .pointer (some ⟨GO, 1, none⟩)) rfl (by kernel_rfl) (by kernel_rfl) (by kernel_rfl) (fun _ _ _ h => h) (Or.inl ⟨by rfl, ?_⟩) ?_
          · intro w
            go_simp
            all_goals first | done | (intro h; exfalso; omega) | omega
          go_simp
          refine wpAny_take (i := 2) (v := .int .i64 N) rfl (by kernel_rfl) (by kernel_rfl) (by kernel_rfl) (fun _ _ _ h => h) (Or.inl ⟨by rfl, ?_⟩) ?_
          · intro w
            go_simp
            all_goals first | done | (intro h; exfalso; omega) | omega
          go_simp
          refine wpAny_take (i := 3) (v := .slice (some ⟨g, 0, none⟩) ls.length capL) rfl (by kernel_rfl) (by kernel_rfl) (by kernel_rfl) (fun _ _ _ h => h) (Or.inl ⟨by rfl, ?_⟩) ?_
          · intro w
            go_simp
            all_goals first | done | (intro h; exfalso; omega) | omega
          go_simp
          refine wpAny_take (i := 4) (v := .int .i64 (i : Int)) rfl (by kernel_rfl) (by kernel_rfl) (by kernel_rfl) (fun _ _ _ h => h) (Or.inl ⟨by rfl, ?_⟩) ?_
          · intro w
            go_simp
            all_goals first | done | (intro h; exfalso; omega) | omega
          go_simp
          refine wpAny_take (i := 5) (v := .pointer (some ⟨g, i, none⟩)) rfl (by kernel_rfl) (by kernel_rfl) (by kernel_rfl) (fun _ _ _ h => h) (Or.inl ⟨by rfl, ?_⟩) ?_
          · intro w
            go_simp
            all_goals first | done | (intro h; exfalso; omega) | omega
          go_simp
          refine wpAny_ready (rs := [1, 6]) (by kernel_rfl) (by simp) ?_
          refine AllReady.cons rfl (fun K hK => ?_) (AllReady.cons rfl (fun K hK => ?_) AllReady.nil)
          · go_simp
            refine hK _ _ ?_
            clear hK K
            go_simp
            refine wpAny_ready (rs := [6]) (by kernel_rfl) (by simp) ?_
            refine AllReady.cons rfl (fun K hK => ?_) AllReady.nil
            go_simp
            refine hK _ _ ?_
            clear hK K
            go_simp
            refine wpAny_take (i := 7) (v := .string t) rfl (by kernel_rfl) (by kernel_rfl) (by kernel_rfl) (fun _ _ _ h => h) (Or.inl ⟨by rfl, ?_⟩) ?_
            · intro w
              go_simp
              all_goals first | done | (intro h; exfalso; omega) | omega
            go_simp
            refine wpAny_ready (rs := [8]) (by kernel_rfl) (by simp) ?_
            refine AllReady.cons rfl (fun K hK => ?_) AllReady.nil
            go_simp
            refine hK _ _ ?_
            clear hK K
            go_simp
            refine wpAny_take (i := 9) (v := .agg #[.int .i64 N, Value.slice (some ⟨wr.heap.size, 0, none⟩) 1 1]) rfl (by kernel_rfl) (by kernel_rfl) (by kernel_rfl) (fun _ _ _ h => h) (Or.inl ⟨by rfl, ?_⟩) ?_
            · intro w
              go_simp
              all_goals first | done | (intro h; exfalso; omega) | omega
            go_simp
            refine wpAny_ready (rs := [10]) (by kernel_rfl) (by simp) ?_
            refine AllReady.cons rfl (fun K hK => ?_) AllReady.nil
            go_simp
            refine hK _ _ ?_
            clear hK K
            go_simp
            refine wpAny_ready (rs := [11]) (by kernel_rfl) (by simp) ?_
            refine AllReady.cons rfl (fun K hK => ?_) AllReady.nil
            rw [show ((wr.alloc (.cells #[.string t] 9)).alloc (.cells #[.int .i64 N, .slice (some ⟨wr.heap.size, 0, none⟩) 1 1] 34)).drew = W2.drew from by rw [HW2.out]]
            refine opAppRp _ _ rfl (GO + 1) (.slice o nn cap) E rfl hRp2.out.row ((⟨N, [t]⟩ : GReply), Value.slice (some ⟨wr.heap.size, 0, none⟩) 1 1) (wr.heap.size + 1) 1 rfl Hn0.out Hn1.out rfl (by rw [hnn.out]; omega) (by rw [Hs2.out]; omega) ?_
            intro y5 w6 hrow6 hg6
            have hRp6 := hRp2.out.push hx2.out hfar.out hrow6 hg6
            have hne6 := hRp2.out.rowOther hO2.out (by decide)
            have hO6 : w6.heap[GO]? = some (.cells #[.bool true, .slice o nn cap] 24 (0, 0)) := (hg6.block GO (by rw [Hs2.out]; omega) hne6).trans hO2.out
            have hb6 : Below GO w1 w6 := hB2.out.grown hg6 (by rw [Hs2.out]; omega) (fun k hk => by have := (World.ownsRow.lt hRp2.out.row k hk).1; omega)
            obtain ⟨o5, k5, hv5⟩ := hRp6.shape
            rw [show (E ++ [((⟨N, [t]⟩ : GReply), Value.slice (some ⟨wr.heap.size, 0, none⟩) 1 1)]).length = nn + 1 from by rw [List.length_append, hnn.out]; rfl] at hv5
            subst hv5
            have x6 := (two_cellsR hO6).2
            have z6 := two_frozenR hO6 1
            refine hK _ _ ?_
            clear hK K
            go_simp
            refine wpAny_take (i := 12) (v := .pointer (some ⟨GO, 1, none⟩)) rfl (by kernel_rfl) (by kernel_rfl) (by kernel_rfl) (fun _ _ _ h => h) (Or.inl ⟨by rfl, ?_⟩) ?_
            · intro w
              go_simp
              all_goals first | done | (intro h; exfalso; omega) | omega
            go_simp
            refine wpAny_ready (rs := [13]) (by kernel_rfl) (by simp) ?_
            refine AllReady.cons rfl (fun K hK => ?_) AllReady.nil
            go_simp
            refine hK _ _ ?_
            clear hK K
            go_simp
            refine wpAny_done (by kernel_rfl) ?_ _
            have hO7 : Hid ((w6.setCell ⟨GO, 1, none⟩ (.slice o5 (nn + 1) k5)).heap[GO]? = some (.cells #[.bool true, .slice o5 (nn + 1) k5] 24 (0, 0))) := by show _ = _; simp [World.setCell, Array.getElem?_modify, hO6]
            have hRp7 : Hid (Rp (GO + 1) (.slice o5 (nn + 1) k5) (E ++ [((⟨N, [t]⟩ : GReply), Value.slice (some ⟨wr.heap.size, 0, none⟩) 1 1)]) (w6.setCell ⟨GO, 1, none⟩ (.slice o5 (nn + 1) k5))) := hRp6.set (by omega)
            have hb7 := mkHid (hb6.setCell (p := ⟨GO, 1, none⟩) (Nat.le_refl _) (.slice o5 (nn + 1) k5))
            have hEl7 : Hid ((E ++ [((⟨N, [t]⟩ : GReply), Value.slice (some ⟨wr.heap.size, 0, none⟩) 1 1)]).length = nn + 1) := show _ = _ from by rw [List.length_append, hnn.out]; rfl
            have hc7 := (hb7.out.cell (p := ⟨g, i, none⟩) (by show g < GO; omega)).trans (hcL.out)
            clear hrow6 hg6 hRp6 hO6 x6 z6 hb6 y10 y11 hc
            generalize (E ++ [((⟨N, [t]⟩ : GReply), Value.slice (some ⟨wr.heap.size, 0, none⟩) 1 1)]) = E7 at *
            go_wp2
            go_roundw
            case rel => exact ⟨i + 1, R', c', P', E7, o5, k5, nn + 1, mo, by omega, by go_num, rfl, E2, E1, hEn, by omega, e4', hEl7, hRp7, hO7, hb7⟩
            case measure => simp [Lib.intOf]; omega
          · go_simp
            refine hK _ _ ?_
            clear hK K
            go_simp
            refine wpAny_take (i := 7) (v := .string t) rfl (by kernel_rfl) (by kernel_rfl) (by kernel_rfl) (fun _ _ _ h => h) (Or.inl ⟨by rfl, ?_⟩) ?_
            · intro w
              go_simp
              all_goals first | done | (intro h; exfalso; omega) | omega
            go_simp
            refine wpAny_ready (rs := [1, 8]) (by kernel_rfl) (by simp) ?_
            refine AllReady.cons rfl (fun K hK => ?_) (AllReady.cons rfl (fun K hK => ?_) AllReady.nil)
            · go_simp
              refine hK _ _ ?_
              clear hK K
              go_simp
              refine wpAny_ready (rs := [8]) (by kernel_rfl) (by simp) ?_
              refine AllReady.cons rfl (fun K hK => ?_) AllReady.nil
              go_simp
              refine hK _ _ ?_
              clear hK K
              go_simp
              refine wpAny_take (i := 9) (v := .agg #[.int .i64 N, Value.slice (some ⟨wr.heap.size, 0, none⟩) 1 1]) rfl (by kernel_rfl) (by kernel_rfl) (by kernel_rfl) (fun _ _ _ h => h) (Or.inl ⟨by rfl, ?_⟩) ?_
              · intro w
                go_simp
                all_goals first | done | (intro h; exfalso; omega) | omega
              go_simp
              refine wpAny_ready (rs := [10]) (by kernel_rfl) (by simp) ?_
              refine AllReady.cons rfl (fun K hK => ?_) AllReady.nil
              go_simp
              refine hK _ _ ?_
              clear hK K
              go_simp
              refine wpAny_ready (rs := [11]) (by kernel_rfl) (by simp) ?_
              refine AllReady.cons rfl (fun K hK => ?_) AllReady.nil
              rw [show ((wr.alloc (.cells #[.string t] 9)).alloc (.cells #[.int .i64 N, .slice (some ⟨wr.heap.size, 0, none⟩) 1 1] 34)).drew = W2.drew from by rw [HW2.out]]
              refine opAppRp _ _ rfl (GO + 1) (.slice o nn cap) E rfl hRp2.out.row ((⟨N, [t]⟩ : GReply), Value.slice (some ⟨wr.heap.size, 0, none⟩) 1 1) (wr.heap.size + 1) 1 rfl Hn0.out Hn1.out rfl (by rw [hnn.out]; omega) (by rw [Hs2.out]; omega) ?_
              intro y5 w6 hrow6 hg6
              have hRp6 := hRp2.out.push hx2.out hfar.out hrow6 hg6
              have hne6 := hRp2.out.rowOther hO2.out (by decide)
              have hO6 : w6.heap[GO]? = some (.cells #[.bool true, .slice o nn cap] 24 (0, 0)) := (hg6.block GO (by rw [Hs2.out]; omega) hne6).trans hO2.out
              have hb6 : Below GO w1 w6 := hB2.out.grown hg6 (by rw [Hs2.out]; omega) (fun k hk => by have := (World.ownsRow.lt hRp2.out.row k hk).1; omega)
              obtain ⟨o5, k5, hv5⟩ := hRp6.shape
              rw [show (E ++ [((⟨N, [t]⟩ : GReply), Value.slice (some ⟨wr.heap.size, 0, none⟩) 1 1)]).length = nn + 1 from by rw [List.length_append, hnn.out]; rfl] at hv5
              subst hv5
              have x6 := (two_cellsR hO6).2
              have z6 := two_frozenR hO6 1
              refine hK _ _ ?_
              clear hK K
              go_simp
              refine wpAny_take (i := 12) (v := .pointer (some ⟨GO, 1, none⟩)) rfl (by kernel_rfl) (by kernel_rfl) (by kernel_rfl) (fun _ _ _ h => h) (Or.inl ⟨by rfl, ?_⟩) ?_
              · intro w
                go_simp
                all_goals first | done | (intro h; exfalso; omega) | omega
              go_simp
              refine wpAny_ready (rs := [13]) (by kernel_rfl) (by simp) ?_
              refine AllReady.cons rfl (fun K hK => ?_) AllReady.nil
              go_simp
              refine hK _ _ ?_
              clear hK K
              go_simp
              refine wpAny_done (by kernel_rfl) ?_ _
              have hO7 : Hid ((w6.setCell ⟨GO, 1, none⟩ (.slice o5 (nn + 1) k5)).heap[GO]? = some (.cells #[.bool true, .slice o5 (nn + 1) k5] 24 (0, 0))) := by show _ = _; simp [World.setCell, Array.getElem?_modify, hO6]
              have hRp7 : Hid (Rp (GO + 1) (.slice o5 (nn + 1) k5) (E ++ [((⟨N, [t]⟩ : GReply), Value.slice (some ⟨wr.heap.size, 0, none⟩) 1 1)]) (w6.setCell ⟨GO, 1, none⟩ (.slice o5 (nn + 1) k5))) := hRp6.set (by omega)
              have hb7 := mkHid (hb6.setCell (p := ⟨GO, 1, none⟩) (Nat.le_refl _) (.slice o5 (nn + 1) k5))
              have hEl7 : Hid ((E ++ [((⟨N, [t]⟩ : GReply), Value.slice (some ⟨wr.heap.size, 0, none⟩) 1 1)]).length = nn + 1) := show _ = _ from by rw [List.length_append, hnn.out]; rfl
              have hc7 := (hb7.out.cell (p := ⟨g, i, none⟩) (by show g < GO; omega)).trans (hcL.out)
              clear hrow6 hg6 hRp6 hO6 x6 z6 hb6 y10 y11 hc
              generalize (E ++ [((⟨N, [t]⟩ : GReply), Value.slice (some ⟨wr.heap.size, 0, none⟩) 1 1)]) = E7 at *
              go_wp2
              go_roundw
              case rel => exact ⟨i + 1, R', c', P', E7, o5, k5, nn + 1, mo, by omega, by go_num, rfl, E2, E1, hEn, by omega, e4', hEl7, hRp7, hO7, hb7⟩
              case measure => simp [Lib.intOf]; omega
            · go_simp
              refine hK _ _ ?_
              clear hK K
              go_simp
              refine wpAny_take (i := 9) (v := .agg #[.int .i64 N, Value.slice (some ⟨wr.heap.size, 0, none⟩) 1 1]) rfl (by kernel_rfl) (by kernel_rfl) (by kernel_rfl) (fun _ _ _ h => h) (Or.inl ⟨by rfl, ?_⟩) ?_
              · intro w
                go_simp
                all_goals first | done | (intro h; exfalso; omega) | omega
              go_simp
              refine wpAny_ready (rs := [1, 10]) (by kernel_rfl) (by simp) ?_
              refine AllReady.cons rfl (fun K hK => ?_) (AllReady.cons rfl (fun K hK => ?_) AllReady.nil)
              · go_simp
                refine hK _ _ ?_
                clear hK K
                go_simp
                refine wpAny_ready (rs := [10]) (by kernel_rfl) (by simp) ?_
                refine AllReady.cons rfl (fun K hK => ?_) AllReady.nil
                go_simp
                refine hK _ _ ?_
                clear hK K
                go_simp
                refine wpAny_ready (rs := [11]) (by kernel_rfl) (by simp) ?_
                refine AllReady.cons rfl (fun K hK => ?_) AllReady.nil
                rw [show ((wr.alloc (.cells #[.string t] 9)).alloc (.cells #[.int .i64 N, .slice (some ⟨wr.heap.size, 0, none⟩) 1 1] 34)).drew = W2.drew from by rw [HW2.out]]
                refine opAppRp _ _ rfl (GO + 1) (.slice o nn cap) E rfl hRp2.out.row ((⟨N, [t]⟩ : GReply), Value.slice (some ⟨wr.heap.size, 0, none⟩) 1 1) (wr.heap.size + 1) 1 rfl Hn0.out Hn1.out rfl (by rw [hnn.out]; omega) (by rw [Hs2.out]; omega) ?_
                intro y5 w6 hrow6 hg6
                have hRp6 := hRp2.out.push hx2.out hfar.out hrow6 hg6
                have hne6 := hRp2.out.rowOther hO2.out (by decide)
                have hO6 : w6.heap[GO]? = some (.cells #[.bool true, .slice o nn cap] 24 (0, 0)) := (hg6.block GO (by rw [Hs2.out]; omega) hne6).trans hO2.out
                have hb6 : Below GO w1 w6 := hB2.out.grown hg6 (by rw [Hs2.out]; omega) (fun k hk => by have := (World.ownsRow.lt hRp2.out.row k hk).1; omega)
                obtain ⟨o5, k5, hv5⟩ := hRp6.shape
                rw [show (E ++ [((⟨N, [t]⟩ : GReply), Value.slice (some ⟨wr.heap.size, 0, none⟩) 1 1)]).length = nn + 1 from by rw [List.length_append, hnn.out]; rfl] at hv5
                subst hv5
                have x6 := (two_cellsR hO6).2
                have z6 := two_frozenR hO6 1
                refine hK _ _ ?_
                clear hK K
                go_simp
                refine wpAny_take (i := 12) (v := .pointer (some ⟨GO, 1, none⟩)) rfl (by kernel_rfl) (by kernel_rfl) (by kernel_rfl) (fun _ _ _ h => h) (Or.inl ⟨by rfl, ?_⟩) ?_
                · intro w
                  go_simp
                  all_goals first | done | (intro h; exfalso; omega) | omega
                go_simp
                refine wpAny_ready (rs := [13]) (by kernel_rfl) (by simp) ?_
                refine AllReady.cons rfl (fun K hK => ?_) AllReady.nil
                go_simp
                refine hK _ _ ?_
                clear hK K
                go_simp
                refine wpAny_done (by kernel_rfl) ?_ _
                have hO7 : Hid ((w6.setCell ⟨GO, 1, none⟩ (.slice o5 (nn + 1) k5)).heap[GO]? = some (.cells #[.bool true, .slice o5 (nn + 1) k5] 24 (0, 0))) := by show _ = _; simp [World.setCell, Array.getElem?_modify, hO6]
                have hRp7 : Hid (Rp (GO + 1) (.slice o5 (nn + 1) k5) (E ++ [((⟨N, [t]⟩ : GReply), Value.slice (some ⟨wr.heap.size, 0, none⟩) 1 1)]) (w6.setCell ⟨GO, 1, none⟩ (.slice o5 (nn + 1) k5))) := hRp6.set (by omega)
                have hb7 := mkHid (hb6.setCell (p := ⟨GO, 1, none⟩) (Nat.le_refl _) (.slice o5 (nn + 1) k5))
                have hEl7 : Hid ((E ++ [((⟨N, [t]⟩ : GReply), Value.slice (some ⟨wr.heap.size, 0, none⟩) 1 1)]).length = nn + 1) := show _ = _ from by rw [List.length_append, hnn.out]; rfl
                have hc7 := (hb7.out.cell (p := ⟨g, i, none⟩) (by show g < GO; omega)).trans (hcL.out)
                clear hrow6 hg6 hRp6 hO6 x6 z6 hb6 y10 y11 hc
                generalize (E ++ [((⟨N, [t]⟩ : GReply), Value.slice (some ⟨wr.heap.size, 0, none⟩) 1 1)]) = E7 at *
                go_wp2
                go_roundw
                case rel => exact ⟨i + 1, R', c', P', E7, o5, k5, nn + 1, mo, by omega, by go_num, rfl, E2, E1, hEn, by omega, e4', hEl7, hRp7, hO7, hb7⟩
                case measure => simp [Lib.intOf]; omega
              · go_simp
                refine hK _ _ ?_
                clear hK K
                go_simp
                refine wpAny_ready (rs := [1]) (by kernel_rfl) (by simp) ?_
                refine AllReady.cons rfl (fun K hK => ?_) AllReady.nil
                go_simp
                refine hK _ _ ?_
                clear hK K
                go_simp
                refine wpAny_ready (rs := [11]) (by kernel_rfl) (by simp) ?_
                refine AllReady.cons rfl (fun K hK => ?_) AllReady.nil
                rw [show ((wr.alloc (.cells #[.string t] 9)).alloc (.cells #[.int .i64 N, .slice (some ⟨wr.heap.size, 0, none⟩) 1 1] 34)).drew = W2.drew from by rw [HW2.out]]
                refine opAppRp _ _ rfl (GO + 1) (.slice o nn cap) E rfl hRp2.out.row ((⟨N, [t]⟩ : GReply), Value.slice (some ⟨wr.heap.size, 0, none⟩) 1 1) (wr.heap.size + 1) 1 rfl Hn0.out Hn1.out rfl (by rw [hnn.out]; omega) (by rw [Hs2.out]; omega) ?_
                intro y5 w6 hrow6 hg6
                have hRp6 := hRp2.out.push hx2.out hfar.out hrow6 hg6
                have hne6 := hRp2.out.rowOther hO2.out (by decide)
                have hO6 : w6.heap[GO]? = some (.cells #[.bool true, .slice o nn cap] 24 (0, 0)) := (hg6.block GO (by rw [Hs2.out]; omega) hne6).trans hO2.out
                have hb6 : Below GO w1 w6 := hB2.out.grown hg6 (by rw [Hs2.out]; omega) (fun k hk => by have := (World.ownsRow.lt hRp2.out.row k hk).1; omega)
                obtain ⟨o5, k5, hv5⟩ := hRp6.shape
                rw [show (E ++ [((⟨N, [t]⟩ : GReply), Value.slice (some ⟨wr.heap.size, 0, none⟩) 1 1)]).length = nn + 1 from by rw [List.length_append, hnn.out]; rfl] at hv5
                subst hv5
                have x6 := (two_cellsR hO6).2
                have z6 := two_frozenR hO6 1
                refine hK _ _ ?_
                clear hK K
                go_simp
                refine wpAny_take (i := 12) (v := .pointer (some ⟨GO, 1, none⟩)) rfl (by kernel_rfl) (by kernel_rfl) (by kernel_rfl) (fun _ _ _ h => h) (Or.inl ⟨by rfl, ?_⟩) ?_
                · intro w
                  go_simp
                  all_goals first | done | (intro h; exfalso; omega) | omega
                go_simp
                refine wpAny_ready (rs := [13]) (by kernel_rfl) (by simp) ?_
                refine AllReady.cons rfl (fun K hK => ?_) AllReady.nil
                go_simp
                refine hK _ _ ?_
                clear hK K
                go_simp
                refine wpAny_done (by kernel_rfl) ?_ _
                have hO7 : Hid ((w6.setCell ⟨GO, 1, none⟩ (.slice o5 (nn + 1) k5)).heap[GO]? = some (.cells #[.bool true, .slice o5 (nn + 1) k5] 24 (0, 0))) := by show _ = _; simp [World.setCell, Array.getElem?_modify, hO6]
                have hRp7 : Hid (Rp (GO + 1) (.slice o5 (nn + 1) k5) (E ++ [((⟨N, [t]⟩ : GReply), Value.slice (some ⟨wr.heap.size, 0, none⟩) 1 1)]) (w6.setCell ⟨GO, 1, none⟩ (.slice o5 (nn + 1) k5))) := hRp6.set (by omega)
                have hb7 := mkHid (hb6.setCell (p := ⟨GO, 1, none⟩) (Nat.le_refl _) (.slice o5 (nn + 1) k5))
                have hEl7 : Hid ((E ++ [((⟨N, [t]⟩ : GReply), Value.slice (some ⟨wr.heap.size, 0, none⟩) 1 1)]).length = nn + 1) := show _ = _ from by rw [List.length_append, hnn.out]; rfl
                have hc7 := (hb7.out.cell (p := ⟨g, i, none⟩) (by show g < GO; omega)).trans (hcL.out)
                clear hrow6 hg6 hRp6 hO6 x6 z6 hb6 y10 y11 hc
                generalize (E ++ [((⟨N, [t]⟩ : GReply), Value.slice (some ⟨wr.heap.size, 0, none⟩) 1 1)]) = E7 at *
                go_wp2
                go_roundw
                case rel => exact ⟨i + 1, R', c', P', E7, o5, k5, nn + 1, mo, by omega, by go_num, rfl, E2, E1, hEn, by omega, e4', hEl7, hRp7, hO7, hb7⟩
                case measure => simp [Lib.intOf]; omega
        · have hP : P ≠ [] := by
            intro e
            have := hb0.out
            rw [e] at this
            cases this
          have hEq : E.map (·.1) = R ++ [⟨c, P⟩] := by rw [hE0.out]; simp [Rl.tl, hP]
          obtain ⟨q, hq1, hq, hqR, hEqq⟩ := lastOf E R c P hEq
          obtain rfl : nn = q + 1 := by rw [← hnn.out]; exact hq
          obtain ⟨gr, hgr, hgB⟩ : ∃ gr, o = some ⟨gr, 0, none⟩ ∧ GO + 1 ≤ gr := by
            rcases hRp.out.row.2 with ⟨h1, h0⟩ | ⟨gr, cap', cur, h1, hB', -⟩
            · omega
            · simp only [Value.slice.injEq] at h1
              exact ⟨gr, h1.1, hB'⟩
          subst hgr
          have hrc := rpCells_at E q hq1
          have d0 := World.ownsRow.cells hRp.out.row (g := gr) rfl (q * 2) _ hrc.1
          have d1 := World.ownsRow.cells hRp.out.row (g := gr) rfl (q * 2 + 1) _ hrc.2
          rw [add_off] at d0 d1
          have hx := hRp.out.own q hq1
          obtain ⟨lo_, lc, hlv⟩ := hx.shape
          rw [hEqq] at d0 hx hlv
          rw [hlv] at d1
          have HX := mkHid hx
          have HLV := mkHid hlv
          have HEQ := mkHid hEqq
          obtain ⟨y10, y11⟩ := two_cellsR hO.out
          have Hq := mkHid hq
          have HqR := mkHid hqR
          have hadd := add_off g i
          have hadd2 := add_off gr (q * 2)
          clear hrc hx hlv hEqq hb0 hq hqR
          by_cases hcN : c = N
          rotate_left
          · have hz : Hid (Z = none) := show _ = _ from by rw [← HZ1.out]; exact Rl.bad _ _ _ _ _ (.inr ⟨hP, by rw [← hNc]; exact hcN⟩)
            have u5 : (c != N) = true := by rw [bne_iff_ne]; exact hcN
            clear HZ1 hok hok1 hok2 hmo hNc hcin hx4 hE0 hll HX HLV HEQ hEq hRp
            go_wp2_with (go_at_call 11; fail)
            refine (cN.out _).mono ?_
            rintro e wN ⟨rfl, rfl⟩
            go_wp2
            refine bodyPost_ret (v := .agg #[.bool false, .slice none 0 0]) (by simp [results, Tryd.results4, go_sem, q0, q1]) rfl ?_
            rw [hz.out]
            exact outNone ((hbF.out.setCell (p := ⟨w.heap.size, 0, none⟩) (Nat.le_refl _) _).setCell (p := ⟨w.heap.size, 1, none⟩) (Nat.le_refl _) _)
          subst hcN
          have u5 : (c != c) = false := by simp
          obtain ⟨R', c', P', e1, e2, e3, e4⟩ := Rl.next T.data.toList (ls.drop (i + 1)) R c P hok (.inr hNc)
          rw [HZ1.out] at e1
          rw [← hNc, ← hx4] at e3
          rw [hmo] at e2
          obtain ⟨t, ht⟩ : ∃ t, T.extract 4 T.size = t := ⟨_, rfl⟩
          rw [ht] at e3
          have hEn : Hid (∀ v : Value, (E.set q ((⟨c, P ++ [t]⟩ : GReply), v)).map (·.1) = R' ++ Rl.tl c' P') := fun v => by
            rw [← e3, List.map_set, hEq]
            rw [HqR.out, List.set_append, if_neg (by omega)]
            simp
          have E1 : Hid (Rl.rd (ls.drop (i + 1)) R' c' P' = Z) := e1.symm
          have E2 : Hid (mo = !P'.isEmpty) := e2
          have e4' : P'.length ≤ i + 1 := by omega
          clear HZ1 hok hok1 hok2 hmo e1 e2 e3 e4 hNc hcin hx4 hP hE0 hll hEq
          obtain ⟨W1, hW1⟩ : ∃ W1, W1 = wr.alloc (.cells #[.string t] 9) := ⟨_, rfl⟩
          have b1 : Below wr.heap.size wr W1 := by rw [hW1]; exact (Below.refl _ _).alloc (Nat.le_refl _) _
          have hn0 : W1.drew.cell? ⟨wr.heap.size, 0, none⟩ = some (.string t) := by
            have := heap_alloc_at wr (.cells #[.string t] 9)
            rw [← hW1] at this
            show W1.cell? _ = _
            simp [World.cell?, this]
          have hRp0 := hRp.out
          rw [← Hq.out] at hRp0
          have hRp1 := mkHid ((hRp0.below b1).drew)
          clear hRp0
          have hX0 := HX.out.below b1
          rw [HLV.out] at hX0
          have hX1 : Hid (OwnX (GO + 1) (.slice lo_ P.length lc) P W1.drew) := hX0
          clear hX0
          have hO1 : Hid (W1.drew.heap[GO]? = some (.cells #[.bool true, .slice (some ⟨gr, 0, none⟩) (q + 1) cap] 24 (0, 0))) := show _ = _ from (b1.block GO hOs).trans hO.out
          have hB1 := mkHid ((hB.out.trans (b1.mono (by omega))).drew)
          have hs1 : Hid (W1.drew.heap.size = wr.heap.size + 1) := show _ = _ from by rw [hW1]; simp [World.drew]
          have y11a : W1.drew.cell? ⟨GO, 1, none⟩ = some (.slice (some ⟨gr, 0, none⟩) (q + 1) cap) := (b1.cell (p := ⟨GO, 1, none⟩) hOs).trans y11
          have hca : W1.drew.cell? ⟨g, i, none⟩ = some (.string T) := (b1.cell (p := ⟨g, i, none⟩) (by show g < wr.heap.size; omega)).trans hc
          have d1a : W1.drew.cell? ⟨gr, q * 2 + 1, none⟩ = some (.slice lo_ P.length lc) := (b1.cell (p := ⟨gr, q * 2 + 1, none⟩) (by have := (World.ownsRow.lt hRp.out.row gr rfl).2; exact this)).trans d1
          have Hn0 := mkHid hn0
          have HW1 := mkHid hW1
          clear hn0 hW1 b1
          have ya : wr.drew.cell? ⟨GO, 1, none⟩ = some (.slice (some ⟨gr, 0, none⟩) (q + 1) cap) := y11
          have yb : wr.drew.cell? ⟨g, i, none⟩ = some (.string T) := hc
          go_wp2_with (go_at_call 11; fail)
          refine (cN.out _).mono ?_
          rintro e wN ⟨rfl, rfl⟩
          clear cN
          go_wp2
          refine wp_region_held (S := fun w => w.cell? ⟨GO, 1, none⟩ = some (.slice (some ⟨gr, 0, none⟩) (q + 1) cap) ∧ w.cell? ⟨g, i, none⟩ = some (.string T)) (by kernel_rfl) ?_
          refine wpAnyH_take (i := 0) (v := .pointer (some ⟨GO, 1, none⟩)) rfl (by kernel_rfl) (by kernel_rfl) (by kernel_rfl) (fun _ _ _ h => h) (Or.inl ⟨by rfl, ?_⟩) ⟨ya, yb⟩ ?_
          · rintro w ⟨s1, s2⟩
            go_simp
            all_goals first | done | (intro h; exfalso; omega) | omega
          go_simp
          refine wpAnyH_take (i := 1) (v := .slice (some ⟨gr, 0, none⟩) (q + 1) cap) rfl (by kernel_rfl) (by kernel_rfl) (by kernel_rfl) (fun _ _ _ h => h) (Or.inl ⟨by rfl, ?_⟩) ⟨ya, yb⟩ ?_
          · rintro w ⟨s1, s2⟩
            go_simp
            all_goals first | done | (intro h; exfalso; omega) | omega
          go_simp
          refine wpAnyH_take (i := 2) (v := .int .i64 (q : Int)) rfl (by kernel_rfl) (by kernel_rfl) (by kernel_rfl) (fun _ _ _ h => h) (Or.inl ⟨by rfl, ?_⟩) ⟨ya, yb⟩ ?_
          · rintro w ⟨s1, s2⟩
            go_simp
            all_goals first | done | (intro h; exfalso; omega) | omega
          go_simp
          refine wpAnyH_take (i := 3) (v := .pointer (some ⟨GO, 1, none⟩)) rfl (by kernel_rfl) (by kernel_rfl) (by kernel_rfl) (fun _ _ _ h => h) (Or.inl ⟨by rfl, ?_⟩) ⟨ya, yb⟩ ?_
          · rintro w ⟨s1, s2⟩
            go_simp
            all_goals first | done | (intro h; exfalso; omega) | omega
          go_simp
          refine wpAnyH_take (i := 4) (v := .slice (some ⟨gr, 0, none⟩) (q + 1) cap) rfl (by kernel_rfl) (by kernel_rfl) (by kernel_rfl) (fun _ _ _ h => h) (Or.inl ⟨by rfl, ?_⟩) ⟨ya, yb⟩ ?_
          · rintro w ⟨s1, s2⟩
            go_simp
            all_goals first | done | (intro h; exfalso; omega) | omega
          go_simp
          refine wpAnyH_take (i := 5) (v := .int .i64 (q : Int)) rfl (by kernel_rfl) (by kernel_rfl) (by kernel_rfl) (fun _ _ _ h => h) (Or.inl ⟨by rfl, ?_⟩) ⟨ya, yb⟩ ?_
          · rintro w ⟨s1, s2⟩
            go_simp
            all_goals first | done | (intro h; exfalso; omega) | omega
          go_simp
          refine wpAnyH_take (i := 6) (v := .pointer (some ⟨gr, q * 2, none⟩)) rfl (by kernel_rfl) (by kernel_rfl) (by kernel_rfl) (fun _ _ _ h => h) (Or.inl ⟨by rfl, ?_⟩) ⟨ya, yb⟩ ?_
          · rintro w ⟨s1, s2⟩
            go_simp
            all_goals first | done | (intro h; exfalso; omega) | omega
          go_simp
          refine wpAnyH_take (i := 7) (v := .pointer (some ⟨gr, q * 2 + 1, none⟩)) rfl (by kernel_rfl) (by kernel_rfl) (by kernel_rfl) (fun _ _ _ h => h) (Or.inl ⟨by rfl, ?_⟩) ⟨ya, yb⟩ ?_
          · rintro w ⟨s1, s2⟩
            go_simp
            all_goals first | done | (intro h; exfalso; omega) | omega
          go_simp
          refine wpAnyH_take (i := 9) (v := .slice (some ⟨g, 0, none⟩) ls.length capL) rfl (by kernel_rfl) (by kernel_rfl) (by kernel_rfl) (fun _ _ _ h => h) (Or.inl ⟨by rfl, ?_⟩) ⟨ya, yb⟩ ?_
          · rintro w ⟨s1, s2⟩
            go_simp
            all_goals first | done | (intro h; exfalso; omega) | omega
          go_simp
          refine wpAnyH_take (i := 10) (v := .int .i64 (i : Int)) rfl (by kernel_rfl) (by kernel_rfl) (by kernel_rfl) (fun _ _ _ h => h) (Or.inl ⟨by rfl, ?_⟩) ⟨ya, yb⟩ ?_
          · rintro w ⟨s1, s2⟩
            go_simp
            all_goals first | done | (intro h; exfalso; omega) | omega
          go_simp
          refine wpAnyH_take (i := 11) (v := .pointer (some ⟨g, i, none⟩)) rfl (by kernel_rfl) (by kernel_rfl) (by kernel_rfl) (fun _ _ _ h => h) (Or.inl ⟨by rfl, ?_⟩) ⟨ya, yb⟩ ?_
          · rintro w ⟨s1, s2⟩
            go_simp
            all_goals first | done | (intro h; exfalso; omega) | omega
          go_simp
          refine wpAnyH_take (i := 12) (v := .string T) rfl (by kernel_rfl) (by kernel_rfl) (by kernel_rfl) (fun _ _ _ h => h) (Or.inl ⟨by rfl, ?_⟩) ⟨ya, yb⟩ ?_
          · rintro w ⟨s1, s2⟩
            go_simp
            all_goals first | done | (intro h; exfalso; omega) | omega
          go_simp
          refine wpAnyH_take (i := 13) (v := .string t) rfl (by kernel_rfl) (by kernel_rfl) (by kernel_rfl) (fun _ _ _ h => h) (Or.inl ⟨by rfl, ?_⟩) ⟨ya, yb⟩ ?_
          · rintro w ⟨s1, s2⟩
            go_simp
            all_goals first | done | (intro h; exfalso; omega) | omega
          go_simp
          refine wpAnyH_all (rs := [8, 14]) (by kernel_rfl) (by simp) ?_
          intro k hk
          simp only [List.mem_cons, List.not_mem_nil, or_false] at hk
          rcases hk with rfl | rfl
          · refine wpOp_step rfl (fun K hK => ?_)
            go_simp
            refine hK _ _ ⟨⟨ya, yb⟩, ?_⟩
            clear hK K
            go_simp
            refine wpAnyH_all (rs := [14]) (by kernel_rfl) (by simp) ?_
            intro k hk
            simp only [List.mem_cons, List.not_mem_nil, or_false] at hk
            subst hk
            refine wpOp_step rfl (fun K hK => ?_)
            go_simp
            refine hK _ _ ⟨⟨by rw [HW1.out] at y11a; exact y11a, by rw [HW1.out] at hca; exact hca⟩, ?_⟩
            clear hK K
            go_simp
            refine wpAnyH_all (rs := [15]) (by kernel_rfl) (by simp) ?_
            intro k hk
            simp only [List.mem_cons, List.not_mem_nil, or_false] at hk
            subst hk
            refine wpOp_step rfl (fun K hK => ?_)
            rw [if_pos (by rfl)]
            rw [show (wr.alloc (.cells #[.string t] 9)).drew = W1.drew from by rw [HW1.out]]
            refine opAppX _ _ rfl (GO + 1) (.slice lo_ P.length lc) P rfl hX1.out t wr.heap.size 1 rfl Hn0.out (by omega) (by rw [hs1.out]; omega) ?_
            intro y5 w6 hx6 hg6 hv6
            have hlow : ∀ k, (Value.slice lo_ P.length lc).ownBlock = some k → GO + 1 ≤ k := fun k hk => (World.ownsRow.lt hX1.out k hk).1
            have hO6 : w6.heap[GO]? = some (.cells #[.bool true, .slice (some ⟨gr, 0, none⟩) (q + 1) cap] 24 (0, 0)) := (hg6.block GO (by rw [hs1.out]; omega) (fun e => by have := hlow _ e.symm; omega)).trans hO1.out
            have hb6 : Below GO w1 w6 := hB1.out.grown hg6 (by rw [hs1.out]; omega) (fun k hk => by have := hlow k hk; omega)
            have ya6 : w6.cell? ⟨GO, 1, none⟩ = some (.slice (some ⟨gr, 0, none⟩) (q + 1) cap) := (World.cell?_of_block (hg6.block GO (by rw [hs1.out]; omega) (fun e => by have := hlow _ e.symm; omega))).trans y11a
            have yb6 : w6.cell? ⟨g, i, none⟩ = some (.string T) := (World.cell?_of_block (a := ⟨g, i, none⟩) (hg6.block g (by rw [hs1.out]; omega) (fun e => by have := hlow _ e.symm; omega))).trans hca
            have hg6b : W1.drew.grownBy w6 E[q].2.ownBlock := by rw [HLV.out]; exact hg6
            have hrow6 := World.ownsRow.kept hRp1.out.row hg6b (hRp1.out.rowfar q hq1)
            have hc6 := World.ownsRow.cellAt hrow6 (q * 2 + 1) (by have := Hq.out; omega)
            rw [(rpCells_at E q hq1).2, HLV.out] at hc6
            have hz6 := World.ownsRow.frozenAt hrow6 (q * 2 + 1)
            have hfin := mkHid (hRp1.out.lines q hq1 y5 (P ++ [t]) hx6 hg6b (by
              rcases hv6 with e | e
              · exact .inl (by rw [HLV.out]; exact e)
              · exact .inr ⟨_, Nat.le_refl _, e⟩))
            obtain ⟨o5, k5, hv5⟩ := hx6.shape
            rw [show (P ++ [t]).length = P.length + 1 from by simp] at hv5
            subst hv5
            rw [HEQ.out, Hq.out] at hfin
            refine hK _ _ ⟨⟨ya6, yb6⟩, ?_⟩
            clear hK K hrow6 hg6 hg6b hv6 hlow hx6
            go_simp
            refine wpAnyH_take (i := 16) (v := .pointer (some ⟨gr, q * 2, none⟩)) rfl (by kernel_rfl) (by kernel_rfl) (by kernel_rfl) (fun _ _ _ h => h) (Or.inl ⟨by rfl, ?_⟩) ⟨ya6, yb6⟩ ?_
            · rintro w ⟨s1, s2⟩
              go_simp
              all_goals first | done | (intro h; exfalso; omega) | omega
            go_simp
            refine wpAnyH_take (i := 17) (v := .pointer (some ⟨gr, q * 2 + 1, none⟩)) rfl (by kernel_rfl) (by kernel_rfl) (by kernel_rfl) (fun _ _ _ h => h) (Or.inl ⟨by rfl, ?_⟩) ⟨ya6, yb6⟩ ?_
            · rintro w ⟨s1, s2⟩
              go_simp
              all_goals first | done | (intro h; exfalso; omega) | omega
            go_simp
            refine wpAnyH_all (rs := [18]) (by kernel_rfl) (by simp) ?_
            intro k hk
            simp only [List.mem_cons, List.not_mem_nil, or_false] at hk
            subst hk
            refine wpOp_step rfl (fun K hK => ?_)
            go_simp
            refine hK _ _ ⟨⟨?_, ?_⟩, ?_⟩
            · exact (World.cell?_of_block (a := ⟨GO, 1, none⟩) ((grG_set w6 gr (q * 2 + 1) _).block GO (heap_lt hO6) (by intro e; cases e; omega))).trans ya6
            · exact (World.cell?_of_block (a := ⟨g, i, none⟩) ((grG_set w6 gr (q * 2 + 1) _).block g (by have := heap_lt hO6; omega) (by intro e; cases e; omega))).trans yb6
            clear hK K
            go_simp
            refine wpAnyH_done (by kernel_rfl) ?_ _
            have hO7 : Hid ((w6.setCell ⟨gr, q * 2 + 1, none⟩ (.slice o5 (P.length + 1) k5)).heap[GO]? = some (.cells #[.bool true, .slice (some ⟨gr, 0, none⟩) (q + 1) cap] 24 (0, 0))) := show _ = _ from ((grG_set w6 gr (q * 2 + 1) _).block GO (heap_lt hO6) (by intro e; cases e; omega)).trans hO6
            have hb7 := mkHid (hb6.setCell (p := ⟨gr, q * 2 + 1, none⟩) (show GO ≤ gr by omega) (.slice o5 (P.length + 1) k5))
            have hc7 := (hb7.out.cell (p := ⟨g, i, none⟩) (by show g < GO; omega)).trans (hcL.out)
            have hEn7 := mkHid (hEn.out (.slice o5 (P.length + 1) k5))
            have hEl7 : Hid ((E.set q ((⟨c, P ++ [t]⟩ : GReply), Value.slice o5 (P.length + 1) k5)).length = q + 1) := show _ = _ from by rw [List.length_set]; exact Hq.out
            clear hO6 hb6 ya6 yb6 hc6 hz6 y10 y11 hc ya yb y11a hca d0 d1 d1a
            generalize (E.set q ((⟨c, P ++ [t]⟩ : GReply), Value.slice o5 (P.length + 1) k5)) = E7 at *
            go_wp2
            go_roundw
            case rel => exact ⟨i + 1, R', c', P', E7, some ⟨gr, 0, none⟩, cap, q + 1, mo, by omega, by go_num, rfl, E2, E1, hEn7, by omega, e4', hEl7, hfin, hO7, hb7⟩
            case measure => simp [Lib.intOf]; omega
          · refine wpOp_step rfl (fun K hK => ?_)
            go_simp
            refine hK _ _ ⟨⟨by rw [HW1.out] at y11a; exact y11a, by rw [HW1.out] at hca; exact hca⟩, ?_⟩
            clear hK K
            go_simp
            refine wpAnyH_all (rs := [8]) (by kernel_rfl) (by simp) ?_
            intro k hk
            simp only [List.mem_cons, List.not_mem_nil, or_false] at hk
            subst hk
            refine wpOp_step rfl (fun K hK => ?_)
            rw [HW1.out] at d1a
            go_simp
            refine hK _ _ ⟨⟨by rw [HW1.out] at y11a; exact y11a, by rw [HW1.out] at hca; exact hca⟩, ?_⟩
            clear hK K
            rw [← HW1.out] at d1a
            go_simp
            refine wpAnyH_all (rs := [15]) (by kernel_rfl) (by simp) ?_
            intro k hk
            simp only [List.mem_cons, List.not_mem_nil, or_false] at hk
            subst hk
            refine wpOp_step rfl (fun K hK => ?_)
            rw [if_pos (by rfl)]
            rw [show (wr.alloc (.cells #[.string t] 9)).drew = W1.drew from by rw [HW1.out]]
            refine opAppX _ _ rfl (GO + 1) (.slice lo_ P.length lc) P rfl hX1.out t wr.heap.size 1 rfl Hn0.out (by omega) (by rw [hs1.out]; omega) ?_
            intro y5 w6 hx6 hg6 hv6
            have hlow : ∀ k, (Value.slice lo_ P.length lc).ownBlock = some k → GO + 1 ≤ k := fun k hk => (World.ownsRow.lt hX1.out k hk).1
            have hO6 : w6.heap[GO]? = some (.cells #[.bool true, .slice (some ⟨gr, 0, none⟩) (q + 1) cap] 24 (0, 0)) := (hg6.block GO (by rw [hs1.out]; omega) (fun e => by have := hlow _ e.symm; omega)).trans hO1.out
            have hb6 : Below GO w1 w6 := hB1.out.grown hg6 (by rw [hs1.out]; omega) (fun k hk => by have := hlow k hk; omega)
            have ya6 : w6.cell? ⟨GO, 1, none⟩ = some (.slice (some ⟨gr, 0, none⟩) (q + 1) cap) := (World.cell?_of_block (hg6.block GO (by rw [hs1.out]; omega) (fun e => by have := hlow _ e.symm; omega))).trans y11a
            have yb6 : w6.cell? ⟨g, i, none⟩ = some (.string T) := (World.cell?_of_block (a := ⟨g, i, none⟩) (hg6.block g (by rw [hs1.out]; omega) (fun e => by have := hlow _ e.symm; omega))).trans hca
            have hg6b : W1.drew.grownBy w6 E[q].2.ownBlock := by rw [HLV.out]; exact hg6
            have hrow6 := World.ownsRow.kept hRp1.out.row hg6b (hRp1.out.rowfar q hq1)
            have hc6 := World.ownsRow.cellAt hrow6 (q * 2 + 1) (by have := Hq.out; omega)
            rw [(rpCells_at E q hq1).2, HLV.out] at hc6
            have hz6 := World.ownsRow.frozenAt hrow6 (q * 2 + 1)
            have hfin := mkHid (hRp1.out.lines q hq1 y5 (P ++ [t]) hx6 hg6b (by
              rcases hv6 with e | e
              · exact .inl (by rw [HLV.out]; exact e)
              · exact .inr ⟨_, Nat.le_refl _, e⟩))
            obtain ⟨o5, k5, hv5⟩ := hx6.shape
            rw [show (P ++ [t]).length = P.length + 1 from by simp] at hv5
            subst hv5
            rw [HEQ.out, Hq.out] at hfin
            refine hK _ _ ⟨⟨ya6, yb6⟩, ?_⟩
            clear hK K hrow6 hg6 hg6b hv6 hlow hx6
            go_simp
            refine wpAnyH_take (i := 16) (v := .pointer (some ⟨gr, q * 2, none⟩)) rfl (by kernel_rfl) (by kernel_rfl) (by kernel_rfl) (fun _ _ _ h => h) (Or.inl ⟨by rfl, ?_⟩) ⟨ya6, yb6⟩ ?_
            · rintro w ⟨s1, s2⟩
              go_simp
              all_goals first | done | (intro h; exfalso; omega) | omega
            go_simp
            refine wpAnyH_take (i := 17) (v := .pointer (some ⟨gr, q * 2 + 1, none⟩)) rfl (by kernel_rfl) (by kernel_rfl) (by kernel_rfl) (fun _ _ _ h => h) (Or.inl ⟨by rfl, ?_⟩) ⟨ya6, yb6⟩ ?_
            · rintro w ⟨s1, s2⟩
              go_simp
              all_goals first | done | (intro h; exfalso; omega) | omega
            go_simp
            refine wpAnyH_all (rs := [18]) (by kernel_rfl) (by simp) ?_
            intro k hk
            simp only [List.mem_cons, List.not_mem_nil, or_false] at hk
            subst hk
            refine wpOp_step rfl (fun K hK => ?_)
            go_simp
            refine hK _ _ ⟨⟨?_, ?_⟩, ?_⟩
            · exact (World.cell?_of_block (a := ⟨GO, 1, none⟩) ((grG_set w6 gr (q * 2 + 1) _).block GO (heap_lt hO6) (by intro e; cases e; omega))).trans ya6
            · exact (World.cell?_of_block (a := ⟨g, i, none⟩) ((grG_set w6 gr (q * 2 + 1) _).block g (by have := heap_lt hO6; omega) (by intro e; cases e; omega))).trans yb6
            clear hK K
            go_simp
            refine wpAnyH_done (by kernel_rfl) ?_ _
            have hO7 : Hid ((w6.setCell ⟨gr, q * 2 + 1, none⟩ (.slice o5 (P.length + 1) k5)).heap[GO]? = some (.cells #[.bool true, .slice (some ⟨gr, 0, none⟩) (q + 1) cap] 24 (0, 0))) := show _ = _ from ((grG_set w6 gr (q * 2 + 1) _).block GO (heap_lt hO6) (by intro e; cases e; omega)).trans hO6
            have hb7 := mkHid (hb6.setCell (p := ⟨gr, q * 2 + 1, none⟩) (show GO ≤ gr by omega) (.slice o5 (P.length + 1) k5))
            have hc7 := (hb7.out.cell (p := ⟨g, i, none⟩) (by show g < GO; omega)).trans (hcL.out)
            have hEn7 := mkHid (hEn.out (.slice o5 (P.length + 1) k5))
            have hEl7 : Hid ((E.set q ((⟨c, P ++ [t]⟩ : GReply), Value.slice o5 (P.length + 1) k5)).length = q + 1) := show _ = _ from by rw [List.length_set]; exact Hq.out
            clear hO6 hb6 ya6 yb6 hc6 hz6 y10 y11 hc ya yb y11a hca d0 d1 d1a
            generalize (E.set q ((⟨c, P ++ [t]⟩ : GReply), Value.slice o5 (P.length + 1) k5)) = E7 at *
            go_wp2
            go_roundw
            case rel => exact ⟨i + 1, R', c', P', E7, some ⟨gr, 0, none⟩, cap, q + 1, mo, by omega, by go_num, rfl, E2, E1, hEn7, by omega, e4', hEl7, hfin, hO7, hb7⟩
            case measure => simp [Lib.intOf]; omega
      · have y2 : (((T[3]'g3).toNat : Int) != 45) = false := by rw [y1, Bool.true_and] at hsepI; exact hsepI
        clear hsepI
        cases hok : Rl.ok T.data.toList
        · have hz : Hid (Z = none) := show _ = _ from by rw [← HZ1.out]; exact Rl.bad _ _ _ _ _ (.inl hok)
          have hN2 : N < 200 ∨ 599 < N := by
            rw [hok] at hok1
            by_cases h : 200 ≤ N
            · right
              rw [decide_eq_true h, Bool.true_and] at hok1
              have := of_decide_eq_false hok1.symm
              omega
            · left; omega
          clear HZ1 hll hb0 hE0 hRp hok hok1 hok2 hmo hm45
          by_cases hlo : N < 200
          · have u1 : decide (N < 200) = true := decide_eq_true hlo
            go_wp2_with (go_at_call 11; fail)
            refine (cN.out _).mono ?_
            rintro e wN ⟨rfl, rfl⟩
            go_wp2
            refine bodyPost_ret (v := .agg #[.bool false, .slice none 0 0]) (by simp [results, Tryd.results4, go_sem, q0, q1]) rfl ?_
            rw [hz.out]
            exact outNone ((hbF.out.setCell (p := ⟨w.heap.size, 0, none⟩) (Nat.le_refl _) _).setCell (p := ⟨w.heap.size, 1, none⟩) (Nat.le_refl _) _)
          · have u1 : decide (N < 200) = false := decide_eq_false hlo
            have u2 : decide (599 < N) = true := decide_eq_true (by omega)
            go_wp2_with (go_at_call 11; fail)
            refine (cN.out _).mono ?_
            rintro e wN ⟨rfl, rfl⟩
            go_wp2
            refine bodyPost_ret (v := .agg #[.bool false, .slice none 0 0]) (by simp [results, Tryd.results4, go_sem, q0, q1]) rfl ?_
            rw [hz.out]
            exact outNone ((hbF.out.setCell (p := ⟨w.heap.size, 0, none⟩) (Nat.le_refl _) _).setCell (p := ⟨w.heap.size, 1, none⟩) (Nat.le_refl _) _)
        have hNc : N = Rl.code T.data.toList := hok2 hok
        have hcin := Rl.code_in _ hok
        have u1 : decide (N < 200) = false := decide_eq_false (by omega)
        have u2 : decide (599 < N) = false := decide_eq_false (by omega)
        have hx4 : (T.extract 4 T.size) = Rl.text T.data.toList := by
          rw [Pl.ext_mk, List.take_of_length_le (by simp)]; rfl
        cases b
        · have hP : P = [] := by
            have := hb0.out
            cases P with
            | nil => rfl
            | cons _ _ => cases this
          obtain ⟨R', c', P', e1, e2, e3, e4⟩ := Rl.next T.data.toList (ls.drop (i + 1)) R c P hok (.inl hP)
          rw [HZ1.out] at e1
          rw [← hNc, ← hx4] at e3
          rw [hmo] at e2
          have hEn : Hid ((E ++ [((⟨N, [T.extract 4 T.size]⟩ : GReply), Value.slice (some ⟨wr.heap.size, 0, none⟩) 1 1)]).map (·.1) = R' ++ Rl.tl c' P') := show _ = _ from by
            rw [List.map_append, hE0.out, ← e3, hP]; simp [Rl.tl]
          have E1 : Hid (Rl.rd (ls.drop (i + 1)) R' c' P' = Z) := e1.symm
          have E2 : Hid (mo = !P'.isEmpty) := e2
          have e4' : P'.length ≤ i + 1 := by omega
          obtain ⟨t, ht⟩ : ∃ t, T.extract 4 T.size = t := ⟨_, rfl⟩
          rw [ht] at hEn
          clear HZ1 hok hok1 hok2 hmo e1 e2 e3 e4 hNc hcin hx4 hP hb0 hE0 hll
          obtain ⟨y10, y11⟩ := two_cellsR hO.out
          have hadd := add_off g i
          go_wp2_with (go_at_call 11; fail)
          refine (cN.out _).mono ?_
          rintro e wN ⟨rfl, rfl⟩
          clear cN
          obtain ⟨W2, hW2⟩ : ∃ W2, W2 = (wr.alloc (.cells #[.string t] 9)).alloc (.cells #[.int .i64 N, .slice (some ⟨wr.heap.size, 0, none⟩) 1 1] 34) := ⟨_, rfl⟩
          have b1 : Below wr.heap.size wr (wr.alloc (.cells #[.string t] 9)) := (Below.refl _ _).alloc (Nat.le_refl _) _
          have b2 : Below (wr.alloc (.cells #[.string t] 9)).heap.size (wr.alloc (.cells #[.string t] 9)) W2 := by rw [hW2]; exact (Below.refl _ _).alloc (Nat.le_refl _) _
          have b12 : Below wr.heap.size wr W2 := b1.trans (b2.mono (by simp))
          have hx1 := mkHid ((OwnX.made1 (GO + 1) wr (by omega) t).below b2)
          have hRp2 := mkHid ((hRp.out.below b12).drew)
          have hx2 : Hid (OwnX (GO + 1) (.slice (some ⟨wr.heap.size, 0, none⟩) 1 1) [t] W2.drew) := hx1.out
          have hfar : Hid (∀ (j : Nat) (hj : j < E.length), Far E[j].2 (.slice (some ⟨wr.heap.size, 0, none⟩) 1 1)) := fun j hj => by
            cases ho : E[j].2.ownBlock with
            | none => exact .inl ho
            | some k =>
              right
              rw [ho]
              have := (World.ownsRow.lt (hRp.out.own j hj) k ho).2
              simp only [Value.ownBlock, ne_eq, Option.some.injEq]
              omega
          have hblk : W2.heap[wr.heap.size + 1]? = some (.cells #[.int .i64 N, .slice (some ⟨wr.heap.size, 0, none⟩) 1 1] 34 (0, 0)) := by
            have := heap_alloc_at (wr.alloc (.cells #[.string t] 9)) (.cells #[.int .i64 N, .slice (some ⟨wr.heap.size, 0, none⟩) 1 1] 34)
            rw [← hW2] at this
            rw [show (wr.alloc (.cells #[.string t] 9)).heap.size = wr.heap.size + 1 from by simp] at this
            exact this
          have hn0 : W2.drew.cell? ⟨wr.heap.size + 1, 0, none⟩ = some (.int .i64 N) := (two_cellsR hblk).1
          have hn1 : W2.drew.cell? ⟨wr.heap.size + 1, 1, none⟩ = some (.slice (some ⟨wr.heap.size, 0, none⟩) 1 1) := (two_cellsR hblk).2
          have hO2 : Hid (W2.drew.heap[GO]? = some (.cells #[.bool true, .slice o nn cap] 24 (0, 0))) := show _ = _ from (b12.block GO hOs).trans hO.out
          have hB2 := mkHid ((hB.out.trans (b12.mono (by omega))).drew)
          have hs2 : W2.drew.heap.size = wr.heap.size + 2 := by rw [hW2]; simp [World.drew]
          have Hn0 := mkHid hn0
          have Hn1 := mkHid hn1
          have HW2 := mkHid hW2
          have Hs2 := mkHid hs2
          clear hn0 hn1 hW2 hs2 b1 b2 b12 hx1 hblk
          go_wp2
          refine wp_region_any (by kernel_rfl) ?_
          refine wpAny_take (i := 0) (v := .pointer (some ⟨GO, 1, none⟩)) rfl (by kernel_rfl) (by kernel_rfl) (by kernel_rfl) (fun _ _ _ h => h) (Or.inl ⟨by rfl, ?_⟩) ?_
          · intro w
            go_simp
            all_goals first | done | (intro h; exfalso; omega) | omega
          go_simp
          refine wpAny_take (i := 2) (v := .int .i64 N) rfl (by kernel_rfl) (by kernel_rfl) (by kernel_rfl) (fun _ _ _ h => h) (Or.inl ⟨by rfl, ?_⟩) ?_
          · intro w
            go_simp
            all_goals first | done | (intro h; exfalso; omega) | omega
          go_simp
          refine wpAny_take (i := 3) (v := .slice (some ⟨g, 0, none⟩) ls.length capL) rfl (by kernel_rfl) (by kernel_rfl) (by kernel_rfl) (fun _ _ _ h => h) (Or.inl ⟨by rfl, ?_⟩) ?_
          · intro w
            go_simp
            all_goals first | done | (intro h; exfalso; omega) | omega
          go_simp
          refine wpAny_take (i := 4) (v := .int .i64 (i : Int)) rfl (by kernel_rfl) (by kernel_rfl) (by kernel_rfl) (fun _ _ _ h => h) (Or.inl ⟨by rfl, ?_⟩) ?_
          · intro w
            go_simp
            all_goals first | done | (intro h; exfalso; omega) | omega
          go_simp
          refine wpAny_take (i := 5) (v := .pointer (some ⟨g, i, none⟩)) rfl (by kernel_rfl) (by kernel_rfl) (by kernel_rfl) (fun _ _ _ h => h) (Or.inl ⟨by rfl, ?_⟩) ?_
          · intro w
            go_simp
            all_goals first | done | (intro h; exfalso; omega) | omega
          go_simp
          refine wpAny_ready (rs := [1, 6]) (by kernel_rfl) (by simp) ?_
          refine AllReady.cons rfl (fun K hK => ?_) (AllReady.cons rfl (fun K hK => ?_) AllReady.nil)
          · go_simp
            refine hK _ _ ?_
            clear hK K
            go_simp
            refine wpAny_ready (rs := [6]) (by kernel_rfl) (by simp) ?_
            refine AllReady.cons rfl (fun K hK => ?_) AllReady.nil
            go_simp
            refine hK _ _ ?_
            clear hK K
            go_simp
            refine wpAny_take (i := 7) (v := .string t) rfl (by kernel_rfl) (by kernel_rfl) (by kernel_rfl) (fun _ _ _ h => h) (Or.inl ⟨by rfl, ?_⟩) ?_
            · intro w
              go_simp
              all_goals first | done | (intro h; exfalso; omega) | omega
            go_simp
            refine wpAny_ready (rs := [8]) (by kernel_rfl) (by simp) ?_
            refine AllReady.cons rfl (fun K hK => ?_) AllReady.nil
            go_simp
            refine hK _ _ ?_
            clear hK K
            go_simp
            refine wpAny_take (i := 9) (v := .agg #[.int .i64 N, Value.slice (some ⟨wr.heap.size, 0, none⟩) 1 1]) rfl (by kernel_rfl) (by kernel_rfl) (by kernel_rfl) (fun _ _ _ h => h) (Or.inl ⟨by rfl, ?_⟩) ?_
            · intro w
              go_simp
              all_goals first | done | (intro h; exfalso; omega) | omega
            go_simp
            refine wpAny_ready (rs := [10]) (by kernel_rfl) (by simp) ?_
            refine AllReady.cons rfl (fun K hK => ?_) AllReady.nil
            go_simp
            refine hK _ _ ?_
            clear hK K
            go_simp
            refine wpAny_ready (rs := [11]) (by kernel_rfl) (by simp) ?_
            refine AllReady.cons rfl (fun K hK => ?_) AllReady.nil
            rw [show ((wr.alloc (.cells #[.string t] 9)).alloc (.cells #[.int .i64 N, .slice (some ⟨wr.heap.size, 0, none⟩) 1 1] 34)).drew = W2.drew from by rw [HW2.out]]
            refine opAppRp _ _ rfl (GO + 1) (.slice o nn cap) E rfl hRp2.out.row ((⟨N, [t]⟩ : GReply), Value.slice (some ⟨wr.heap.size, 0, none⟩) 1 1) (wr.heap.size + 1) 1 rfl Hn0.out Hn1.out rfl (by rw [hnn.out]; omega) (by rw [Hs2.out]; omega) ?_
            intro y5 w6 hrow6 hg6
            have hRp6 := hRp2.out.push hx2.out hfar.out hrow6 hg6
            have hne6 := hRp2.out.rowOther hO2.out (by decide)
            have hO6 : w6.heap[GO]? = some (.cells #[.bool true, .slice o nn cap] 24 (0, 0)) := (hg6.block GO (by rw [Hs2.out]; omega) hne6).trans hO2.out
            have hb6 : Below GO w1 w6 := hB2.out.grown hg6 (by rw [Hs2.out]; omega) (fun k hk => by have := (World.ownsRow.lt hRp2.out.row k hk).1; omega)
            obtain ⟨o5, k5, hv5⟩ := hRp6.shape
            rw [show (E ++ [((⟨N, [t]⟩ : GReply), Value.slice (some ⟨wr.heap.size, 0, none⟩) 1 1)]).length = nn + 1 from by rw [List.length_append, hnn.out]; rfl] at hv5
            subst hv5
            have x6 := (two_cellsR hO6).2
            have z6 := two_frozenR hO6 1
            refine hK _ _ ?_
            clear hK K
            go_simp
            refine wpAny_take (i := 12) (v := .pointer (some ⟨GO, 1, none⟩)) rfl (by kernel_rfl) (by kernel_rfl) (by kernel_rfl) (fun _ _ _ h => h) (Or.inl ⟨by rfl, ?_⟩) ?_
            · intro w
              go_simp
              all_goals first | done | (intro h; exfalso; omega) | omega
            go_simp
            refine wpAny_ready (rs := [13]) (by kernel_rfl) (by simp) ?_
            refine AllReady.cons rfl (fun K hK => ?_) AllReady.nil
            go_simp
            refine hK _ _ ?_
            clear hK K
            go_simp
            refine wpAny_done (by kernel_rfl) ?_ _
            have hO7 : Hid ((w6.setCell ⟨GO, 1, none⟩ (.slice o5 (nn + 1) k5)).heap[GO]? = some (.cells #[.bool true, .slice o5 (nn + 1) k5] 24 (0, 0))) := by show _ = _; simp [World.setCell, Array.getElem?_modify, hO6]
            have hRp7 : Hid (Rp (GO + 1) (.slice o5 (nn + 1) k5) (E ++ [((⟨N, [t]⟩ : GReply), Value.slice (some ⟨wr.heap.size, 0, none⟩) 1 1)]) (w6.setCell ⟨GO, 1, none⟩ (.slice o5 (nn + 1) k5))) := hRp6.set (by omega)
            have hb7 := mkHid (hb6.setCell (p := ⟨GO, 1, none⟩) (Nat.le_refl _) (.slice o5 (nn + 1) k5))
            have hEl7 : Hid ((E ++ [((⟨N, [t]⟩ : GReply), Value.slice (some ⟨wr.heap.size, 0, none⟩) 1 1)]).length = nn + 1) := show _ = _ from by rw [List.length_append, hnn.out]; rfl
            have hc7 := (hb7.out.cell (p := ⟨g, i, none⟩) (by show g < GO; omega)).trans (hcL.out)
            clear hrow6 hg6 hRp6 hO6 x6 z6 hb6 y10 y11 hc
            generalize (E ++ [((⟨N, [t]⟩ : GReply), Value.slice (some ⟨wr.heap.size, 0, none⟩) 1 1)]) = E7 at *
            go_wp2
            go_roundw
            case rel => exact ⟨i + 1, R', c', P', E7, o5, k5, nn + 1, mo, by omega, by go_num, rfl, E2, E1, hEn, by omega, e4', hEl7, hRp7, hO7, hb7⟩
            case measure => simp [Lib.intOf]; omega
          · go_simp
            refine hK _ _ ?_
            clear hK K
            go_simp
            refine wpAny_take (i := 7) (v := .string t) rfl (by kernel_rfl) (by kernel_rfl) (by kernel_rfl) (fun _ _ _ h => h) (Or.inl ⟨by rfl, ?_⟩) ?_
            · intro w
              go_simp
              all_goals first | done | (intro h; exfalso; omega) | omega
            go_simp
            refine wpAny_ready (rs := [1, 8]) (by kernel_rfl) (by simp) ?_
            refine AllReady.cons rfl (fun K hK => ?_) (AllReady.cons rfl (fun K hK => ?_) AllReady.nil)
            · go_simp
              refine hK _ _ ?_
              clear hK K
              go_simp
              refine wpAny_ready (rs := [8]) (by kernel_rfl) (by simp) ?_
              refine AllReady.cons rfl (fun K hK => ?_) AllReady.nil
              go_simp
              refine hK _ _ ?_
              clear hK K
              go_simp
              refine wpAny_take (i := 9) (v := .agg #[.int .i64 N, Value.slice (some ⟨wr.heap.size, 0, none⟩) 1 1]) rfl (by kernel_rfl) (by kernel_rfl) (by kernel_rfl) (fun _ _ _ h => h) (Or.inl ⟨by rfl, ?_⟩) ?_
              · intro w
                go_simp
                all_goals first | done | (intro h; exfalso; omega) | omega
              go_simp
              refine wpAny_ready (rs := [10]) (by kernel_rfl) (by simp) ?_
              refine AllReady.cons rfl (fun K hK => ?_) AllReady.nil
              go_simp
              refine hK _ _ ?_
              clear hK K
              go_simp
              refine wpAny_ready (rs := [11]) (by kernel_rfl) (by simp) ?_
              refine AllReady.cons rfl (fun K hK => ?_) AllReady.nil
              rw [show ((wr.alloc (.cells #[.string t] 9)).alloc (.cells #[.int .i64 N, .slice (some ⟨wr.heap.size, 0, none⟩) 1 1] 34)).drew = W2.drew from by rw [HW2.out]]
              refine opAppRp _ _ rfl (GO + 1) (.slice o nn cap) E rfl hRp2.out.row ((⟨N, [t]⟩ : GReply), Value.slice (some ⟨wr.heap.size, 0, none⟩) 1 1) (wr.heap.size + 1) 1 rfl Hn0.out Hn1.out rfl (by rw [hnn.out]; omega) (by rw [Hs2.out]; omega) ?_
              intro y5 w6 hrow6 hg6
              have hRp6 := hRp2.out.push hx2.out hfar.out hrow6 hg6
              have hne6 := hRp2.out.rowOther hO2.out (by decide)
              have hO6 : w6.heap[GO]? = some (.cells #[.bool true, .slice o nn cap] 24 (0, 0)) := (hg6.block GO (by rw [Hs2.out]; omega) hne6).trans hO2.out
              have hb6 : Below GO w1 w6 := hB2.out.grown hg6 (by rw [Hs2.out]; omega) (fun k hk => by have := (World.ownsRow.lt hRp2.out.row k hk).1; omega)
              obtain ⟨o5, k5, hv5⟩ := hRp6.shape
              rw [show (E ++ [((⟨N, [t]⟩ : GReply), Value.slice (some ⟨wr.heap.size, 0, none⟩) 1 1)]).length = nn + 1 from by rw [List.length_append, hnn.out]; rfl] at hv5
              subst hv5
              have x6 := (two_cellsR hO6).2
              have z6 := two_frozenR hO6 1
              refine hK _ _ ?_
              clear hK K
              go_simp
              refine wpAny_take (i := 12) (v := .pointer (some ⟨GO, 1, none⟩)) rfl (by kernel_rfl) (by kernel_rfl) (by kernel_rfl) (fun _ _ _ h => h) (Or.inl ⟨by rfl, ?_⟩) ?_
              · intro w
                go_simp
                all_goals first | done | (intro h; exfalso; omega) | omega
              go_simp
              refine wpAny_ready (rs := [13]) (by kernel_rfl) (by simp) ?_
              refine AllReady.cons rfl (fun K hK => ?_) AllReady.nil
              go_simp
              refine hK _ _ ?_
              clear hK K
              go_simp
              refine wpAny_done (by kernel_rfl) ?_ _
              have hO7 : Hid ((w6.setCell ⟨GO, 1, none⟩ (.slice o5 (nn + 1) k5)).heap[GO]? = some (.cells #[.bool true, .slice o5 (nn + 1) k5] 24 (0, 0))) := by show _ = _; simp [World.setCell, Array.getElem?_modify, hO6]
              have hRp7 : Hid (Rp (GO + 1) (.slice o5 (nn + 1) k5) (E ++ [((⟨N, [t]⟩ : GReply), Value.slice (some ⟨wr.heap.size, 0, none⟩) 1 1)]) (w6.setCell ⟨GO, 1, none⟩ (.slice o5 (nn + 1) k5))) := hRp6.set (by omega)
              have hb7 := mkHid (hb6.setCell (p := ⟨GO, 1, none⟩) (Nat.le_refl _) (.slice o5 (nn + 1) k5))
              have hEl7 : Hid ((E ++ [((⟨N, [t]⟩ : GReply), Value.slice (some ⟨wr.heap.size, 0, none⟩) 1 1)]).length = nn + 1) := show _ = _ from by rw [List.length_append, hnn.out]; rfl
              have hc7 := (hb7.out.cell (p := ⟨g, i, none⟩) (by show g < GO; omega)).trans (hcL.out)
              clear hrow6 hg6 hRp6 hO6 x6 z6 hb6 y10 y11 hc
              generalize (E ++ [((⟨N, [t]⟩ : GReply), Value.slice (some ⟨wr.heap.size, 0, none⟩) 1 1)]) = E7 at *
              go_wp2
              go_roundw
              case rel => exact ⟨i + 1, R', c', P', E7, o5, k5, nn + 1, mo, by omega, by go_num, rfl, E2, E1, hEn, by omega, e4', hEl7, hRp7, hO7, hb7⟩
              case measure => simp [Lib.intOf]; omega
            · go_simp
              refine hK _ _ ?_
              clear hK K
              go_simp
              refine wpAny_take (i := 9) (v := .agg #[.int .i64 N, Value.slice (some ⟨wr.heap.size, 0, none⟩) 1 1]) rfl (by kernel_rfl) (by kernel_rfl) (by kernel_rfl) (fun _ _ _ h => h) (Or.inl ⟨by rfl, ?_⟩) ?_
              · intro w
                go_simp
                all_goals first | done | (intro h; exfalso; omega) | omega
              go_simp
              refine wpAny_ready (rs := [1, 10]) (by kernel_rfl) (by simp) ?_
              refine AllReady.cons rfl (fun K hK => ?_) (AllReady.cons rfl (fun K hK => ?_) AllReady.nil)
              · go_simp
                refine hK _ _ ?_
                clear hK K
                go_simp
                refine wpAny_ready (rs := [10]) (by kernel_rfl) (by simp) ?_
                refine AllReady.cons rfl (fun K hK => ?_) AllReady.nil
                go_simp
                refine hK _ _ ?_
                clear hK K
                go_simp
                refine wpAny_ready (rs := [11]) (by kernel_rfl) (by simp) ?_
                refine AllReady.cons rfl (fun K hK => ?_) AllReady.nil
                rw [show ((wr.alloc (.cells #[.string t] 9)).alloc (.cells #[.int .i64 N, .slice (some ⟨wr.heap.size, 0, none⟩) 1 1] 34)).drew = W2.drew from by rw [HW2.out]]
                refine opAppRp _ _ rfl (GO + 1) (.slice o nn cap) E rfl hRp2.out.row ((⟨N, [t]⟩ : GReply), Value.slice (some ⟨wr.heap.size, 0, none⟩) 1 1) (wr.heap.size + 1) 1 rfl Hn0.out Hn1.out rfl (by rw [hnn.out]; omega) (by rw [Hs2.out]; omega) ?_
                intro y5 w6 hrow6 hg6
                have hRp6 := hRp2.out.push hx2.out hfar.out hrow6 hg6
                have hne6 := hRp2.out.rowOther hO2.out (by decide)
                have hO6 : w6.heap[GO]? = some (.cells #[.bool true, .slice o nn cap] 24 (0, 0)) := (hg6.block GO (by rw [Hs2.out]; omega) hne6).trans hO2.out
                have hb6 : Below GO w1 w6 := hB2.out.grown hg6 (by rw [Hs2.out]; omega) (fun k hk => by have := (World.ownsRow.lt hRp2.out.row k hk).1; omega)
                obtain ⟨o5, k5, hv5⟩ := hRp6.shape
                rw [show (E ++ [((⟨N, [t]⟩ : GReply), Value.slice (some ⟨wr.heap.size, 0, none⟩) 1 1)]).length = nn + 1 from by rw [List.length_append, hnn.out]; rfl] at hv5
                subst hv5
                have x6 := (two_cellsR hO6).2
                have z6 := two_frozenR hO6 1
                refine hK _ _ ?_
                clear hK K
                go_simp
                refine wpAny_take (i := 12) (v := .pointer (some ⟨GO, 1, none⟩)) rfl (by kernel_rfl) (by kernel_rfl) (by kernel_rfl) (fun _ _ _ h => h) (Or.inl ⟨by rfl, ?_⟩) ?_
                · intro w
                  go_simp
                  all_goals first | done | (intro h; exfalso; omega) | omega
                go_simp
                refine wpAny_ready (rs := [13]) (by kernel_rfl) (by simp) ?_
                refine AllReady.cons rfl (fun K hK => ?_) AllReady.nil
                go_simp
                refine hK _ _ ?_
                clear hK K
                go_simp
                refine wpAny_done (by kernel_rfl) ?_ _
                have hO7 : Hid ((w6.setCell ⟨GO, 1, none⟩ (.slice o5 (nn + 1) k5)).heap[GO]? = some (.cells #[.bool true, .slice o5 (nn + 1) k5] 24 (0, 0))) := by show _ = _; simp [World.setCell, Array.getElem?_modify, hO6]
                have hRp7 : Hid (Rp (GO + 1) (.slice o5 (nn + 1) k5) (E ++ [((⟨N, [t]⟩ : GReply), Value.slice (some ⟨wr.heap.size, 0, none⟩) 1 1)]) (w6.setCell ⟨GO, 1, none⟩ (.slice o5 (nn + 1) k5))) := hRp6.set (by omega)
                have hb7 := mkHid (hb6.setCell (p := ⟨GO, 1, none⟩) (Nat.le_refl _) (.slice o5 (nn + 1) k5))
                have hEl7 : Hid ((E ++ [((⟨N, [t]⟩ : GReply), Value.slice (some ⟨wr.heap.size, 0, none⟩) 1 1)]).length = nn + 1) := show _ = _ from by rw [List.length_append, hnn.out]; rfl
                have hc7 := (hb7.out.cell (p := ⟨g, i, none⟩) (by show g < GO; omega)).trans (hcL.out)
                clear hrow6 hg6 hRp6 hO6 x6 z6 hb6 y10 y11 hc
                generalize (E ++ [((⟨N, [t]⟩ : GReply), Value.slice (some ⟨wr.heap.size, 0, none⟩) 1 1)]) = E7 at *
                go_wp2
                go_roundw
                case rel => exact ⟨i + 1, R', c', P', E7, o5, k5, nn + 1, mo, by omega, by go_num, rfl, E2, E1, hEn, by omega, e4', hEl7, hRp7, hO7, hb7⟩
                case measure => simp [Lib.intOf]; omega
              · go_simp
                refine hK _ _ ?_
                clear hK K
                go_simp
                refine wpAny_ready (rs := [1]) (by kernel_rfl) (by simp) ?_
                refine AllReady.cons rfl (fun K hK => ?_) AllReady.nil
                go_simp
                refine hK _ _ ?_
                clear hK K
                go_simp
                refine wpAny_ready (rs := [11]) (by kernel_rfl) (by simp) ?_
                refine AllReady.cons rfl (fun K hK => ?_) AllReady.nil
                rw [show ((wr.alloc (.cells #[.string t] 9)).alloc (.cells #[.int .i64 N, .slice (some ⟨wr.heap.size, 0, none⟩) 1 1] 34)).drew = W2.drew from by rw [HW2.out]]
                refine opAppRp _ _ rfl (GO + 1) (.slice o nn cap) E rfl hRp2.out.row ((⟨N, [t]⟩ : GReply), Value.slice (some ⟨wr.heap.size, 0, none⟩) 1 1) (wr.heap.size + 1) 1 rfl Hn0.out Hn1.out rfl (by rw [hnn.out]; omega) (by rw [Hs2.out]; omega) ?_
                intro y5 w6 hrow6 hg6
                have hRp6 := hRp2.out.push hx2.out hfar.out hrow6 hg6
                have hne6 := hRp2.out.rowOther hO2.out (by decide)
                have hO6 : w6.heap[GO]? = some (.cells #[.bool true, .slice o nn cap] 24 (0, 0)) := (hg6.block GO (by rw [Hs2.out]; omega) hne6).trans hO2.out
                have hb6 : Below GO w1 w6 := hB2.out.grown hg6 (by rw [Hs2.out]; omega) (fun k hk => by have := (World.ownsRow.lt hRp2.out.row k hk).1; omega)
                obtain ⟨o5, k5, hv5⟩ := hRp6.shape
                rw [show (E ++ [((⟨N, [t]⟩ : GReply), Value.slice (some ⟨wr.heap.size, 0, none⟩) 1 1)]).length = nn + 1 from by rw [List.length_append, hnn.out]; rfl] at hv5
                subst hv5
                have x6 := (two_cellsR hO6).2
                have z6 := two_frozenR hO6 1
                refine hK _ _ ?_
                clear hK K
                go_simp
                refine wpAny_take (i := 12) (v := .pointer (some ⟨GO, 1, none⟩)) rfl (by kernel_rfl) (by kernel_rfl) (by kernel_rfl) (fun _ _ _ h => h) (Or.inl ⟨by rfl, ?_⟩) ?_
                · intro w
                  go_simp
                  all_goals first | done | (intro h; exfalso; omega) | omega
                go_simp
                refine wpAny_ready (rs := [13]) (by kernel_rfl) (by simp) ?_
                refine AllReady.cons rfl (fun K hK => ?_) AllReady.nil
                go_simp
                refine hK _ _ ?_
                clear hK K
                go_simp
                refine wpAny_done (by kernel_rfl) ?_ _
                have hO7 : Hid ((w6.setCell ⟨GO, 1, none⟩ (.slice o5 (nn + 1) k5)).heap[GO]? = some (.cells #[.bool true, .slice o5 (nn + 1) k5] 24 (0, 0))) := by show _ = _; simp [World.setCell, Array.getElem?_modify, hO6]
                have hRp7 : Hid (Rp (GO + 1) (.slice o5 (nn + 1) k5) (E ++ [((⟨N, [t]⟩ : GReply), Value.slice (some ⟨wr.heap.size, 0, none⟩) 1 1)]) (w6.setCell ⟨GO, 1, none⟩ (.slice o5 (nn + 1) k5))) := hRp6.set (by omega)
                have hb7 := mkHid (hb6.setCell (p := ⟨GO, 1, none⟩) (Nat.le_refl _) (.slice o5 (nn + 1) k5))
                have hEl7 : Hid ((E ++ [((⟨N, [t]⟩ : GReply), Value.slice (some ⟨wr.heap.size, 0, none⟩) 1 1)]).length = nn + 1) := show _ = _ from by rw [List.length_append, hnn.out]; rfl
                have hc7 := (hb7.out.cell (p := ⟨g, i, none⟩) (by show g < GO; omega)).trans (hcL.out)
                clear hrow6 hg6 hRp6 hO6 x6 z6 hb6 y10 y11 hc
                generalize (E ++ [((⟨N, [t]⟩ : GReply), Value.slice (some ⟨wr.heap.size, 0, none⟩) 1 1)]) = E7 at *
                go_wp2
                go_roundw
                case rel => exact ⟨i + 1, R', c', P', E7, o5, k5, nn + 1, mo, by omega, by go_num, rfl, E2, E1, hEn, by omega, e4', hEl7, hRp7, hO7, hb7⟩
                case measure => simp [Lib.intOf]; omega
        · have hP : P ≠ [] := by
            intro e
            have := hb0.out
            rw [e] at this
            cases this
          have hEq : E.map (·.1) = R ++ [⟨c, P⟩] := by rw [hE0.out]; simp [Rl.tl, hP]
          obtain ⟨q, hq1, hq, hqR, hEqq⟩ := lastOf E R c P hEq
          obtain rfl : nn = q + 1 := by rw [← hnn.out]; exact hq
          obtain ⟨gr, hgr, hgB⟩ : ∃ gr, o = some ⟨gr, 0, none⟩ ∧ GO + 1 ≤ gr := by
            rcases hRp.out.row.2 with ⟨h1, h0⟩ | ⟨gr, cap', cur, h1, hB', -⟩
            · omega
            · simp only [Value.slice.injEq] at h1
              exact ⟨gr, h1.1, hB'⟩
          subst hgr
          have hrc := rpCells_at E q hq1
          have d0 := World.ownsRow.cells hRp.out.row (g := gr) rfl (q * 2) _ hrc.1
          have d1 := World.ownsRow.cells hRp.out.row (g := gr) rfl (q * 2 + 1) _ hrc.2
          rw [add_off] at d0 d1
          have hx := hRp.out.own q hq1
          obtain ⟨lo_, lc, hlv⟩ := hx.shape
          rw [hEqq] at d0 hx hlv
          rw [hlv] at d1
          have HX := mkHid hx
          have HLV := mkHid hlv
          have HEQ := mkHid hEqq
          obtain ⟨y10, y11⟩ := two_cellsR hO.out
          have Hq := mkHid hq
          have HqR := mkHid hqR
          have hadd := add_off g i
          have hadd2 := add_off gr (q * 2)
          clear hrc hx hlv hEqq hb0 hq hqR
          by_cases hcN : c = N
          rotate_left
          · have hz : Hid (Z = none) := show _ = _ from by rw [← HZ1.out]; exact Rl.bad _ _ _ _ _ (.inr ⟨hP, by rw [← hNc]; exact hcN⟩)
            have u5 : (c != N) = true := by rw [bne_iff_ne]; exact hcN
            clear HZ1 hok hok1 hok2 hmo hNc hcin hx4 hE0 hll HX HLV HEQ hEq hRp
            go_wp2_with (go_at_call 11; fail)
            refine (cN.out _).mono ?_
            rintro e wN ⟨rfl, rfl⟩
            go_wp2
            refine bodyPost_ret (v := .agg #[.bool false, .slice none 0 0]) (by simp [results, Tryd.results4, go_sem, q0, q1]) rfl ?_
            rw [hz.out]
            exact outNone ((hbF.out.setCell (p := ⟨w.heap.size, 0, none⟩) (Nat.le_refl _) _).setCell (p := ⟨w.heap.size, 1, none⟩) (Nat.le_refl _) _)
          subst hcN
          have u5 : (c != c) = false := by simp
          obtain ⟨R', c', P', e1, e2, e3, e4⟩ := Rl.next T.data.toList (ls.drop (i + 1)) R c P hok (.inr hNc)
          rw [HZ1.out] at e1
          rw [← hNc, ← hx4] at e3
          rw [hmo] at e2
          obtain ⟨t, ht⟩ : ∃ t, T.extract 4 T.size = t := ⟨_, rfl⟩
          rw [ht] at e3
          have hEn : Hid (∀ v : Value, (E.set q ((⟨c, P ++ [t]⟩ : GReply), v)).map (·.1) = R' ++ Rl.tl c' P') := fun v => by
            rw [← e3, List.map_set, hEq]
            rw [HqR.out, List.set_append, if_neg (by omega)]
            simp
          have E1 : Hid (Rl.rd (ls.drop (i + 1)) R' c' P' = Z) := e1.symm
          have E2 : Hid (mo = !P'.isEmpty) := e2
          have e4' : P'.length ≤ i + 1 := by omega
          clear HZ1 hok hok1 hok2 hmo e1 e2 e3 e4 hNc hcin hx4 hP hE0 hll hEq
          obtain ⟨W1, hW1⟩ : ∃ W1, W1 = wr.alloc (.cells #[.string t] 9) := ⟨_, rfl⟩
          have b1 : Below wr.heap.size wr W1 := by rw [hW1]; exact (Below.refl _ _).alloc (Nat.le_refl _) _
          have hn0 : W1.drew.cell? ⟨wr.heap.size, 0, none⟩ = some (.string t) := by
            have := heap_alloc_at wr (.cells #[.string t] 9)
            rw [← hW1] at this
            show W1.cell? _ = _
            simp [World.cell?, this]
          have hRp0 := hRp.out
          rw [← Hq.out] at hRp0
          have hRp1 := mkHid ((hRp0.below b1).drew)
          clear hRp0
          have hX0 := HX.out.below b1
          rw [HLV.out] at hX0
          have hX1 : Hid (OwnX (GO + 1) (.slice lo_ P.length lc) P W1.drew) := hX0
          clear hX0
          have hO1 : Hid (W1.drew.heap[GO]? = some (.cells #[.bool true, .slice (some ⟨gr, 0, none⟩) (q + 1) cap] 24 (0, 0))) := show _ = _ from (b1.block GO hOs).trans hO.out
          have hB1 := mkHid ((hB.out.trans (b1.mono (by omega))).drew)
          have hs1 : Hid (W1.drew.heap.size = wr.heap.size + 1) := show _ = _ from by rw [hW1]; simp [World.drew]
          have y11a : W1.drew.cell? ⟨GO, 1, none⟩ = some (.slice (some ⟨gr, 0, none⟩) (q + 1) cap) := (b1.cell (p := ⟨GO, 1, none⟩) hOs).trans y11
          have hca : W1.drew.cell? ⟨g, i, none⟩ = some (.string T) := (b1.cell (p := ⟨g, i, none⟩) (by show g < wr.heap.size; omega)).trans hc
          have d1a : W1.drew.cell? ⟨gr, q * 2 + 1, none⟩ = some (.slice lo_ P.length lc) := (b1.cell (p := ⟨gr, q * 2 + 1, none⟩) (by have := (World.ownsRow.lt hRp.out.row gr rfl).2; exact this)).trans d1
          have Hn0 := mkHid hn0
          have HW1 := mkHid hW1
          clear hn0 hW1 b1
          have ya : wr.drew.cell? ⟨GO, 1, none⟩ = some (.slice (some ⟨gr, 0, none⟩) (q + 1) cap) := y11
          have yb : wr.drew.cell? ⟨g, i, none⟩ = some (.string T) := hc
          go_wp2_with (go_at_call 11; fail)
          refine (cN.out _).mono ?_
          rintro e wN ⟨rfl, rfl⟩
          clear cN
          go_wp2
          refine wp_region_held (S := fun w => w.cell? ⟨GO, 1, none⟩ = some (.slice (some ⟨gr, 0, none⟩) (q + 1) cap) ∧ w.cell? ⟨g, i, none⟩ = some (.string T)) (by kernel_rfl) ?_
          refine wpAnyH_take (i := 0) (v := .pointer (some ⟨GO, 1, none⟩)) rfl (by kernel_rfl) (by kernel_rfl) (by kernel_rfl) (fun _ _ _ h => h) (Or.inl ⟨by rfl, ?_⟩) ⟨ya, yb⟩ ?_
          · rintro w ⟨s1, s2⟩
            go_simp
            all_goals first | done | (intro h; exfalso; omega) | omega
          go_simp
          refine wpAnyH_take (i := 1) (v := .slice (some ⟨gr, 0, none⟩) (q + 1) cap) rfl (by kernel_rfl) (by kernel_rfl) (by kernel_rfl) (fun _ _ _ h => h) (Or.inl ⟨by rfl, ?_⟩) ⟨ya, yb⟩ ?_
          · rintro w ⟨s1, s2⟩
            go_simp
            all_goals first | done | (intro h; exfalso; omega) | omega
          go_simp
          refine wpAnyH_take (i := 2) (v := .int .i64 (q : Int)) rfl (by kernel_rfl) (by kernel_rfl) (by kernel_rfl) (fun _ _ _ h => h) (Or.inl ⟨by rfl, ?_⟩) ⟨ya, yb⟩ ?_
          · rintro w ⟨s1, s2⟩
            go_simp
            all_goals first | done | (intro h; exfalso; omega) | omega
          go_simp
          refine wpAnyH_take (i := 3) (v := .pointer (some ⟨GO, 1, none⟩)) rfl (by kernel_rfl) (by kernel_rfl) (by kernel_rfl) (fun _ _ _ h => h) (Or.inl ⟨by rfl, ?_⟩) ⟨ya, yb⟩ ?_
          · rintro w ⟨s1, s2⟩
            go_simp
            all_goals first | done | (intro h; exfalso; omega) | omega
          go_simp
          refine wpAnyH_take (i := 4) (v := .slice (some ⟨gr, 0, none⟩) (q + 1) cap) rfl (by kernel_rfl) (by kernel_rfl) (by kernel_rfl) (fun _ _ _ h => h) (Or.inl ⟨by rfl, ?_⟩) ⟨ya, yb⟩ ?_
          · rintro w ⟨s1, s2⟩
            go_simp
            all_goals first | done | (intro h; exfalso; omega) | omega
          go_simp
          refine wpAnyH_take (i := 5) (v := .int .i64 (q : Int)) rfl (by kernel_rfl) (by kernel_rfl) (by kernel_rfl) (fun _ _ _ h => h) (Or.inl ⟨by rfl, ?_⟩) ⟨ya, yb⟩ ?_
          · rintro w ⟨s1, s2⟩
            go_simp
            all_goals first | done | (intro h; exfalso; omega) | omega
          go_simp
          refine wpAnyH_take (i := 6) (v := .pointer (some ⟨gr, q * 2, none⟩)) rfl (by kernel_rfl) (by kernel_rfl) (by kernel_rfl) (fun _ _ _ h => h) (Or.inl ⟨by rfl, ?_⟩) ⟨ya, yb⟩ ?_
          · rintro w ⟨s1, s2⟩
            go_simp
            all_goals first | done | (intro h; exfalso; omega) | omega
          go_simp
          refine wpAnyH_take (i := 7) (v := .pointer (some ⟨gr, q * 2 + 1, none⟩)) rfl (by kernel_rfl) (by kernel_rfl) (by kernel_rfl) (fun _ _ _ h => h) (Or.inl ⟨by rfl, ?_⟩) ⟨ya, yb⟩ ?_
          · rintro w ⟨s1, s2⟩
            go_simp
            all_goals first | done | (intro h; exfalso; omega) | omega
          go_simp
          refine wpAnyH_take (i := 9) (v := .slice (some ⟨g, 0, none⟩) ls.length capL) rfl (by kernel_rfl) (by kernel_rfl) (by kernel_rfl) (fun _ _ _ h => h) (Or.inl ⟨by rfl, ?_⟩) ⟨ya, yb⟩ ?_
          · rintro w ⟨s1, s2⟩
            go_simp
            all_goals first | done | (intro h; exfalso; omega) | omega
          go_simp
          refine wpAnyH_take (i := 10) (v := .int .i64 (i : Int)) rfl (by kernel_rfl) (by kernel_rfl) (by kernel_rfl) (fun _ _ _ h => h) (Or.inl ⟨by rfl, ?_⟩) ⟨ya, yb⟩ ?_
          · rintro w ⟨s1, s2⟩
            go_simp
            all_goals first | done | (intro h; exfalso; omega) | omega
          go_simp
          refine wpAnyH_take (i := 11) (v := .pointer (some ⟨g, i, none⟩)) rfl (by kernel_rfl) (by kernel_rfl) (by kernel_rfl) (fun _ _ _ h => h) (Or.inl ⟨by rfl, ?_⟩) ⟨ya, yb⟩ ?_
          · rintro w ⟨s1, s2⟩
            go_simp
            all_goals first | done | (intro h; exfalso; omega) | omega
          go_simp
          refine wpAnyH_take (i := 12) (v := .string T) rfl (by kernel_rfl) (by kernel_rfl) (by kernel_rfl) (fun _ _ _ h => h) (Or.inl ⟨by rfl, ?_⟩) ⟨ya, yb⟩ ?_
          · rintro w ⟨s1, s2⟩
            go_simp
            all_goals first | done | (intro h; exfalso; omega) | omega
          go_simp
          refine wpAnyH_take (i := 13) (v := .string t) rfl (by kernel_rfl) (by kernel_rfl) (by kernel_rfl) (fun _ _ _ h => h) (Or.inl ⟨by rfl, ?_⟩) ⟨ya, yb⟩ ?_
          · rintro w ⟨s1, s2⟩
            go_simp
            all_goals first | done | (intro h; exfalso; omega) | omega
          go_simp
          refine wpAnyH_all (rs := [8, 14]) (by kernel_rfl) (by simp) ?_
          intro k hk
          simp only [List.mem_cons, List.not_mem_nil, or_false] at hk
          rcases hk with rfl | rfl
          · refine wpOp_step rfl (fun K hK => ?_)
            go_simp
            refine hK _ _ ⟨⟨ya, yb⟩, ?_⟩
            clear hK K
            go_simp
            refine wpAnyH_all (rs := [14]) (by kernel_rfl) (by simp) ?_
            intro k hk
            simp only [List.mem_cons, List.not_mem_nil, or_false] at hk
            subst hk
            refine wpOp_step rfl (fun K hK => ?_)
            go_simp
            refine hK _ _ ⟨⟨by rw [HW1.out] at y11a; exact y11a, by rw [HW1.out] at hca; exact hca⟩, ?_⟩
            clear hK K
            go_simp
            refine wpAnyH_all (rs := [15]) (by kernel_rfl) (by simp) ?_
            intro k hk
            simp only [List.mem_cons, List.not_mem_nil, or_false] at hk
            subst hk
            refine wpOp_step rfl (fun K hK => ?_)
            rw [if_pos (by rfl)]
            rw [show (wr.alloc (.cells #[.string t] 9)).drew = W1.drew from by rw [HW1.out]]
            refine opAppX _ _ rfl (GO + 1) (.slice lo_ P.length lc) P rfl hX1.out t wr.heap.size 1 rfl Hn0.out (by omega) (by rw [hs1.out]; omega) ?_
            intro y5 w6 hx6 hg6 hv6
            have hlow : ∀ k, (Value.slice lo_ P.length lc).ownBlock = some k → GO + 1 ≤ k := fun k hk => (World.ownsRow.lt hX1.out k hk).1
            have hO6 : w6.heap[GO]? = some (.cells #[.bool true, .slice (some ⟨gr, 0, none⟩) (q + 1) cap] 24 (0, 0)) := (hg6.block GO (by rw [hs1.out]; omega) (fun e => by have := hlow _ e.symm; omega)).trans hO1.out
            have hb6 : Below GO w1 w6 := hB1.out.grown hg6 (by rw [hs1.out]; omega) (fun k hk => by have := hlow k hk; omega)
            have ya6 : w6.cell? ⟨GO, 1, none⟩ = some (.slice (some ⟨gr, 0, none⟩) (q + 1) cap) := (World.cell?_of_block (hg6.block GO (by rw [hs1.out]; omega) (fun e => by have := hlow _ e.symm; omega))).trans y11a
            have yb6 : w6.cell? ⟨g, i, none⟩ = some (.string T) := (World.cell?_of_block (a := ⟨g, i, none⟩) (hg6.block g (by rw [hs1.out]; omega) (fun e => by have := hlow _ e.symm; omega))).trans hca
            have hg6b : W1.drew.grownBy w6 E[q].2.ownBlock := by rw [HLV.out]; exact hg6
            have hrow6 := World.ownsRow.kept hRp1.out.row hg6b (hRp1.out.rowfar q hq1)
            have hc6 := World.ownsRow.cellAt hrow6 (q * 2 + 1) (by have := Hq.out; omega)
            rw [(rpCells_at E q hq1).2, HLV.out] at hc6
            have hz6 := World.ownsRow.frozenAt hrow6 (q * 2 + 1)
            have hfin := mkHid (hRp1.out.lines q hq1 y5 (P ++ [t]) hx6 hg6b (by
              rcases hv6 with e | e
              · exact .inl (by rw [HLV.out]; exact e)
              · exact .inr ⟨_, Nat.le_refl _, e⟩))
            obtain ⟨o5, k5, hv5⟩ := hx6.shape
            rw [show (P ++ [t]).length = P.length + 1 from by simp] at hv5
            subst hv5
            rw [HEQ.out, Hq.out] at hfin
            refine hK _ _ ⟨⟨ya6, yb6⟩, ?_⟩
            clear hK K hrow6 hg6 hg6b hv6 hlow hx6
            go_simp
            refine wpAnyH_take (i := 16) (v := .pointer (some ⟨gr, q * 2, none⟩)) rfl (by kernel_rfl) (by kernel_rfl) (by kernel_rfl) (fun _ _ _ h => h) (Or.inl ⟨by rfl, ?_⟩) ⟨ya6, yb6⟩ ?_
            · rintro w ⟨s1, s2⟩
              go_simp
              all_goals first | done | (intro h; exfalso; omega) | omega
            go_simp
            refine wpAnyH_take (i := 17) (v := .pointer (some ⟨gr, q * 2 + 1, none⟩)) rfl (by kernel_rfl) (by kernel_rfl) (by kernel_rfl) (fun _ _ _ h => h) (Or.inl ⟨by rfl, ?_⟩) ⟨ya6, yb6⟩ ?_
            · rintro w ⟨s1, s2⟩
              go_simp
              all_goals first | done | (intro h; exfalso; omega) | omega
            go_simp
            refine wpAnyH_all (rs := [18]) (by kernel_rfl) (by simp) ?_
            intro k hk
            simp only [List.mem_cons, List.not_mem_nil, or_false] at hk
            subst hk
            refine wpOp_step rfl (fun K hK => ?_)
            go_simp
            refine hK _ _ ⟨⟨?_, ?_⟩, ?_⟩
            · exact (World.cell?_of_block (a := ⟨GO, 1, none⟩) ((grG_set w6 gr (q * 2 + 1) _).block GO (heap_lt hO6) (by intro e; cases e; omega))).trans ya6
            · exact (World.cell?_of_block (a := ⟨g, i, none⟩) ((grG_set w6 gr (q * 2 + 1) _).block g (by have := heap_lt hO6; omega) (by intro e; cases e; omega))).trans yb6
            clear hK K
            go_simp
            refine wpAnyH_done (by kernel_rfl) ?_ _
            have hO7 : Hid ((w6.setCell ⟨gr, q * 2 + 1, none⟩ (.slice o5 (P.length + 1) k5)).heap[GO]? = some (.cells #[.bool true, .slice (some ⟨gr, 0, none⟩) (q + 1) cap] 24 (0, 0))) := show _ = _ from ((grG_set w6 gr (q * 2 + 1) _).block GO (heap_lt hO6) (by intro e; cases e; omega)).trans hO6
            have hb7 := mkHid (hb6.setCell (p := ⟨gr, q * 2 + 1, none⟩) (show GO ≤ gr by omega) (.slice o5 (P.length + 1) k5))
            have hc7 := (hb7.out.cell (p := ⟨g, i, none⟩) (by show g < GO; omega)).trans (hcL.out)
            have hEn7 := mkHid (hEn.out (.slice o5 (P.length + 1) k5))
            have hEl7 : Hid ((E.set q ((⟨c, P ++ [t]⟩ : GReply), Value.slice o5 (P.length + 1) k5)).length = q + 1) := show _ = _ from by rw [List.length_set]; exact Hq.out
            clear hO6 hb6 ya6 yb6 hc6 hz6 y10 y11 hc ya yb y11a hca d0 d1 d1a
            generalize (E.set q ((⟨c, P ++ [t]⟩ : GReply), Value.slice o5 (P.length + 1) k5)) = E7 at *
            go_wp2
            go_roundw
            case rel => exact ⟨i + 1, R', c', P', E7, some ⟨gr, 0, none⟩, cap, q + 1, mo, by omega, by go_num, rfl, E2, E1, hEn7, by omega, e4', hEl7, hfin, hO7, hb7⟩
            case measure => simp [Lib.intOf]; omega
          · refine wpOp_step rfl (fun K hK => ?_)
            go_simp
            refine hK _ _ ⟨⟨by rw [HW1.out] at y11a; exact y11a, by rw [HW1.out] at hca; exact hca⟩, ?_⟩
            clear hK K
            go_simp
            refine wpAnyH_all (rs := [8]) (by kernel_rfl) (by simp) ?_
            intro k hk
            simp only [List.mem_cons, List.not_mem_nil, or_false] at hk
            subst hk
            refine wpOp_step rfl (fun K hK => ?_)
            rw [HW1.out] at d1a
            go_simp
            refine hK _ _ ⟨⟨by rw [HW1.out] at y11a; exact y11a, by rw [HW1.out] at hca; exact hca⟩, ?_⟩
            clear hK K
            rw [← HW1.out] at d1a
            go_simp
            refine wpAnyH_all (rs := [15]) (by kernel_rfl) (by simp) ?_
            intro k hk
            simp only [List.mem_cons, List.not_mem_nil, or_false] at hk
            subst hk
            refine wpOp_step rfl (fun K hK => ?_)
            rw [if_pos (by rfl)]
            rw [show (wr.alloc (.cells #[.string t] 9)).drew = W1.drew from by rw [HW1.out]]
            refine opAppX _ _ rfl (GO + 1) (.slice lo_ P.length lc) P rfl hX1.out t wr.heap.size 1 rfl Hn0.out (by omega) (by rw [hs1.out]; omega) ?_
            intro y5 w6 hx6 hg6 hv6
            have hlow : ∀ k, (Value.slice lo_ P.length lc).ownBlock = some k → GO + 1 ≤ k := fun k hk => (World.ownsRow.lt hX1.out k hk).1
            have hO6 : w6.heap[GO]? = some (.cells #[.bool true, .slice (some ⟨gr, 0, none⟩) (q + 1) cap] 24 (0, 0)) := (hg6.block GO (by rw [hs1.out]; omega) (fun e => by have := hlow _ e.symm; omega)).trans hO1.out
            have hb6 : Below GO w1 w6 := hB1.out.grown hg6 (by rw [hs1.out]; omega) (fun k hk => by have := hlow k hk; omega)
            have ya6 : w6.cell? ⟨GO, 1, none⟩ = some (.slice (some ⟨gr, 0, none⟩) (q + 1) cap) := (World.cell?_of_block (hg6.block GO (by rw [hs1.out]; omega) (fun e => by have := hlow _ e.symm; omega))).trans y11a
            have yb6 : w6.cell? ⟨g, i, none⟩ = some (.string T) := (World.cell?_of_block (a := ⟨g, i, none⟩) (hg6.block g (by rw [hs1.out]; omega) (fun e => by have := hlow _ e.symm; omega))).trans hca
            have hg6b : W1.drew.grownBy w6 E[q].2.ownBlock := by rw [HLV.out]; exact hg6
            have hrow6 := World.ownsRow.kept hRp1.out.row hg6b (hRp1.out.rowfar q hq1)
            have hc6 := World.ownsRow.cellAt hrow6 (q * 2 + 1) (by have := Hq.out; omega)
            rw [(rpCells_at E q hq1).2, HLV.out] at hc6
            have hz6 := World.ownsRow.frozenAt hrow6 (q * 2 + 1)
            have hfin := mkHid (hRp1.out.lines q hq1 y5 (P ++ [t]) hx6 hg6b (by
              rcases hv6 with e | e
              · exact .inl (by rw [HLV.out]; exact e)
              · exact .inr ⟨_, Nat.le_refl _, e⟩))
            obtain ⟨o5, k5, hv5⟩ := hx6.shape
            rw [show (P ++ [t]).length = P.length + 1 from by simp] at hv5
            subst hv5
            rw [HEQ.out, Hq.out] at hfin
            refine hK _ _ ⟨⟨ya6, yb6⟩, ?_⟩
            clear hK K hrow6 hg6 hg6b hv6 hlow hx6
            go_simp
            refine wpAnyH_take (i := 16) (v := .pointer (some ⟨gr, q * 2, none⟩)) rfl (by kernel_rfl) (by kernel_rfl) (by kernel_rfl) (fun _ _ _ h => h) (Or.inl ⟨by rfl, ?_⟩) ⟨ya6, yb6⟩ ?_
            · rintro w ⟨s1, s2⟩
              go_simp
              all_goals first | done | (intro h; exfalso; omega) | omega
            go_simp
            refine wpAnyH_take (i := 17) (v := .pointer (some ⟨gr, q * 2 + 1, none⟩)) rfl (by kernel_rfl) (by kernel_rfl) (by kernel_rfl) (fun _ _ _ h => h) (Or.inl ⟨by rfl, ?_⟩) ⟨ya6, yb6⟩ ?_
            · rintro w ⟨s1, s2⟩
              go_simp
              all_goals first | done | (intro h; exfalso; omega) | omega
            go_simp
            refine wpAnyH_all (rs := [18]) (by kernel_rfl) (by simp) ?_
            intro k hk
            simp only [List.mem_cons, List.not_mem_nil, or_false] at hk
            subst hk
            refine wpOp_step rfl (fun K hK => ?_)
            go_simp
            refine hK _ _ ⟨⟨?_, ?_⟩, ?_⟩
            · exact (World.cell?_of_block (a := ⟨GO, 1, none⟩) ((grG_set w6 gr (q * 2 + 1) _).block GO (heap_lt hO6) (by intro e; cases e; omega))).trans ya6
            · exact (World.cell?_of_block (a := ⟨g, i, none⟩) ((grG_set w6 gr (q * 2 + 1) _).block g (by have := heap_lt hO6; omega) (by intro e; cases e; omega))).trans yb6
            clear hK K
            go_simp
            refine wpAnyH_done (by kernel_rfl) ?_ _
            have hO7 : Hid ((w6.setCell ⟨gr, q * 2 + 1, none⟩ (.slice o5 (P.length + 1) k5)).heap[GO]? = some (.cells #[.bool true, .slice (some ⟨gr, 0, none⟩) (q + 1) cap] 24 (0, 0))) := show _ = _ from ((grG_set w6 gr (q * 2 + 1) _).block GO (heap_lt hO6) (by intro e; cases e; omega)).trans hO6
            have hb7 := mkHid (hb6.setCell (p := ⟨gr, q * 2 + 1, none⟩) (show GO ≤ gr by omega) (.slice o5 (P.length + 1) k5))
            have hc7 := (hb7.out.cell (p := ⟨g, i, none⟩) (by show g < GO; omega)).trans (hcL.out)
            have hEn7 := mkHid (hEn.out (.slice o5 (P.length + 1) k5))
            have hEl7 : Hid ((E.set q ((⟨c, P ++ [t]⟩ : GReply), Value.slice o5 (P.length + 1) k5)).length = q + 1) := show _ = _ from by rw [List.length_set]; exact Hq.out
            clear hO6 hb6 ya6 yb6 hc6 hz6 y10 y11 hc ya yb y11a hca d0 d1 d1a
            generalize (E.set q ((⟨c, P ++ [t]⟩ : GReply), Value.slice o5 (P.length + 1) k5)) = E7 at *
            go_wp2
            go_roundw
            case rel => exact ⟨i + 1, R', c', P', E7, some ⟨gr, 0, none⟩, cap, q + 1, mo, by omega, by go_num, rfl, E2, E1, hEn7, by omega, e4', hEl7, hfin, hO7, hb7⟩
            case measure => simp [Lib.intOf]; omega
end Go.Proofs.YtmclnkcpflehdaaDoor
