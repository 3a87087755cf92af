
/- The program's ReadReplies. (By tools/gen/implreplies.py.) -/
import Derived.Test.YtmclnkcpflehdaaDoorReplyMem2
import Derived.Test.YtmclnkcpflehdaaDoorReplyTests
import Derived.Test.YtmclnkcpflehdaaDoorLinesBoth
import Derived.RegionTactic
namespace Go.Proofs.YtmclnkcpflehdaaDoor
open Go.RowKit Go.Lib Go.Maps
set_option maxRecDepth 20000 in
theorem two_cellsI {w : World} {b : Nat} {x y : Value} {t : TypeId} {z : Nat × Nat} (h : w.heap[b]? = some (.cells #[x, y] t z)) : w.cell? ⟨b, 0, none⟩ = some x ∧ w.cell? ⟨b, 1, none⟩ = some y := by
  constructor <;> simp [World.cell?, h]
set_option maxRecDepth 20000 in
theorem two_frozenI {w : World} {b : Nat} {x y : Value} {t : TypeId} (h : w.heap[b]? = some (.cells #[x, y] t (0, 0))) (j : Nat) : w.frozen? ⟨b, j, none⟩ = false := by
  simp [World.frozen?, h]
set_option maxRecDepth 20000 in
theorem wp_appRp {w : World} {ops : Array Oper} {rest : List Oper} {o : Oper} {a : Act} {Q : Exit → Act → World → Prop} (hgd : o.guard = none) (s x : Operand)
    (ho : o.op = .call { callee := .builtin .append, args := #[s, x], argTypes := #[22, 22] })
    (B : Nat) (v : Value) (E : List RpE) (hs : a.eval s = v) (hown : w.ownsRow B 34 2 v E.length (rpCells E)) (e : RpE) (g c : Nat) (hx : a.eval x = .slice (some ⟨g, 0, none⟩) 1 c) (hn0 : w.cell? ⟨g, 0, none⟩ = some (.int .i64 e.1.code)) (hn1 : w.cell? ⟨g, 1, none⟩ = some e.2) (hone : e.2.oneCell' = true) (hlen : E.length ≤ 1000000) (hB : B ≤ w.heap.size)
    (h : ∀ v' w', w'.ownsRow B 34 2 v' (E.length + 1) (rpCells (E ++ [e])) → w.grownBy w' v.ownBlock → wpList Tryd.prog ops Q rest (a.put o.dst v') w') : wpList Tryd.prog ops Q (o :: rest) a w :=
  wpList_plain hgd fun _ hK => opAppRp s x ho B v E hs hown e g c hx hn0 hn1 hone hlen hB fun v' w' h1 h2 => hK _ _ (h v' w' h1 h2)
set_option maxRecDepth 20000 in
theorem Rp.keepFar {B : Nat} {v lv : Value} {C : List ByteArray} {E : List RpE} {w w' : World} (h : Rp B v E w) (hx : OwnX B lv C w) (hg : w.grownBy w' lv.ownBlock) (hf : ∀ (i : Nat) (hi : i < E.length), Far E[i].2 lv) : Rp B v E w' :=
  ⟨World.ownsRow.kept h.row hg (own_apartP h.row (show w.ownsRow B 9 1 _ _ _ from hx) (by decide)), fun i hi => (h.own i hi).keep hg (hf i hi), h.sep⟩
set_option maxRecDepth 20000 in
theorem far_new {B : Nat} {v lv y : Value} {E : List RpE} {w W : World} (h : Rp B v E w) (hs : w.heap.size ≤ W.heap.size) (hf : ∀ (i : Nat) (hi : i < E.length), Far E[i].2 lv) (hy : y.ownBlock = lv.ownBlock ∨ y.ownBlock = some W.heap.size) : ∀ (i : Nat) (hi : i < E.length), Far E[i].2 y := by
  intro i hi
  rcases hy with e | e
  · have := hf i hi
    unfold Far at this ⊢
    rw [e]
    exact this
  · cases ho : E[i].2.ownBlock with
    | none => exact .inl ho
    | some k =>
      right
      rw [ho, e]
      have := (World.ownsRow.lt (h.own i hi) k ho).2
      intro e2
      simp only [Option.some.injEq] at e2
      omega
set_option maxRecDepth 20000 in
theorem implTooLongR (s : ByteArray) (w : World) (_hs : s.size ≤ 1100000) : Calls Tryd.prog 12 #[.string s] w fun e w' => e = .returned (.bool (decide ((100000 : Int) < (s.size : Int)))) ∧ w = w' := by
  go_enter Tryd.func12, Tryd.ntmps12
  go_wp2
  go_ret
  exact ⟨rfl, rfl⟩
def strLenR : Value → Nat
  | .string b => b.size
  | _ => 0
set_option maxHeartbeats 40000000 in
set_option maxRecDepth 20000 in
theorem implReplies (s : ByteArray) (m : Int) (w : World) (hs : s.size ≤ 1048576) (hm : w.cell? ⟨0, 0, none⟩ = some (.int .i64 m)) :
    Calls Tryd.prog 5 #[.string s] w fun e w' => RpOut w.heap.size (Rl.ans s) w e w' := by
  have hroom := mkHid (roomR w)
  have h0 := zero_ltL hm
  obtain ⟨W, hW⟩ : ∃ W, W = w.alloc (.cells #[.bool false, .slice none 0 0] 24) := ⟨_, rfl⟩
  rw [← hW] at hroom
  have HW := mkHid hW
  obtain ⟨Z, hZ⟩ : ∃ Z, Rl.ans s = Z := ⟨_, rfl⟩
  rw [hZ]
  have HA := mkHid hZ
  clear hZ hW
  by_cases hbig : 100000 < s.size
  · have x1 : decide ((100000 : Int) < (s.size : Int)) = true := by simp; omega
    have hz : Hid (Z = none) := show _ = _ from by rw [← HA.out, Rl.ans, if_neg (by omega)]
    rw [hz.out]
    clear HA
    go_enter Tryd.func5, Tryd.ntmps5
    go_wp2
    refine bodyPost_ret (v := .agg #[.bool false, .slice none 0 0]) (by simp [results, Tryd.results5, go_sem]) rfl (outNone ?_)
    exact (Below.refl _ _).alloc (Nat.le_refl _) _
  have x1 : decide ((100000 : Int) < (s.size : Int)) = false := by simp; omega
  have HR0 : Hid (Rl.rdT s.data.toList [] 0 [] = Z) := show _ = _ from by rw [← HA.out, Rl.ans, if_pos (by omega)]
  obtain ⟨V, hV⟩ : ∃ V, V = W.alloc (.cells #[.int .i64 0, .slice none 0 0] 34) := ⟨_, rfl⟩
  have bV : Below W.heap.size W V := by rw [hV]; exact (Below.refl _ _).alloc (Nat.le_refl _) _
  have hP0 : Hid (V.heap[W.heap.size]? = some (.cells #[.int .i64 0, .slice none 0 0] 34 (0, 0))) := show _ = _ from by rw [hV]; exact heap_alloc_at _ _
  have HV := mkHid hV
  have HbV := mkHid bV
  have hWs : W.heap.size = w.heap.size + 1 := hroom.out.size
  have hmW : Hid (W.cell? ⟨0, 0, none⟩ = some (.int .i64 m)) := (hroom.out.below.cell (p := ⟨0, 0, none⟩) h0).trans hm
  have hWlt : w.heap.size < W.heap.size := by omega
  clear hWs
  have cTL := mkHid (implTooLongR s W (by omega))
  rw [x1] at cTL
  clear HA hV bV hm
  go_enter Tryd.func5, Tryd.ntmps5
  go_wp2_with (go_at_call 12; fail)
  rw [← HW.out]
  refine cTL.out.mono ?_
  rintro e wT ⟨rfl, rfl⟩
  clear cTL
  go_wp2
  generalize hGP : W.heap.size = GP at *
  go_loopw [0, 3] (fun tv rv wr => ∃ (r : List UInt8) (R : List GReply) (c : Int) (P : List ByteArray) (E : List RpE) (lo_ : Option Addr) (lc : Nat), tv = .string ⟨r.toArray⟩ ∧ r.length + E.length + P.length ≤ s.size ∧ Hid (Rl.rdT r R c P = Z) ∧ Hid (E.map (·.1) = R) ∧ Hid (Rp (GP + 1) rv E wr) ∧ Hid (OwnX (GP + 1) (.slice lo_ P.length lc) P wr) ∧ Hid (∀ (i : Nat) (hi : i < E.length), Far E[i].2 (.slice lo_ P.length lc)) ∧ Hid (wr.heap[GP]? = some (.cells #[.int .i64 c, .slice lo_ P.length lc] 34 (0, 0))) ∧ Hid (Below GP W wr)) (fun tv _ _ => strLenR tv)
  case atStart =>
    refine ⟨s.data.toList, [], 0, [], [], none, 0, rfl, by simp, HR0, rfl, Rp.nil _ _, OwnX.nil _ _, fun i hi => absurd hi (Nat.not_lt_zero _), ?_, ?_⟩
    · first | exact hP0 | (rw [← HV.out]; exact hP0)
    · first | exact HbV | (rw [← HV.out]; exact HbV)
  case round =>
    clear HR0 hP0 HV HbV
    obtain ⟨r, R, c, P, E, lo_, lc, rfl, hsz, hz0, hE0, hRp, hOw, hFar, hGb, hB⟩ := hrel
    have hGs : GP < wr.heap.size := heap_lt hGb.out
    have hBw := hB.out.size
    obtain ⟨q0', q1', g0', g1'⟩ := hroom.out.on (Below.refl _ _)
    have q0 := (hB.out.cell (p := ⟨w.heap.size, 0, none⟩) (by show w.heap.size < GP; omega)).trans q0'
    have q1 := (hB.out.cell (p := ⟨w.heap.size, 1, none⟩) (by show w.heap.size < GP; omega)).trans q1'
    have g0 := (hB.out.frozen (p := ⟨w.heap.size, 0, none⟩) (by show w.heap.size < GP; omega)).trans g0'
    have g1 := (hB.out.frozen (p := ⟨w.heap.size, 1, none⟩) (by show w.heap.size < GP; omega)).trans g1'
    have hbF := mkHid (hroom.out.below.trans (hB.out.mono (by omega)))
    have hmr : wr.cell? ⟨0, 0, none⟩ = some (.int .i64 m) := (hB.out.cell (p := ⟨0, 0, none⟩) (by show 0 < GP; omega)).trans hmW.out
    clear q0' q1' g0' g1'
    obtain ⟨y0, y1⟩ := two_cellsI hGb.out
    have f0 := two_frozenI hGb.out 0
    have f1 := two_frozenI hGb.out 1
    have hbL : (⟨r.toArray⟩ : ByteArray).toList = r := by rw [ByteArray.toList_eq]
    by_cases hr : r = []
    · subst hr
      have hz1 := hz0.out
      rw [Rl.rdT_nil] at hz1
      by_cases hP : P = []
      · subst hP
        rw [if_pos rfl] at hz1
        have HZ := mkHid hz1
        obtain ⟨o, cap, hv⟩ := hRp.out.shape
        clear hz0 hz1 hbL
        go_wp2
        refine bodyPost_ret (v := .agg #[.bool true, u3]) (by simp [results, Tryd.results5, go_sem, q0, q1, hv]) rfl ?_
        rw [← HZ.out]
        exact outSome R (((hRp.out.set (R0 := w.heap.size) (by omega)).set (R0 := w.heap.size) (by omega)).lower (by omega)) hE0.out ((hbF.out.setCell (p := ⟨w.heap.size, 0, none⟩) (Nat.le_refl _) _).setCell (p := ⟨w.heap.size, 1, none⟩) (Nat.le_refl _) _)
      · rw [if_neg hP] at hz1
        have hpl : 0 < P.length := List.length_pos_iff.2 hP
        have x9 : decide ((0 : Int) < (P.length : Int)) = true := decide_eq_true (by omega)
        have hz : Hid (Z = none) := hz1.symm
        clear hz0 hz1 hbL
        go_wp2
        refine bodyPost_ret (v := .agg #[.bool false, .slice none 0 0]) (by simp [results, Tryd.results5, go_sem, q0, q1]) rfl ?_
        rw [hz.out]
        exact outNone ((hbF.out.setCell (p := ⟨w.heap.size, 0, none⟩) (Nat.le_refl _) _).setCell (p := ⟨w.heap.size, 1, none⟩) (Nat.le_refl _) _)
    have hre : r.isEmpty = false := by simpa using hr
    obtain ⟨xl, yl, cc, hcut⟩ : ∃ x y c, cut r Pl.crs = (x, y, c) := ⟨_, _, _, rfl⟩
    have hrl : r.length ≤ 100000 := by omega
    cases cc with
    | false =>
      have hz : Hid (Z = none) := show _ = _ from by rw [← hz0.out]; exact Rl.rdT_no r xl yl R c P hr hcut
      have cC := mkHid (libCut r xl yl false hcut m wr hrl hmr)
      clear hz0 hcut
      go_wp2_with (go_at_call 13; fail)
      refine cC.out.mono ?_
      rintro e w1 ⟨rfl, hb1⟩
      have hbF1 := mkHid (hbF.out.trans (hb1.mono hbF.out.size))
      have q0a := (hb1.cell (p := ⟨w.heap.size, 0, none⟩) (by show w.heap.size < wr.heap.size; omega)).trans q0
      have q1a := (hb1.cell (p := ⟨w.heap.size, 1, none⟩) (by show w.heap.size < wr.heap.size; omega)).trans q1
      have g0a := (hb1.frozen (p := ⟨w.heap.size, 0, none⟩) (by show w.heap.size < wr.heap.size; omega)).trans g0
      have g1a := (hb1.frozen (p := ⟨w.heap.size, 1, none⟩) (by show w.heap.size < wr.heap.size; omega)).trans g1
      clear cC hb1
      go_wp2
      refine bodyPost_ret (v := .agg #[.bool false, .slice none 0 0]) (by simp [results, Tryd.results5, go_sem, q0a, q1a]) rfl ?_
      rw [hz.out]
      exact outNone ((hbF1.out.setCell (p := ⟨w.heap.size, 0, none⟩) (Nat.le_refl _) _).setCell (p := ⟨w.heap.size, 1, none⟩) (Nat.le_refl _) _)
    | true =>
      have hst := Rl.rdT_step r xl yl R c P hr hcut
      rw [hz0.out] at hst
      have hfound := Pl.cut_found r (by rw [hcut])
      rw [hcut] at hfound
      simp only at hfound
      have cC := mkHid (libCut r xl yl true hcut m wr hrl hmr)
      obtain ⟨T, hT⟩ : ∃ T : ByteArray, (⟨xl.toArray⟩ : ByteArray) = T := ⟨_, rfl⟩
      have hTl : T.data.toList = xl := by rw [← hT]
      have hTs : T.size = xl.length := by rw [← hTl]; simp
      rw [hT] at cC
      rw [← hTl] at hst
      have hTs2 : T.size ≤ 100000 := by omega
      have hTs3 : T.size + yl.length + 2 ≤ r.length := by omega
      have HST := mkHid hst
      clear hz0 hcut hst hT hTl hTs hfound
      have cL := mkHid (fun w' => implReplyLine T w' (by omega))
      have hll : T.data.toList.length = T.size := by simp
      cases hok : Rl.ok T.data.toList
      · rw [hok] at cL
        have hz : Hid (Z = none) := show _ = _ from by rw [HST.out, hok]; rfl
        clear HST hok hll
        go_wp2_with (go_at_call 13; fail)
        refine cC.out.mono ?_
        rintro e w1 ⟨rfl, hb1⟩
        have hbF1 := mkHid (hbF.out.trans (hb1.mono hbF.out.size))
        have q0a := (hb1.cell (p := ⟨w.heap.size, 0, none⟩) (by show w.heap.size < wr.heap.size; omega)).trans q0
        have q1a := (hb1.cell (p := ⟨w.heap.size, 1, none⟩) (by show w.heap.size < wr.heap.size; omega)).trans q1
        have g0a := (hb1.frozen (p := ⟨w.heap.size, 0, none⟩) (by show w.heap.size < wr.heap.size; omega)).trans g0
        have g1a := (hb1.frozen (p := ⟨w.heap.size, 1, none⟩) (by show w.heap.size < wr.heap.size; omega)).trans g1
        clear cC hb1
        go_wp2_with (go_at_call 14; fail)
        refine (cL.out _).mono ?_
        rintro e wL ⟨rfl, rfl⟩
        go_wp2
        refine bodyPost_ret (v := .agg #[.bool false, .slice none 0 0]) (by simp [results, Tryd.results5, go_sem, q0a, q1a]) rfl ?_
        rw [hz.out]
        exact outNone ((hbF1.out.setCell (p := ⟨w.heap.size, 0, none⟩) (Nat.le_refl _) _).setCell (p := ⟨w.heap.size, 1, none⟩) (Nat.le_refl _) _)
      rw [hok] at cL
      have h4 : 4 ≤ T.size ∧ (Rl.at_ T.data.toList 3 == 32 || Rl.at_ T.data.toList 3 == 45) = true := by
        have h := hok
        unfold Rl.ok at h
        simp only [Bool.and_eq_true, decide_eq_true_eq] at h
        rw [hll] at h
        exact ⟨h.1, h.2.2.2⟩
      obtain ⟨h4, hsep⟩ := h4
      have g3 : 3 < T.size := Nat.lt_of_lt_of_le (by decide) h4
      have hat := Rl.at_get T 3 g3
      have h8 : (T[3]'g3).toNat < 256 := UInt8.toNat_lt _
      obtain ⟨mo, hmo⟩ : ∃ mo, Rl.more T.data.toList = mo := ⟨_, rfl⟩
      have hm32 : (((T[3]'g3).toNat : Int) == 32) = !mo := by
        rw [← hmo]
        unfold Rl.more
        rw [hat] at hsep ⊢
        rw [Bool.or_eq_true, beq_iff_eq, beq_iff_eq] at hsep
        rcases hsep with e | e <;> rw [e] <;> rfl
      obtain ⟨hok1, hok2⟩ := Rl.ok_num T.data.toList (by rw [hll]; exact h4) hsep
      have hnum : Cu.isNum (T.data.toList.take 3) = true := by
        unfold Cu.isNum
        have hd := hok
        unfold Rl.ok at hd
        simp only [Bool.and_eq_true, decide_eq_true_eq] at hd
        rw [Rl.take3 _ (by rw [hll]; exact h4)]
        simp only [List.length_cons, List.length_nil, List.all_cons, List.all_nil]
        rw [show Cu.digit (Rl.at_ T.data.toList 0) = true from hd.2.1.1, show Cu.digit (Rl.at_ T.data.toList 1) = true from hd.2.1.2.1, show Cu.digit (Rl.at_ T.data.toList 2) = true from hd.2.1.2.2]
        rfl
      have hval : ((Cu.val 0 (T.data.toList.take 3) : Nat) : Int) = Rl.code T.data.toList := by
        rw [← hok2 hok]
        unfold Cu.numI Cu.isNum at *
        simp only [Bool.and_eq_true] at hnum
        rw [if_pos hnum.2.2]
      have hx3 : (T.extract 0 3).size = 3 := by rw [ByteArray.size_extract]; omega
      have hx3d : (T.extract 0 3).data.toList = T.data.toList.take 3 := by rw [Pl.ext_data, List.drop_zero]
      have cN := mkHid (fun w' => implNumberOf (T.extract 0 3) w' (by rw [hx3d]; exact hnum) (by omega))
      rw [hx3d, hval] at cN
      have hcin := Rl.code_in _ hok
      have hx4 : (T.extract 4 T.size) = Rl.text T.data.toList := by
        rw [Pl.ext_mk, List.take_of_length_le (by simp)]; rfl
      have hst := HST.out
      rw [hok, if_pos rfl] at hst
      obtain ⟨N, hN⟩ : ∃ N, Rl.code T.data.toList = N := ⟨_, rfl⟩
      obtain ⟨t, ht⟩ : ∃ t, T.extract 4 T.size = t := ⟨_, rfl⟩
      rw [← hx4, ht, hN, hmo] at hst
      rw [hN] at cN hcin
      have htz : t.size ≤ 100000 := by rw [← ht, ByteArray.size_extract]; omega
      have HST2 := mkHid hst
      clear HST hok hok1 hok2 hnum hval hx3 hx3d hx4 hst hN hmo hat hsep hll
      by_cases hbadc : P ≠ [] ∧ c ≠ N
      · have hz : Hid (Z = none) := show _ = _ from by rw [HST2.out, if_pos hbadc]
        have hpl : 0 < P.length := List.length_pos_iff.2 hbadc.1
        have x9 : decide ((0 : Int) < (P.length : Int)) = true := decide_eq_true (by omega)
        have u5 : (N != c) = true := by rw [bne_iff_ne]; exact fun e => hbadc.2 e.symm
        clear HST2
        go_wp2_with (go_at_call 13; fail)
        refine cC.out.mono ?_
        rintro e w1 ⟨rfl, hb1⟩
        go_wp2_with (go_at_call 14; fail)
        refine (cL.out _).mono ?_
        rintro e wL ⟨rfl, rfl⟩
        go_wp2_with (go_at_call 15; fail)
        refine (cN.out _).mono ?_
        rintro e w2 ⟨rfl, hb2⟩
        have hb12 := hb1.trans (hb2.mono hb1.size)
        have hs12 := hb12.size
        have hbF1 := mkHid (hbF.out.trans (hb12.mono hbF.out.size))
        have q0a := (hb12.cell (p := ⟨w.heap.size, 0, none⟩) (by show w.heap.size < wr.heap.size; omega)).trans q0
        have q1a := (hb12.cell (p := ⟨w.heap.size, 1, none⟩) (by show w.heap.size < wr.heap.size; omega)).trans q1
        have g0a := (hb12.frozen (p := ⟨w.heap.size, 0, none⟩) (by show w.heap.size < wr.heap.size; omega)).trans g0
        have g1a := (hb12.frozen (p := ⟨w.heap.size, 1, none⟩) (by show w.heap.size < wr.heap.size; omega)).trans g1
        have hGb2 := mkHid ((hb12.block GP hGs).trans hGb.out)
        have hRp2 := mkHid (hRp.out.below hb12)
        have hOw2 := mkHid (hOw.out.below hb12)
        have hB2 := mkHid (hB.out.trans (hb12.mono (Nat.le_of_lt hGs)))
        obtain ⟨y0a, y1a⟩ := two_cellsI hGb2.out
        have f0a := two_frozenI hGb2.out 0
        have f1a := two_frozenI hGb2.out 1
        have hGs2 : GP < w2.heap.size := by omega
        clear cC cL cN hb1 hb2 hb12 hGb hOw hB q0 q1 g0 g1 y0 y1 f0 f1 hmr hBw
        go_wp2
        refine bodyPost_ret (v := .agg #[.bool false, .slice none 0 0]) (by simp [results, Tryd.results5, go_sem, q0a, q1a]) rfl ?_
        rw [hz.out]
        exact outNone ((hbF1.out.setCell (p := ⟨w.heap.size, 0, none⟩) (Nat.le_refl _) _).setCell (p := ⟨w.heap.size, 1, none⟩) (Nat.le_refl _) _)
      have hst := HST2.out
      rw [if_neg hbadc] at hst
      have HST3 := mkHid hst
      clear HST2 hst
      have cK := mkHid (fun w' => libCloneL t w' htz)
      by_cases hP : P = []
      · have x9 : decide ((0 : Int) < (P.length : Int)) = false := by rw [hP]; rfl
        clear hbadc
        have x9p : ¬ 0 < P.length := by rw [hP]; simp
        clear hP
        go_wp2_with (go_at_call 13; fail)
        refine cC.out.mono ?_
        rintro e w1 ⟨rfl, hb1⟩
        go_wp2_with (go_at_call 14; fail)
        refine (cL.out _).mono ?_
        rintro e wL ⟨rfl, rfl⟩
        go_wp2_with (go_at_call 15; fail)
        refine (cN.out _).mono ?_
        rintro e w2 ⟨rfl, hb2⟩
        have hb12 := hb1.trans (hb2.mono hb1.size)
        have hs12 := hb12.size
        have hbF1 := mkHid (hbF.out.trans (hb12.mono hbF.out.size))
        have q0a := (hb12.cell (p := ⟨w.heap.size, 0, none⟩) (by show w.heap.size < wr.heap.size; omega)).trans q0
        have q1a := (hb12.cell (p := ⟨w.heap.size, 1, none⟩) (by show w.heap.size < wr.heap.size; omega)).trans q1
        have g0a := (hb12.frozen (p := ⟨w.heap.size, 0, none⟩) (by show w.heap.size < wr.heap.size; omega)).trans g0
        have g1a := (hb12.frozen (p := ⟨w.heap.size, 1, none⟩) (by show w.heap.size < wr.heap.size; omega)).trans g1
        have hGb2 := mkHid ((hb12.block GP hGs).trans hGb.out)
        have hRp2 := mkHid (hRp.out.below hb12)
        have hOw2 := mkHid (hOw.out.below hb12)
        have hB2 := mkHid (hB.out.trans (hb12.mono (Nat.le_of_lt hGs)))
        obtain ⟨y0a, y1a⟩ := two_cellsI hGb2.out
        have f0a := two_frozenI hGb2.out 0
        have f1a := two_frozenI hGb2.out 1
        have hGs2 : GP < w2.heap.size := by omega
        clear cC cL cN hb1 hb2 hb12 hGb hOw hB q0 q1 g0 g1 y0 y1 f0 f1 hmr hBw
        obtain ⟨w3, hw3⟩ : ∃ w3, w3 = w2.setCell ⟨GP, 0, none⟩ (.int .i64 N) := ⟨_, rfl⟩
        have gr3 : w2.grownBy w3 (some GP) := by rw [hw3]; exact grG_set w2 GP 0 _
        have hGb3 : w3.heap[GP]? = some (.cells #[.int .i64 N, .slice lo_ P.length lc] 34 (0, 0)) := by rw [hw3]; simp [World.setCell, Array.getElem?_modify, hGb2.out]
        have hRp3 : Rp (GP + 1) u3 E w3 := by rw [hw3]; exact hRp2.out.set (by omega)
        have hOw3 : OwnX (GP + 1) (.slice lo_ P.length lc) P w3 := hOw2.out.keep gr3 (by
          cases ho : (Value.slice lo_ P.length lc).ownBlock with
          | none => exact .inl rfl
          | some k => exact .inr (by have := (World.ownsRow.lt hOw2.out k ho).1; intro e; cases e; omega))
        have hB3 : Below GP W w3 := by rw [hw3]; exact hB2.out.setCell (p := ⟨GP, 0, none⟩) (Nat.le_refl _) _
        have hs3 : w3.heap.size = w2.heap.size := by rw [hw3]; simp [World.setCell]
        obtain ⟨y0b, y1b⟩ := two_cellsI hGb3
        have HGb3 := mkHid hGb3
        have HRp3 := mkHid hRp3
        have HOw3 := mkHid hOw3
        have HB3 := mkHid hB3
        have Hs3 := mkHid hs3
        have Hw3 := mkHid hw3
        have hGs3 : GP < w3.heap.size := by omega
        clear gr3 hGb3 hRp3 hOw3 hB3 hs3 hw3 hGb2 hRp2 hOw2 hB2 hRp
        go_wp2
        rw [← Hw3.out]
        refine wp_region_any (by kernel_rfl) ?_
        refine wpAny_take (i := 0) (v := .pointer (some ⟨GP, 1, none⟩)) rfl (by kernel_rfl) (by kernel_rfl) (by kernel_rfl) (fun _ _ _ h => h) (Or.inl ⟨by rfl, ?_⟩) ?_
        · intro w
          go_simp
          all_goals first | done | (intro h; exfalso; omega) | omega
        go_simp
        refine wpAny_take (i := 2) (v := .string T) rfl (by kernel_rfl) (by kernel_rfl) (by kernel_rfl) (fun _ _ _ h => h) (Or.inl ⟨by rfl, ?_⟩) ?_
        · intro w
          go_simp
          all_goals first | done | (intro h; exfalso; omega) | omega
        go_simp
        refine wpAny_take (i := 3) (v := .string t) rfl (by kernel_rfl) (by kernel_rfl) (by kernel_rfl) (fun _ _ _ h => h) (Or.inl ⟨by rfl, ?_⟩) ?_
        · intro w
          go_simp
          all_goals first | done | (intro h; exfalso; omega) | omega
        go_simp
        refine wpAny_ready (rs := [1, 4]) (by kernel_rfl) (by simp) ?_
        refine AllReady.cons rfl (fun K hK => ?_) (AllReady.cons rfl (fun K hK => ?_) AllReady.nil)
        · go_simp
          refine hK _ _ ?_
          clear hK K
          go_simp
          refine wpAny_ready (rs := [4]) (by kernel_rfl) (by simp) ?_
          refine AllReady.cons rfl (fun K hK => ?_) AllReady.nil
          go_simp
          refine (cK.out _).mono ?_
          rintro e w4 ⟨rfl, hb4⟩
          have hb4' : Below w3.heap.size w3 w4 := ((Below.refl w3.heap.size w3).drew).trans hb4
          obtain ⟨W5, hW5⟩ : ∃ W5, W5 = w4.alloc (.cells #[.string t] 9) := ⟨_, rfl⟩
          have b5 : Below w4.heap.size w4 W5 := by rw [hW5]; exact (Below.refl _ _).alloc (Nat.le_refl _) _
          have hs4 := hb4'.size
          have b35 : Below w3.heap.size w3 W5 := hb4'.trans (b5.mono hs4)
          have hn0 : W5.cell? ⟨w4.heap.size, 0, none⟩ = some (.string t) := by
            have := heap_alloc_at w4 (.cells #[.string t] 9)
            rw [← hW5] at this
            simp [World.cell?, this]
          have hs5 : W5.heap.size = w4.heap.size + 1 := by rw [hW5]; simp
          have y1c := (hb4'.cell (p := ⟨GP, 1, none⟩) hGs3).trans y1b
          have y1d := (b35.cell (p := ⟨GP, 1, none⟩) hGs3).trans y1b
          have y1h := y1d
          rw [hW5] at y1h
          have hGb5 := mkHid ((b35.block GP hGs3).trans HGb3.out)
          have hRp5 := mkHid (HRp3.out.below b35)
          have hOw5 := mkHid (HOw3.out.below b35)
          have hB5 := mkHid (HB3.out.trans (b35.mono (by omega)))
          have Hn0 := mkHid hn0
          have HW5 := mkHid hW5
          have Hs5 := mkHid hs5
          have Hs4 : Hid (w3.heap.size ≤ w4.heap.size) := hs4
          clear hb4 hb4' b5 b35 hn0 hW5 hs5 hs4
          go_simp
          refine hK _ _ ?_
          clear hK K
          go_simp
          refine wpAny_ready (rs := [5]) (by kernel_rfl) (by simp) ?_
          refine AllReady.cons rfl (fun K hK => ?_) AllReady.nil
          go_simp
          refine hK _ _ ?_
          clear hK K
          go_simp
          refine wpAny_ready (rs := [6]) (by kernel_rfl) (by simp) ?_
          refine AllReady.cons rfl (fun K hK => ?_) AllReady.nil
          first | rw [← HW5.out] | skip
          refine opAppX _ _ rfl (GP + 1) (.slice lo_ P.length lc) P rfl hOw5.out t w4.heap.size 1 rfl Hn0.out (by omega) (by rw [Hs5.out]; have := Hs4.out; omega) ?_
          intro y5 w6 hx6 hg6 hv6
          have hlow : ∀ k, (Value.slice lo_ P.length lc).ownBlock = some k → GP + 1 ≤ k := fun k hk => (World.ownsRow.lt hOw5.out k hk).1
          have hGb6 : w6.heap[GP]? = some (.cells #[.int .i64 N, .slice lo_ P.length lc] 34 (0, 0)) := (hg6.block GP (by rw [Hs5.out]; have := Hs4.out; omega) (fun e => by have := hlow _ e.symm; omega)).trans hGb5.out
          have hB6 : Below GP W w6 := hB5.out.grown hg6 (by rw [Hs5.out]; have := Hs4.out; omega) (fun k hk => by have := hlow k hk; omega)
          have hRp6 := hRp5.out.keepFar hOw5.out hg6 hFar.out
          have hFar6 := far_new hRp5.out (Nat.le_refl _) hFar.out hv6
          obtain ⟨o5, k5, hv5⟩ := hx6.shape
          rw [show (P ++ [t]).length = P.length + 1 from by simp] at hv5
          subst hv5
          obtain ⟨y0e, y1e⟩ := two_cellsI hGb6
          have f0e := two_frozenI hGb6 0
          have f1e := two_frozenI hGb6 1
          have hsz6 : W5.heap.size ≤ w6.heap.size := hg6.size
          refine hK _ _ ?_
          clear hK K
          go_simp
          refine wpAny_take (i := 7) (v := .pointer (some ⟨GP, 1, none⟩)) rfl (by kernel_rfl) (by kernel_rfl) (by kernel_rfl) (fun _ _ _ h => h) (Or.inl ⟨by rfl, ?_⟩) ?_
          · intro w
            go_simp
            all_goals first | done | (intro h; exfalso; omega) | omega
          go_simp
          refine wpAny_ready (rs := [8]) (by kernel_rfl) (by simp) ?_
          refine AllReady.cons rfl (fun K hK => ?_) AllReady.nil
          go_simp
          refine hK _ _ ?_
          clear hK K
          go_simp
          refine wpAny_done (by kernel_rfl) ?_ _
          obtain ⟨w7, hw7⟩ : ∃ w7, w7 = w6.setCell ⟨GP, 1, none⟩ (.slice o5 (P.length + 1) k5) := ⟨_, rfl⟩
          have gr7 : w6.grownBy w7 (some GP) := by rw [hw7]; exact grG_set w6 GP 1 _
          have hGb7 : w7.heap[GP]? = some (.cells #[.int .i64 N, .slice o5 (P.length + 1) k5] 34 (0, 0)) := by rw [hw7]; simp [World.setCell, Array.getElem?_modify, hGb6]
          have hRp7 : Rp (GP + 1) u3 E w7 := by rw [hw7]; exact hRp6.set (by omega)
          have hOw7 : OwnX (GP + 1) (.slice o5 (P.length + 1) k5) (P ++ [t]) w7 := hx6.keep gr7 (by
            cases ho : (Value.slice o5 (P.length + 1) k5).ownBlock with
            | none => exact .inl rfl
            | some k => exact .inr (by have := (World.ownsRow.lt hx6 k ho).1; intro e; cases e; omega))
          have hB7 : Below GP W w7 := by rw [hw7]; exact hB6.setCell (p := ⟨GP, 1, none⟩) (Nat.le_refl _) _
          have hs7 : w7.heap.size = w6.heap.size := by rw [hw7]; simp [World.setCell]
          have hGs7 : GP < w7.heap.size := heap_lt hGb7
          have HGb7 := mkHid hGb7
          have HRp7 := mkHid hRp7
          have HOw7 := mkHid hOw7
          have HB7 := mkHid hB7
          have HFar7 : Hid (∀ (i : Nat) (hi : i < E.length), Far E[i].2 (.slice o5 (P.length + 1) k5)) := hFar6
          have Hw7 := mkHid hw7
          obtain ⟨y0f, y1f⟩ := two_cellsI hGb7
          have f0f := two_frozenI hGb7 0
          have f1f := two_frozenI hGb7 1
          clear gr7 hGb7 hRp7 hOw7 hB7 hw7 hRp6 hFar6 hx6 hg6 hv6 hlow hGb6 hB6 y0e y1e f0e f1e hsz6 hs7 hGb5 hRp5 hOw5 hB5 Hn0 HW5 Hs5 Hs4 y1c y1d y1h y0b y1b HGb3 HRp3 HOw3 HB3 Hs3 Hw3 hFar
          rw [← Hw7.out]
          clear Hw7
          cases mo
          · have x32 : (((T[3]'g3).toNat : Int) == 32) = true := hm32
            have hst := HST3.out
            rw [if_neg (by simp)] at hst
            obtain ⟨W8, hW8⟩ : ∃ W8, W8 = w7.alloc (.cells #[.int .i64 N, .slice o5 (P.length + 1) k5] 34) := ⟨_, rfl⟩
            have b8 : Below w7.heap.size w7 W8 := by rw [hW8]; exact (Below.refl _ _).alloc (Nat.le_refl _) _
            have hblk : W8.heap[w7.heap.size]? = some (.cells #[.int .i64 N, .slice o5 (P.length + 1) k5] 34 (0, 0)) := by rw [hW8]; exact heap_alloc_at _ _
            obtain ⟨n0, n1⟩ := two_cellsI hblk
            have hRp8 := mkHid (HRp7.out.below b8)
            have hOw8 := mkHid (HOw7.out.below b8)
            have hGb8 := mkHid ((b8.block GP hGs7).trans HGb7.out)
            have hB8 := mkHid (HB7.out.trans (b8.mono (by omega)))
            have hs8 : Hid (W8.heap.size = w7.heap.size + 1) := show _ = _ from by rw [hW8]; simp
            have HW8 := mkHid hW8
            have N0 := mkHid n0
            have N1 := mkHid n1
            clear hW8 b8 hblk n0 n1
            go_wp2_with (at_builtin; go_must (rw [← HW8.out]; refine wp_appRp rfl _ _ rfl (GP + 1) u3 E rfl hRp8.out.row ((⟨N, P ++ [t]⟩ : GReply), Value.slice o5 (P.length + 1) k5) w7.heap.size 1 rfl N0.out N1.out rfl (by omega) (by rw [hs8.out]; omega) ?_; intro v9 w9 hrow9 hg9; refine Hid.out ?_))
            refine mkHid ?_
            have hRp9 := hRp8.out.push hOw8.out HFar7.out hrow9 hg9
            have hlow9 : ∀ k, u3.ownBlock = some k → GP + 1 ≤ k := fun k hk => (World.ownsRow.lt hRp8.out.row k hk).1
            have hGb9 : w9.heap[GP]? = some (.cells #[.int .i64 N, .slice o5 (P.length + 1) k5] 34 (0, 0)) := (hg9.block GP (by rw [hs8.out]; omega) (fun e => by have := hlow9 _ e.symm; omega)).trans hGb8.out
            have hB9 : Below GP W w9 := hB8.out.grown hg9 (by rw [hs8.out]; omega) (fun k hk => by have := hlow9 k hk; omega)
            obtain ⟨y0g, y1g⟩ := two_cellsI hGb9
            have f0g := two_frozenI hGb9 0
            have f1g := two_frozenI hGb9 1
            have hGbZ : Hid (((w9.setCell ⟨GP, 0, none⟩ (.int .i64 0)).setCell ⟨GP, 1, none⟩ (.slice none 0 0)).heap[GP]? = some (.cells #[.int .i64 0, .slice none 0 0] 34 (0, 0))) := show _ = _ from by simp [World.setCell, Array.getElem?_modify, hGb9]
            have hRpZ := mkHid ((hRp9.set (R0 := GP) (j := 0) (u := .int .i64 0) (by omega)).set (R0 := GP) (j := 1) (u := .slice none 0 0) (by omega))
            have hBZ := mkHid ((hB9.setCell (p := ⟨GP, 0, none⟩) (Nat.le_refl _) (.int .i64 0)).setCell (p := ⟨GP, 1, none⟩) (Nat.le_refl _) (.slice none 0 0))
            have hEZ : Hid ((E ++ [((⟨N, P ++ [t]⟩ : GReply), Value.slice o5 (P.length + 1) k5)]).map (·.1) = R ++ [⟨N, P ++ [t]⟩]) := show _ = _ from by rw [List.map_append, hE0.out]; rfl
            have hLZ : yl.length + (E ++ [((⟨N, P ++ [t]⟩ : GReply), Value.slice o5 (P.length + 1) k5)]).length + ([] : List ByteArray).length ≤ s.size := by simp; omega
            have hStZ : Hid (Rl.rdT yl (R ++ [⟨N, P ++ [t]⟩]) 0 [] = Z) := hst.symm
            clear hRp9 hGb9 hB9 hg9 hrow9 hlow9 hRp8 hOw8 hGb8 hB8 hst
            generalize (E ++ [((⟨N, P ++ [t]⟩ : GReply), Value.slice o5 (P.length + 1) k5)]) = E9 at *
            go_wp2
            go_roundw
            case rel => exact ⟨yl, _, 0, [], E9, none, 0, rfl, hLZ, hStZ, hEZ, hRpZ, OwnX.nil _ _, fun i hi => by cases ho : E9[i].2.ownBlock with | none => exact .inl ho | some k => exact .inr (by rw [ho]; simp [Value.ownBlock]), hGbZ, hBZ⟩
            case measure => simp [strLenR, szL]; omega
          · have x32 : (((T[3]'g3).toNat : Int) == 32) = false := hm32
            have hst := HST3.out
            rw [if_pos rfl] at hst
            have hStZ : Hid (Rl.rdT yl R N (P ++ [t]) = Z) := hst.symm
            have hLZ : yl.length + E.length + (P ++ [t]).length ≤ s.size := by simp; omega
            have hpe : P.length + 1 = (P ++ [t]).length := by simp
            rw [hpe] at HGb7 HOw7 HFar7
            clear hst hpe
            go_wp2
            go_roundw
            case rel => exact ⟨yl, R, N, P ++ [t], E, o5, k5, rfl, hLZ, hStZ, hE0, HRp7, HOw7, HFar7, HGb7, HB7⟩
            case measure => simp [strLenR, szL]; omega
        · go_simp
          refine (cK.out _).mono ?_
          rintro e w4 ⟨rfl, hb4⟩
          have hb4' : Below w3.heap.size w3 w4 := ((Below.refl w3.heap.size w3).drew).trans hb4
          obtain ⟨W5, hW5⟩ : ∃ W5, W5 = w4.alloc (.cells #[.string t] 9) := ⟨_, rfl⟩
          have b5 : Below w4.heap.size w4 W5 := by rw [hW5]; exact (Below.refl _ _).alloc (Nat.le_refl _) _
          have hs4 := hb4'.size
          have b35 : Below w3.heap.size w3 W5 := hb4'.trans (b5.mono hs4)
          have hn0 : W5.cell? ⟨w4.heap.size, 0, none⟩ = some (.string t) := by
            have := heap_alloc_at w4 (.cells #[.string t] 9)
            rw [← hW5] at this
            simp [World.cell?, this]
          have hs5 : W5.heap.size = w4.heap.size + 1 := by rw [hW5]; simp
          have y1c := (hb4'.cell (p := ⟨GP, 1, none⟩) hGs3).trans y1b
          have y1d := (b35.cell (p := ⟨GP, 1, none⟩) hGs3).trans y1b
          have y1h := y1d
          rw [hW5] at y1h
          have hGb5 := mkHid ((b35.block GP hGs3).trans HGb3.out)
          have hRp5 := mkHid (HRp3.out.below b35)
          have hOw5 := mkHid (HOw3.out.below b35)
          have hB5 := mkHid (HB3.out.trans (b35.mono (by omega)))
          have Hn0 := mkHid hn0
          have HW5 := mkHid hW5
          have Hs5 := mkHid hs5
          have Hs4 : Hid (w3.heap.size ≤ w4.heap.size) := hs4
          clear hb4 hb4' b5 b35 hn0 hW5 hs5 hs4
          go_simp
          refine hK _ _ ?_
          clear hK K
          go_simp
          refine wpAny_ready (rs := [1, 5]) (by kernel_rfl) (by simp) ?_
          refine AllReady.cons rfl (fun K hK => ?_) (AllReady.cons rfl (fun K hK => ?_) AllReady.nil)
          · go_simp
            refine hK _ _ ?_
            clear hK K
            go_simp
            refine wpAny_ready (rs := [5]) (by kernel_rfl) (by simp) ?_
            refine AllReady.cons rfl (fun K hK => ?_) AllReady.nil
            go_simp
            refine hK _ _ ?_
            clear hK K
            go_simp
            refine wpAny_ready (rs := [6]) (by kernel_rfl) (by simp) ?_
            refine AllReady.cons rfl (fun K hK => ?_) AllReady.nil
            first | rw [← HW5.out] | skip
            refine opAppX _ _ rfl (GP + 1) (.slice lo_ P.length lc) P rfl hOw5.out t w4.heap.size 1 rfl Hn0.out (by omega) (by rw [Hs5.out]; have := Hs4.out; omega) ?_
            intro y5 w6 hx6 hg6 hv6
            have hlow : ∀ k, (Value.slice lo_ P.length lc).ownBlock = some k → GP + 1 ≤ k := fun k hk => (World.ownsRow.lt hOw5.out k hk).1
            have hGb6 : w6.heap[GP]? = some (.cells #[.int .i64 N, .slice lo_ P.length lc] 34 (0, 0)) := (hg6.block GP (by rw [Hs5.out]; have := Hs4.out; omega) (fun e => by have := hlow _ e.symm; omega)).trans hGb5.out
            have hB6 : Below GP W w6 := hB5.out.grown hg6 (by rw [Hs5.out]; have := Hs4.out; omega) (fun k hk => by have := hlow k hk; omega)
            have hRp6 := hRp5.out.keepFar hOw5.out hg6 hFar.out
            have hFar6 := far_new hRp5.out (Nat.le_refl _) hFar.out hv6
            obtain ⟨o5, k5, hv5⟩ := hx6.shape
            rw [show (P ++ [t]).length = P.length + 1 from by simp] at hv5
            subst hv5
            obtain ⟨y0e, y1e⟩ := two_cellsI hGb6
            have f0e := two_frozenI hGb6 0
            have f1e := two_frozenI hGb6 1
            have hsz6 : W5.heap.size ≤ w6.heap.size := hg6.size
            refine hK _ _ ?_
            clear hK K
            go_simp
            refine wpAny_take (i := 7) (v := .pointer (some ⟨GP, 1, none⟩)) rfl (by kernel_rfl) (by kernel_rfl) (by kernel_rfl) (fun _ _ _ h => h) (Or.inl ⟨by rfl, ?_⟩) ?_
            · intro w
              go_simp
              all_goals first | done | (intro h; exfalso; omega) | omega
            go_simp
            refine wpAny_ready (rs := [8]) (by kernel_rfl) (by simp) ?_
            refine AllReady.cons rfl (fun K hK => ?_) AllReady.nil
            go_simp
            refine hK _ _ ?_
            clear hK K
            go_simp
            refine wpAny_done (by kernel_rfl) ?_ _
            obtain ⟨w7, hw7⟩ : ∃ w7, w7 = w6.setCell ⟨GP, 1, none⟩ (.slice o5 (P.length + 1) k5) := ⟨_, rfl⟩
            have gr7 : w6.grownBy w7 (some GP) := by rw [hw7]; exact grG_set w6 GP 1 _
            have hGb7 : w7.heap[GP]? = some (.cells #[.int .i64 N, .slice o5 (P.length + 1) k5] 34 (0, 0)) := by rw [hw7]; simp [World.setCell, Array.getElem?_modify, hGb6]
            have hRp7 : Rp (GP + 1) u3 E w7 := by rw [hw7]; exact hRp6.set (by omega)
            have hOw7 : OwnX (GP + 1) (.slice o5 (P.length + 1) k5) (P ++ [t]) w7 := hx6.keep gr7 (by
              cases ho : (Value.slice o5 (P.length + 1) k5).ownBlock with
              | none => exact .inl rfl
              | some k => exact .inr (by have := (World.ownsRow.lt hx6 k ho).1; intro e; cases e; omega))
            have hB7 : Below GP W w7 := by rw [hw7]; exact hB6.setCell (p := ⟨GP, 1, none⟩) (Nat.le_refl _) _
            have hs7 : w7.heap.size = w6.heap.size := by rw [hw7]; simp [World.setCell]
            have hGs7 : GP < w7.heap.size := heap_lt hGb7
            have HGb7 := mkHid hGb7
            have HRp7 := mkHid hRp7
            have HOw7 := mkHid hOw7
            have HB7 := mkHid hB7
            have HFar7 : Hid (∀ (i : Nat) (hi : i < E.length), Far E[i].2 (.slice o5 (P.length + 1) k5)) := hFar6
            have Hw7 := mkHid hw7
            obtain ⟨y0f, y1f⟩ := two_cellsI hGb7
            have f0f := two_frozenI hGb7 0
            have f1f := two_frozenI hGb7 1
            clear gr7 hGb7 hRp7 hOw7 hB7 hw7 hRp6 hFar6 hx6 hg6 hv6 hlow hGb6 hB6 y0e y1e f0e f1e hsz6 hs7 hGb5 hRp5 hOw5 hB5 Hn0 HW5 Hs5 Hs4 y1c y1d y1h y0b y1b HGb3 HRp3 HOw3 HB3 Hs3 Hw3 hFar
            rw [← Hw7.out]
            clear Hw7
            cases mo
            · have x32 : (((T[3]'g3).toNat : Int) == 32) = true := hm32
              have hst := HST3.out
              rw [if_neg (by simp)] at hst
              obtain ⟨W8, hW8⟩ : ∃ W8, W8 = w7.alloc (.cells #[.int .i64 N, .slice o5 (P.length + 1) k5] 34) := ⟨_, rfl⟩
              have b8 : Below w7.heap.size w7 W8 := by rw [hW8]; exact (Below.refl _ _).alloc (Nat.le_refl _) _
              have hblk : W8.heap[w7.heap.size]? = some (.cells #[.int .i64 N, .slice o5 (P.length + 1) k5] 34 (0, 0)) := by rw [hW8]; exact heap_alloc_at _ _
              obtain ⟨n0, n1⟩ := two_cellsI hblk
              have hRp8 := mkHid (HRp7.out.below b8)
              have hOw8 := mkHid (HOw7.out.below b8)
              have hGb8 := mkHid ((b8.block GP hGs7).trans HGb7.out)
              have hB8 := mkHid (HB7.out.trans (b8.mono (by omega)))
              have hs8 : Hid (W8.heap.size = w7.heap.size + 1) := show _ = _ from by rw [hW8]; simp
              have HW8 := mkHid hW8
              have N0 := mkHid n0
              have N1 := mkHid n1
              clear hW8 b8 hblk n0 n1
              go_wp2_with (at_builtin; go_must (rw [← HW8.out]; refine wp_appRp rfl _ _ rfl (GP + 1) u3 E rfl hRp8.out.row ((⟨N, P ++ [t]⟩ : GReply), Value.slice o5 (P.length + 1) k5) w7.heap.size 1 rfl N0.out N1.out rfl (by omega) (by rw [hs8.out]; omega) ?_; intro v9 w9 hrow9 hg9; refine Hid.out ?_))
              refine mkHid ?_
              have hRp9 := hRp8.out.push hOw8.out HFar7.out hrow9 hg9
              have hlow9 : ∀ k, u3.ownBlock = some k → GP + 1 ≤ k := fun k hk => (World.ownsRow.lt hRp8.out.row k hk).1
              have hGb9 : w9.heap[GP]? = some (.cells #[.int .i64 N, .slice o5 (P.length + 1) k5] 34 (0, 0)) := (hg9.block GP (by rw [hs8.out]; omega) (fun e => by have := hlow9 _ e.symm; omega)).trans hGb8.out
              have hB9 : Below GP W w9 := hB8.out.grown hg9 (by rw [hs8.out]; omega) (fun k hk => by have := hlow9 k hk; omega)
              obtain ⟨y0g, y1g⟩ := two_cellsI hGb9
              have f0g := two_frozenI hGb9 0
              have f1g := two_frozenI hGb9 1
              have hGbZ : Hid (((w9.setCell ⟨GP, 0, none⟩ (.int .i64 0)).setCell ⟨GP, 1, none⟩ (.slice none 0 0)).heap[GP]? = some (.cells #[.int .i64 0, .slice none 0 0] 34 (0, 0))) := show _ = _ from by simp [World.setCell, Array.getElem?_modify, hGb9]
              have hRpZ := mkHid ((hRp9.set (R0 := GP) (j := 0) (u := .int .i64 0) (by omega)).set (R0 := GP) (j := 1) (u := .slice none 0 0) (by omega))
              have hBZ := mkHid ((hB9.setCell (p := ⟨GP, 0, none⟩) (Nat.le_refl _) (.int .i64 0)).setCell (p := ⟨GP, 1, none⟩) (Nat.le_refl _) (.slice none 0 0))
              have hEZ : Hid ((E ++ [((⟨N, P ++ [t]⟩ : GReply), Value.slice o5 (P.length + 1) k5)]).map (·.1) = R ++ [⟨N, P ++ [t]⟩]) := show _ = _ from by rw [List.map_append, hE0.out]; rfl
              have hLZ : yl.length + (E ++ [((⟨N, P ++ [t]⟩ : GReply), Value.slice o5 (P.length + 1) k5)]).length + ([] : List ByteArray).length ≤ s.size := by simp; omega
              have hStZ : Hid (Rl.rdT yl (R ++ [⟨N, P ++ [t]⟩]) 0 [] = Z) := hst.symm
              clear hRp9 hGb9 hB9 hg9 hrow9 hlow9 hRp8 hOw8 hGb8 hB8 hst
              generalize (E ++ [((⟨N, P ++ [t]⟩ : GReply), Value.slice o5 (P.length + 1) k5)]) = E9 at *
              go_wp2
              go_roundw
              case rel => exact ⟨yl, _, 0, [], E9, none, 0, rfl, hLZ, hStZ, hEZ, hRpZ, OwnX.nil _ _, fun i hi => by cases ho : E9[i].2.ownBlock with | none => exact .inl ho | some k => exact .inr (by rw [ho]; simp [Value.ownBlock]), hGbZ, hBZ⟩
              case measure => simp [strLenR, szL]; omega
            · have x32 : (((T[3]'g3).toNat : Int) == 32) = false := hm32
              have hst := HST3.out
              rw [if_pos rfl] at hst
              have hStZ : Hid (Rl.rdT yl R N (P ++ [t]) = Z) := hst.symm
              have hLZ : yl.length + E.length + (P ++ [t]).length ≤ s.size := by simp; omega
              have hpe : P.length + 1 = (P ++ [t]).length := by simp
              rw [hpe] at HGb7 HOw7 HFar7
              clear hst hpe
              go_wp2
              go_roundw
              case rel => exact ⟨yl, R, N, P ++ [t], E, o5, k5, rfl, hLZ, hStZ, hE0, HRp7, HOw7, HFar7, HGb7, HB7⟩
              case measure => simp [strLenR, szL]; omega
          · go_simp
            refine hK _ _ ?_
            clear hK K
            go_simp
            refine wpAny_ready (rs := [1]) (by kernel_rfl) (by simp) ?_
            refine AllReady.cons rfl (fun K hK => ?_) AllReady.nil
            go_simp
            refine hK _ _ ?_
            clear hK K
            go_simp
            refine wpAny_ready (rs := [6]) (by kernel_rfl) (by simp) ?_
            refine AllReady.cons rfl (fun K hK => ?_) AllReady.nil
            first | rw [← HW5.out] | skip
            refine opAppX _ _ rfl (GP + 1) (.slice lo_ P.length lc) P rfl hOw5.out t w4.heap.size 1 rfl Hn0.out (by omega) (by rw [Hs5.out]; have := Hs4.out; omega) ?_
            intro y5 w6 hx6 hg6 hv6
            have hlow : ∀ k, (Value.slice lo_ P.length lc).ownBlock = some k → GP + 1 ≤ k := fun k hk => (World.ownsRow.lt hOw5.out k hk).1
            have hGb6 : w6.heap[GP]? = some (.cells #[.int .i64 N, .slice lo_ P.length lc] 34 (0, 0)) := (hg6.block GP (by rw [Hs5.out]; have := Hs4.out; omega) (fun e => by have := hlow _ e.symm; omega)).trans hGb5.out
            have hB6 : Below GP W w6 := hB5.out.grown hg6 (by rw [Hs5.out]; have := Hs4.out; omega) (fun k hk => by have := hlow k hk; omega)
            have hRp6 := hRp5.out.keepFar hOw5.out hg6 hFar.out
            have hFar6 := far_new hRp5.out (Nat.le_refl _) hFar.out hv6
            obtain ⟨o5, k5, hv5⟩ := hx6.shape
            rw [show (P ++ [t]).length = P.length + 1 from by simp] at hv5
            subst hv5
            obtain ⟨y0e, y1e⟩ := two_cellsI hGb6
            have f0e := two_frozenI hGb6 0
            have f1e := two_frozenI hGb6 1
            have hsz6 : W5.heap.size ≤ w6.heap.size := hg6.size
            refine hK _ _ ?_
            clear hK K
            go_simp
            refine wpAny_take (i := 7) (v := .pointer (some ⟨GP, 1, none⟩)) rfl (by kernel_rfl) (by kernel_rfl) (by kernel_rfl) (fun _ _ _ h => h) (Or.inl ⟨by rfl, ?_⟩) ?_
            · intro w
              go_simp
              all_goals first | done | (intro h; exfalso; omega) | omega
            go_simp
            refine wpAny_ready (rs := [8]) (by kernel_rfl) (by simp) ?_
            refine AllReady.cons rfl (fun K hK => ?_) AllReady.nil
            go_simp
            refine hK _ _ ?_
            clear hK K
            go_simp
            refine wpAny_done (by kernel_rfl) ?_ _
            obtain ⟨w7, hw7⟩ : ∃ w7, w7 = w6.setCell ⟨GP, 1, none⟩ (.slice o5 (P.length + 1) k5) := ⟨_, rfl⟩
            have gr7 : w6.grownBy w7 (some GP) := by rw [hw7]; exact grG_set w6 GP 1 _
            have hGb7 : w7.heap[GP]? = some (.cells #[.int .i64 N, .slice o5 (P.length + 1) k5] 34 (0, 0)) := by rw [hw7]; simp [World.setCell, Array.getElem?_modify, hGb6]
            have hRp7 : Rp (GP + 1) u3 E w7 := by rw [hw7]; exact hRp6.set (by omega)
            have hOw7 : OwnX (GP + 1) (.slice o5 (P.length + 1) k5) (P ++ [t]) w7 := hx6.keep gr7 (by
              cases ho : (Value.slice o5 (P.length + 1) k5).ownBlock with
              | none => exact .inl rfl
              | some k => exact .inr (by have := (World.ownsRow.lt hx6 k ho).1; intro e; cases e; omega))
            have hB7 : Below GP W w7 := by rw [hw7]; exact hB6.setCell (p := ⟨GP, 1, none⟩) (Nat.le_refl _) _
            have hs7 : w7.heap.size = w6.heap.size := by rw [hw7]; simp [World.setCell]
            have hGs7 : GP < w7.heap.size := heap_lt hGb7
            have HGb7 := mkHid hGb7
            have HRp7 := mkHid hRp7
            have HOw7 := mkHid hOw7
            have HB7 := mkHid hB7
            have HFar7 : Hid (∀ (i : Nat) (hi : i < E.length), Far E[i].2 (.slice o5 (P.length + 1) k5)) := hFar6
            have Hw7 := mkHid hw7
            obtain ⟨y0f, y1f⟩ := two_cellsI hGb7
            have f0f := two_frozenI hGb7 0
            have f1f := two_frozenI hGb7 1
            clear gr7 hGb7 hRp7 hOw7 hB7 hw7 hRp6 hFar6 hx6 hg6 hv6 hlow hGb6 hB6 y0e y1e f0e f1e hsz6 hs7 hGb5 hRp5 hOw5 hB5 Hn0 HW5 Hs5 Hs4 y1c y1d y1h y0b y1b HGb3 HRp3 HOw3 HB3 Hs3 Hw3 hFar
            rw [← Hw7.out]
            clear Hw7
            cases mo
            · have x32 : (((T[3]'g3).toNat : Int) == 32) = true := hm32
              have hst := HST3.out
              rw [if_neg (by simp)] at hst
              obtain ⟨W8, hW8⟩ : ∃ W8, W8 = w7.alloc (.cells #[.int .i64 N, .slice o5 (P.length + 1) k5] 34) := ⟨_, rfl⟩
              have b8 : Below w7.heap.size w7 W8 := by rw [hW8]; exact (Below.refl _ _).alloc (Nat.le_refl _) _
              have hblk : W8.heap[w7.heap.size]? = some (.cells #[.int .i64 N, .slice o5 (P.length + 1) k5] 34 (0, 0)) := by rw [hW8]; exact heap_alloc_at _ _
              obtain ⟨n0, n1⟩ := two_cellsI hblk
              have hRp8 := mkHid (HRp7.out.below b8)
              have hOw8 := mkHid (HOw7.out.below b8)
              have hGb8 := mkHid ((b8.block GP hGs7).trans HGb7.out)
              have hB8 := mkHid (HB7.out.trans (b8.mono (by omega)))
              have hs8 : Hid (W8.heap.size = w7.heap.size + 1) := show _ = _ from by rw [hW8]; simp
              have HW8 := mkHid hW8
              have N0 := mkHid n0
              have N1 := mkHid n1
              clear hW8 b8 hblk n0 n1
              go_wp2_with (at_builtin; go_must (rw [← HW8.out]; refine wp_appRp rfl _ _ rfl (GP + 1) u3 E rfl hRp8.out.row ((⟨N, P ++ [t]⟩ : GReply), Value.slice o5 (P.length + 1) k5) w7.heap.size 1 rfl N0.out N1.out rfl (by omega) (by rw [hs8.out]; omega) ?_; intro v9 w9 hrow9 hg9; refine Hid.out ?_))
              refine mkHid ?_
              have hRp9 := hRp8.out.push hOw8.out HFar7.out hrow9 hg9
              have hlow9 : ∀ k, u3.ownBlock = some k → GP + 1 ≤ k := fun k hk => (World.ownsRow.lt hRp8.out.row k hk).1
              have hGb9 : w9.heap[GP]? = some (.cells #[.int .i64 N, .slice o5 (P.length + 1) k5] 34 (0, 0)) := (hg9.block GP (by rw [hs8.out]; omega) (fun e => by have := hlow9 _ e.symm; omega)).trans hGb8.out
              have hB9 : Below GP W w9 := hB8.out.grown hg9 (by rw [hs8.out]; omega) (fun k hk => by have := hlow9 k hk; omega)
              obtain ⟨y0g, y1g⟩ := two_cellsI hGb9
              have f0g := two_frozenI hGb9 0
              have f1g := two_frozenI hGb9 1
              have hGbZ : Hid (((w9.setCell ⟨GP, 0, none⟩ (.int .i64 0)).setCell ⟨GP, 1, none⟩ (.slice none 0 0)).heap[GP]? = some (.cells #[.int .i64 0, .slice none 0 0] 34 (0, 0))) := show _ = _ from by simp [World.setCell, Array.getElem?_modify, hGb9]
              have hRpZ := mkHid ((hRp9.set (R0 := GP) (j := 0) (u := .int .i64 0) (by omega)).set (R0 := GP) (j := 1) (u := .slice none 0 0) (by omega))
              have hBZ := mkHid ((hB9.setCell (p := ⟨GP, 0, none⟩) (Nat.le_refl _) (.int .i64 0)).setCell (p := ⟨GP, 1, none⟩) (Nat.le_refl _) (.slice none 0 0))
              have hEZ : Hid ((E ++ [((⟨N, P ++ [t]⟩ : GReply), Value.slice o5 (P.length + 1) k5)]).map (·.1) = R ++ [⟨N, P ++ [t]⟩]) := show _ = _ from by rw [List.map_append, hE0.out]; rfl
              have hLZ : yl.length + (E ++ [((⟨N, P ++ [t]⟩ : GReply), Value.slice o5 (P.length + 1) k5)]).length + ([] : List ByteArray).length ≤ s.size := by simp; omega
              have hStZ : Hid (Rl.rdT yl (R ++ [⟨N, P ++ [t]⟩]) 0 [] = Z) := hst.symm
              clear hRp9 hGb9 hB9 hg9 hrow9 hlow9 hRp8 hOw8 hGb8 hB8 hst
              generalize (E ++ [((⟨N, P ++ [t]⟩ : GReply), Value.slice o5 (P.length + 1) k5)]) = E9 at *
              go_wp2
              go_roundw
              case rel => exact ⟨yl, _, 0, [], E9, none, 0, rfl, hLZ, hStZ, hEZ, hRpZ, OwnX.nil _ _, fun i hi => by cases ho : E9[i].2.ownBlock with | none => exact .inl ho | some k => exact .inr (by rw [ho]; simp [Value.ownBlock]), hGbZ, hBZ⟩
              case measure => simp [strLenR, szL]; omega
            · have x32 : (((T[3]'g3).toNat : Int) == 32) = false := hm32
              have hst := HST3.out
              rw [if_pos rfl] at hst
              have hStZ : Hid (Rl.rdT yl R N (P ++ [t]) = Z) := hst.symm
              have hLZ : yl.length + E.length + (P ++ [t]).length ≤ s.size := by simp; omega
              have hpe : P.length + 1 = (P ++ [t]).length := by simp
              rw [hpe] at HGb7 HOw7 HFar7
              clear hst hpe
              go_wp2
              go_roundw
              case rel => exact ⟨yl, R, N, P ++ [t], E, o5, k5, rfl, hLZ, hStZ, hE0, HRp7, HOw7, HFar7, HGb7, HB7⟩
              case measure => simp [strLenR, szL]; omega
      · have hpl : 0 < P.length := List.length_pos_iff.2 hP
        have x9 : decide ((0 : Int) < (P.length : Int)) = true := decide_eq_true (by omega)
        have hcN : c = N := by
          by_cases e : c = N
          · exact e
          · exact absurd ⟨hP, e⟩ hbadc
        subst hcN
        have u5 : (c != c) = false := by simp
        clear hbadc
        go_wp2_with (go_at_call 13; fail)
        refine cC.out.mono ?_
        rintro e w1 ⟨rfl, hb1⟩
        go_wp2_with (go_at_call 14; fail)
        refine (cL.out _).mono ?_
        rintro e wL ⟨rfl, rfl⟩
        go_wp2_with (go_at_call 15; fail)
        refine (cN.out _).mono ?_
        rintro e w2 ⟨rfl, hb2⟩
        have hb12 := hb1.trans (hb2.mono hb1.size)
        have hs12 := hb12.size
        have hbF1 := mkHid (hbF.out.trans (hb12.mono hbF.out.size))
        have q0a := (hb12.cell (p := ⟨w.heap.size, 0, none⟩) (by show w.heap.size < wr.heap.size; omega)).trans q0
        have q1a := (hb12.cell (p := ⟨w.heap.size, 1, none⟩) (by show w.heap.size < wr.heap.size; omega)).trans q1
        have g0a := (hb12.frozen (p := ⟨w.heap.size, 0, none⟩) (by show w.heap.size < wr.heap.size; omega)).trans g0
        have g1a := (hb12.frozen (p := ⟨w.heap.size, 1, none⟩) (by show w.heap.size < wr.heap.size; omega)).trans g1
        have hGb2 := mkHid ((hb12.block GP hGs).trans hGb.out)
        have hRp2 := mkHid (hRp.out.below hb12)
        have hOw2 := mkHid (hOw.out.below hb12)
        have hB2 := mkHid (hB.out.trans (hb12.mono (Nat.le_of_lt hGs)))
        obtain ⟨y0a, y1a⟩ := two_cellsI hGb2.out
        have f0a := two_frozenI hGb2.out 0
        have f1a := two_frozenI hGb2.out 1
        have hGs2 : GP < w2.heap.size := by omega
        clear cC cL cN hb1 hb2 hb12 hGb hOw hB q0 q1 g0 g1 y0 y1 f0 f1 hmr hBw
        obtain ⟨w3, hw3⟩ : ∃ w3, w3 = w2.setCell ⟨GP, 0, none⟩ (.int .i64 c) := ⟨_, rfl⟩
        have gr3 : w2.grownBy w3 (some GP) := by rw [hw3]; exact grG_set w2 GP 0 _
        have hGb3 : w3.heap[GP]? = some (.cells #[.int .i64 c, .slice lo_ P.length lc] 34 (0, 0)) := by rw [hw3]; simp [World.setCell, Array.getElem?_modify, hGb2.out]
        have hRp3 : Rp (GP + 1) u3 E w3 := by rw [hw3]; exact hRp2.out.set (by omega)
        have hOw3 : OwnX (GP + 1) (.slice lo_ P.length lc) P w3 := hOw2.out.keep gr3 (by
          cases ho : (Value.slice lo_ P.length lc).ownBlock with
          | none => exact .inl rfl
          | some k => exact .inr (by have := (World.ownsRow.lt hOw2.out k ho).1; intro e; cases e; omega))
        have hB3 : Below GP W w3 := by rw [hw3]; exact hB2.out.setCell (p := ⟨GP, 0, none⟩) (Nat.le_refl _) _
        have hs3 : w3.heap.size = w2.heap.size := by rw [hw3]; simp [World.setCell]
        obtain ⟨y0b, y1b⟩ := two_cellsI hGb3
        have HGb3 := mkHid hGb3
        have HRp3 := mkHid hRp3
        have HOw3 := mkHid hOw3
        have HB3 := mkHid hB3
        have Hs3 := mkHid hs3
        have Hw3 := mkHid hw3
        have hGs3 : GP < w3.heap.size := by omega
        clear gr3 hGb3 hRp3 hOw3 hB3 hs3 hw3 hGb2 hRp2 hOw2 hB2 hRp
        go_wp2
        rw [← Hw3.out]
        refine wp_region_any (by kernel_rfl) ?_
        refine wpAny_take (i := 0) (v := .pointer (some ⟨GP, 1, none⟩)) rfl (by kernel_rfl) (by kernel_rfl) (by kernel_rfl) (fun _ _ _ h => h) (Or.inl ⟨by rfl, ?_⟩) ?_
        · intro w
          go_simp
          all_goals first | done | (intro h; exfalso; omega) | omega
        go_simp
        refine wpAny_take (i := 2) (v := .string T) rfl (by kernel_rfl) (by kernel_rfl) (by kernel_rfl) (fun _ _ _ h => h) (Or.inl ⟨by rfl, ?_⟩) ?_
        · intro w
          go_simp
          all_goals first | done | (intro h; exfalso; omega) | omega
        go_simp
        refine wpAny_take (i := 3) (v := .string t) rfl (by kernel_rfl) (by kernel_rfl) (by kernel_rfl) (fun _ _ _ h => h) (Or.inl ⟨by rfl, ?_⟩) ?_
        · intro w
          go_simp
          all_goals first | done | (intro h; exfalso; omega) | omega
        go_simp
        refine wpAny_ready (rs := [1, 4]) (by kernel_rfl) (by simp) ?_
        refine AllReady.cons rfl (fun K hK => ?_) (AllReady.cons rfl (fun K hK => ?_) AllReady.nil)
        · go_simp
          refine hK _ _ ?_
          clear hK K
          go_simp
          refine wpAny_ready (rs := [4]) (by kernel_rfl) (by simp) ?_
          refine AllReady.cons rfl (fun K hK => ?_) AllReady.nil
          go_simp
          refine (cK.out _).mono ?_
          rintro e w4 ⟨rfl, hb4⟩
          have hb4' : Below w3.heap.size w3 w4 := ((Below.refl w3.heap.size w3).drew).trans hb4
          obtain ⟨W5, hW5⟩ : ∃ W5, W5 = w4.alloc (.cells #[.string t] 9) := ⟨_, rfl⟩
          have b5 : Below w4.heap.size w4 W5 := by rw [hW5]; exact (Below.refl _ _).alloc (Nat.le_refl _) _
          have hs4 := hb4'.size
          have b35 : Below w3.heap.size w3 W5 := hb4'.trans (b5.mono hs4)
          have hn0 : W5.cell? ⟨w4.heap.size, 0, none⟩ = some (.string t) := by
            have := heap_alloc_at w4 (.cells #[.string t] 9)
            rw [← hW5] at this
            simp [World.cell?, this]
          have hs5 : W5.heap.size = w4.heap.size + 1 := by rw [hW5]; simp
          have y1c := (hb4'.cell (p := ⟨GP, 1, none⟩) hGs3).trans y1b
          have y1d := (b35.cell (p := ⟨GP, 1, none⟩) hGs3).trans y1b
          have y1h := y1d
          rw [hW5] at y1h
          have hGb5 := mkHid ((b35.block GP hGs3).trans HGb3.out)
          have hRp5 := mkHid (HRp3.out.below b35)
          have hOw5 := mkHid (HOw3.out.below b35)
          have hB5 := mkHid (HB3.out.trans (b35.mono (by omega)))
          have Hn0 := mkHid hn0
          have HW5 := mkHid hW5
          have Hs5 := mkHid hs5
          have Hs4 : Hid (w3.heap.size ≤ w4.heap.size) := hs4
          clear hb4 hb4' b5 b35 hn0 hW5 hs5 hs4
          go_simp
          refine hK _ _ ?_
          clear hK K
          go_simp
          refine wpAny_ready (rs := [5]) (by kernel_rfl) (by simp) ?_
          refine AllReady.cons rfl (fun K hK => ?_) AllReady.nil
          go_simp
          refine hK _ _ ?_
          clear hK K
          go_simp
          refine wpAny_ready (rs := [6]) (by kernel_rfl) (by simp) ?_
          refine AllReady.cons rfl (fun K hK => ?_) AllReady.nil
          first | rw [← HW5.out] | skip
          refine opAppX _ _ rfl (GP + 1) (.slice lo_ P.length lc) P rfl hOw5.out t w4.heap.size 1 rfl Hn0.out (by omega) (by rw [Hs5.out]; have := Hs4.out; omega) ?_
          intro y5 w6 hx6 hg6 hv6
          have hlow : ∀ k, (Value.slice lo_ P.length lc).ownBlock = some k → GP + 1 ≤ k := fun k hk => (World.ownsRow.lt hOw5.out k hk).1
          have hGb6 : w6.heap[GP]? = some (.cells #[.int .i64 c, .slice lo_ P.length lc] 34 (0, 0)) := (hg6.block GP (by rw [Hs5.out]; have := Hs4.out; omega) (fun e => by have := hlow _ e.symm; omega)).trans hGb5.out
          have hB6 : Below GP W w6 := hB5.out.grown hg6 (by rw [Hs5.out]; have := Hs4.out; omega) (fun k hk => by have := hlow k hk; omega)
          have hRp6 := hRp5.out.keepFar hOw5.out hg6 hFar.out
          have hFar6 := far_new hRp5.out (Nat.le_refl _) hFar.out hv6
          obtain ⟨o5, k5, hv5⟩ := hx6.shape
          rw [show (P ++ [t]).length = P.length + 1 from by simp] at hv5
          subst hv5
          obtain ⟨y0e, y1e⟩ := two_cellsI hGb6
          have f0e := two_frozenI hGb6 0
          have f1e := two_frozenI hGb6 1
          have hsz6 : W5.heap.size ≤ w6.heap.size := hg6.size
          refine hK _ _ ?_
          clear hK K
          go_simp
          refine wpAny_take (i := 7) (v := .pointer (some ⟨GP, 1, none⟩)) rfl (by kernel_rfl) (by kernel_rfl) (by kernel_rfl) (fun _ _ _ h => h) (Or.inl ⟨by rfl, ?_⟩) ?_
          · intro w
            go_simp
            all_goals first | done | (intro h; exfalso; omega) | omega
          go_simp
          refine wpAny_ready (rs := [8]) (by kernel_rfl) (by simp) ?_
          refine AllReady.cons rfl (fun K hK => ?_) AllReady.nil
          go_simp
          refine hK _ _ ?_
          clear hK K
          go_simp
          refine wpAny_done (by kernel_rfl) ?_ _
          obtain ⟨w7, hw7⟩ : ∃ w7, w7 = w6.setCell ⟨GP, 1, none⟩ (.slice o5 (P.length + 1) k5) := ⟨_, rfl⟩
          have gr7 : w6.grownBy w7 (some GP) := by rw [hw7]; exact grG_set w6 GP 1 _
          have hGb7 : w7.heap[GP]? = some (.cells #[.int .i64 c, .slice o5 (P.length + 1) k5] 34 (0, 0)) := by rw [hw7]; simp [World.setCell, Array.getElem?_modify, hGb6]
          have hRp7 : Rp (GP + 1) u3 E w7 := by rw [hw7]; exact hRp6.set (by omega)
          have hOw7 : OwnX (GP + 1) (.slice o5 (P.length + 1) k5) (P ++ [t]) w7 := hx6.keep gr7 (by
            cases ho : (Value.slice o5 (P.length + 1) k5).ownBlock with
            | none => exact .inl rfl
            | some k => exact .inr (by have := (World.ownsRow.lt hx6 k ho).1; intro e; cases e; omega))
          have hB7 : Below GP W w7 := by rw [hw7]; exact hB6.setCell (p := ⟨GP, 1, none⟩) (Nat.le_refl _) _
          have hs7 : w7.heap.size = w6.heap.size := by rw [hw7]; simp [World.setCell]
          have hGs7 : GP < w7.heap.size := heap_lt hGb7
          have HGb7 := mkHid hGb7
          have HRp7 := mkHid hRp7
          have HOw7 := mkHid hOw7
          have HB7 := mkHid hB7
          have HFar7 : Hid (∀ (i : Nat) (hi : i < E.length), Far E[i].2 (.slice o5 (P.length + 1) k5)) := hFar6
          have Hw7 := mkHid hw7
          obtain ⟨y0f, y1f⟩ := two_cellsI hGb7
          have f0f := two_frozenI hGb7 0
          have f1f := two_frozenI hGb7 1
          clear gr7 hGb7 hRp7 hOw7 hB7 hw7 hRp6 hFar6 hx6 hg6 hv6 hlow hGb6 hB6 y0e y1e f0e f1e hsz6 hs7 hGb5 hRp5 hOw5 hB5 Hn0 HW5 Hs5 Hs4 y1c y1d y1h y0b y1b HGb3 HRp3 HOw3 HB3 Hs3 Hw3 hFar
          rw [← Hw7.out]
          clear Hw7
          cases mo
          · have x32 : (((T[3]'g3).toNat : Int) == 32) = true := hm32
            have hst := HST3.out
            rw [if_neg (by simp)] at hst
            obtain ⟨W8, hW8⟩ : ∃ W8, W8 = w7.alloc (.cells #[.int .i64 c, .slice o5 (P.length + 1) k5] 34) := ⟨_, rfl⟩
            have b8 : Below w7.heap.size w7 W8 := by rw [hW8]; exact (Below.refl _ _).alloc (Nat.le_refl _) _
            have hblk : W8.heap[w7.heap.size]? = some (.cells #[.int .i64 c, .slice o5 (P.length + 1) k5] 34 (0, 0)) := by rw [hW8]; exact heap_alloc_at _ _
            obtain ⟨n0, n1⟩ := two_cellsI hblk
            have hRp8 := mkHid (HRp7.out.below b8)
            have hOw8 := mkHid (HOw7.out.below b8)
            have hGb8 := mkHid ((b8.block GP hGs7).trans HGb7.out)
            have hB8 := mkHid (HB7.out.trans (b8.mono (by omega)))
            have hs8 : Hid (W8.heap.size = w7.heap.size + 1) := show _ = _ from by rw [hW8]; simp
            have HW8 := mkHid hW8
            have N0 := mkHid n0
            have N1 := mkHid n1
            clear hW8 b8 hblk n0 n1
            go_wp2_with (at_builtin; go_must (rw [← HW8.out]; refine wp_appRp rfl _ _ rfl (GP + 1) u3 E rfl hRp8.out.row ((⟨c, P ++ [t]⟩ : GReply), Value.slice o5 (P.length + 1) k5) w7.heap.size 1 rfl N0.out N1.out rfl (by omega) (by rw [hs8.out]; omega) ?_; intro v9 w9 hrow9 hg9; refine Hid.out ?_))
            refine mkHid ?_
            have hRp9 := hRp8.out.push hOw8.out HFar7.out hrow9 hg9
            have hlow9 : ∀ k, u3.ownBlock = some k → GP + 1 ≤ k := fun k hk => (World.ownsRow.lt hRp8.out.row k hk).1
            have hGb9 : w9.heap[GP]? = some (.cells #[.int .i64 c, .slice o5 (P.length + 1) k5] 34 (0, 0)) := (hg9.block GP (by rw [hs8.out]; omega) (fun e => by have := hlow9 _ e.symm; omega)).trans hGb8.out
            have hB9 : Below GP W w9 := hB8.out.grown hg9 (by rw [hs8.out]; omega) (fun k hk => by have := hlow9 k hk; omega)
            obtain ⟨y0g, y1g⟩ := two_cellsI hGb9
            have f0g := two_frozenI hGb9 0
            have f1g := two_frozenI hGb9 1
            have hGbZ : Hid (((w9.setCell ⟨GP, 0, none⟩ (.int .i64 0)).setCell ⟨GP, 1, none⟩ (.slice none 0 0)).heap[GP]? = some (.cells #[.int .i64 0, .slice none 0 0] 34 (0, 0))) := show _ = _ from by simp [World.setCell, Array.getElem?_modify, hGb9]
            have hRpZ := mkHid ((hRp9.set (R0 := GP) (j := 0) (u := .int .i64 0) (by omega)).set (R0 := GP) (j := 1) (u := .slice none 0 0) (by omega))
            have hBZ := mkHid ((hB9.setCell (p := ⟨GP, 0, none⟩) (Nat.le_refl _) (.int .i64 0)).setCell (p := ⟨GP, 1, none⟩) (Nat.le_refl _) (.slice none 0 0))
            have hEZ : Hid ((E ++ [((⟨c, P ++ [t]⟩ : GReply), Value.slice o5 (P.length + 1) k5)]).map (·.1) = R ++ [⟨c, P ++ [t]⟩]) := show _ = _ from by rw [List.map_append, hE0.out]; rfl
            have hLZ : yl.length + (E ++ [((⟨c, P ++ [t]⟩ : GReply), Value.slice o5 (P.length + 1) k5)]).length + ([] : List ByteArray).length ≤ s.size := by simp; omega
            have hStZ : Hid (Rl.rdT yl (R ++ [⟨c, P ++ [t]⟩]) 0 [] = Z) := hst.symm
            clear hRp9 hGb9 hB9 hg9 hrow9 hlow9 hRp8 hOw8 hGb8 hB8 hst
            generalize (E ++ [((⟨c, P ++ [t]⟩ : GReply), Value.slice o5 (P.length + 1) k5)]) = E9 at *
            go_wp2
            go_roundw
            case rel => exact ⟨yl, _, 0, [], E9, none, 0, rfl, hLZ, hStZ, hEZ, hRpZ, OwnX.nil _ _, fun i hi => by cases ho : E9[i].2.ownBlock with | none => exact .inl ho | some k => exact .inr (by rw [ho]; simp [Value.ownBlock]), hGbZ, hBZ⟩
            case measure => simp [strLenR, szL]; omega
          · have x32 : (((T[3]'g3).toNat : Int) == 32) = false := hm32
            have hst := HST3.out
            rw [if_pos rfl] at hst
            have hStZ : Hid (Rl.rdT yl R c (P ++ [t]) = Z) := hst.symm
            have hLZ : yl.length + E.length + (P ++ [t]).length ≤ s.size := by simp; omega
            have hpe : P.length + 1 = (P ++ [t]).length := by simp
            rw [hpe] at HGb7 HOw7 HFar7
            clear hst hpe
            go_wp2
            go_roundw
            case rel => exact ⟨yl, R, c, P ++ [t], E, o5, k5, rfl, hLZ, hStZ, hE0, HRp7, HOw7, HFar7, HGb7, HB7⟩
            case measure => simp [strLenR, szL]; omega
        · go_simp
          refine (cK.out _).mono ?_
          rintro e w4 ⟨rfl, hb4⟩
          have hb4' : Below w3.heap.size w3 w4 := ((Below.refl w3.heap.size w3).drew).trans hb4
          obtain ⟨W5, hW5⟩ : ∃ W5, W5 = w4.alloc (.cells #[.string t] 9) := ⟨_, rfl⟩
          have b5 : Below w4.heap.size w4 W5 := by rw [hW5]; exact (Below.refl _ _).alloc (Nat.le_refl _) _
          have hs4 := hb4'.size
          have b35 : Below w3.heap.size w3 W5 := hb4'.trans (b5.mono hs4)
          have hn0 : W5.cell? ⟨w4.heap.size, 0, none⟩ = some (.string t) := by
            have := heap_alloc_at w4 (.cells #[.string t] 9)
            rw [← hW5] at this
            simp [World.cell?, this]
          have hs5 : W5.heap.size = w4.heap.size + 1 := by rw [hW5]; simp
          have y1c := (hb4'.cell (p := ⟨GP, 1, none⟩) hGs3).trans y1b
          have y1d := (b35.cell (p := ⟨GP, 1, none⟩) hGs3).trans y1b
          have y1h := y1d
          rw [hW5] at y1h
          have hGb5 := mkHid ((b35.block GP hGs3).trans HGb3.out)
          have hRp5 := mkHid (HRp3.out.below b35)
          have hOw5 := mkHid (HOw3.out.below b35)
          have hB5 := mkHid (HB3.out.trans (b35.mono (by omega)))
          have Hn0 := mkHid hn0
          have HW5 := mkHid hW5
          have Hs5 := mkHid hs5
          have Hs4 : Hid (w3.heap.size ≤ w4.heap.size) := hs4
          clear hb4 hb4' b5 b35 hn0 hW5 hs5 hs4
          go_simp
          refine hK _ _ ?_
          clear hK K
          go_simp
          refine wpAny_ready (rs := [1, 5]) (by kernel_rfl) (by simp) ?_
          refine AllReady.cons rfl (fun K hK => ?_) (AllReady.cons rfl (fun K hK => ?_) AllReady.nil)
          · go_simp
            refine hK _ _ ?_
            clear hK K
            go_simp
            refine wpAny_ready (rs := [5]) (by kernel_rfl) (by simp) ?_
            refine AllReady.cons rfl (fun K hK => ?_) AllReady.nil
            go_simp
            refine hK _ _ ?_
            clear hK K
            go_simp
            refine wpAny_ready (rs := [6]) (by kernel_rfl) (by simp) ?_
            refine AllReady.cons rfl (fun K hK => ?_) AllReady.nil
            first | rw [← HW5.out] | skip
            refine opAppX _ _ rfl (GP + 1) (.slice lo_ P.length lc) P rfl hOw5.out t w4.heap.size 1 rfl Hn0.out (by omega) (by rw [Hs5.out]; have := Hs4.out; omega) ?_
            intro y5 w6 hx6 hg6 hv6
            have hlow : ∀ k, (Value.slice lo_ P.length lc).ownBlock = some k → GP + 1 ≤ k := fun k hk => (World.ownsRow.lt hOw5.out k hk).1
            have hGb6 : w6.heap[GP]? = some (.cells #[.int .i64 c, .slice lo_ P.length lc] 34 (0, 0)) := (hg6.block GP (by rw [Hs5.out]; have := Hs4.out; omega) (fun e => by have := hlow _ e.symm; omega)).trans hGb5.out
            have hB6 : Below GP W w6 := hB5.out.grown hg6 (by rw [Hs5.out]; have := Hs4.out; omega) (fun k hk => by have := hlow k hk; omega)
            have hRp6 := hRp5.out.keepFar hOw5.out hg6 hFar.out
            have hFar6 := far_new hRp5.out (Nat.le_refl _) hFar.out hv6
            obtain ⟨o5, k5, hv5⟩ := hx6.shape
            rw [show (P ++ [t]).length = P.length + 1 from by simp] at hv5
            subst hv5
            obtain ⟨y0e, y1e⟩ := two_cellsI hGb6
            have f0e := two_frozenI hGb6 0
            have f1e := two_frozenI hGb6 1
            have hsz6 : W5.heap.size ≤ w6.heap.size := hg6.size
            refine hK _ _ ?_
            clear hK K
            go_simp
            refine wpAny_take (i := 7) (v := .pointer (some ⟨GP, 1, none⟩)) rfl (by kernel_rfl) (by kernel_rfl) (by kernel_rfl) (fun _ _ _ h => h) (Or.inl ⟨by rfl, ?_⟩) ?_
            · intro w
              go_simp
              all_goals first | done | (intro h; exfalso; omega) | omega
            go_simp
            refine wpAny_ready (rs := [8]) (by kernel_rfl) (by simp) ?_
            refine AllReady.cons rfl (fun K hK => ?_) AllReady.nil
            go_simp
            refine hK _ _ ?_
            clear hK K
            go_simp
            refine wpAny_done (by kernel_rfl) ?_ _
            obtain ⟨w7, hw7⟩ : ∃ w7, w7 = w6.setCell ⟨GP, 1, none⟩ (.slice o5 (P.length + 1) k5) := ⟨_, rfl⟩
            have gr7 : w6.grownBy w7 (some GP) := by rw [hw7]; exact grG_set w6 GP 1 _
            have hGb7 : w7.heap[GP]? = some (.cells #[.int .i64 c, .slice o5 (P.length + 1) k5] 34 (0, 0)) := by rw [hw7]; simp [World.setCell, Array.getElem?_modify, hGb6]
            have hRp7 : Rp (GP + 1) u3 E w7 := by rw [hw7]; exact hRp6.set (by omega)
            have hOw7 : OwnX (GP + 1) (.slice o5 (P.length + 1) k5) (P ++ [t]) w7 := hx6.keep gr7 (by
              cases ho : (Value.slice o5 (P.length + 1) k5).ownBlock with
              | none => exact .inl rfl
              | some k => exact .inr (by have := (World.ownsRow.lt hx6 k ho).1; intro e; cases e; omega))
            have hB7 : Below GP W w7 := by rw [hw7]; exact hB6.setCell (p := ⟨GP, 1, none⟩) (Nat.le_refl _) _
            have hs7 : w7.heap.size = w6.heap.size := by rw [hw7]; simp [World.setCell]
            have hGs7 : GP < w7.heap.size := heap_lt hGb7
            have HGb7 := mkHid hGb7
            have HRp7 := mkHid hRp7
            have HOw7 := mkHid hOw7
            have HB7 := mkHid hB7
            have HFar7 : Hid (∀ (i : Nat) (hi : i < E.length), Far E[i].2 (.slice o5 (P.length + 1) k5)) := hFar6
            have Hw7 := mkHid hw7
            obtain ⟨y0f, y1f⟩ := two_cellsI hGb7
            have f0f := two_frozenI hGb7 0
            have f1f := two_frozenI hGb7 1
            clear gr7 hGb7 hRp7 hOw7 hB7 hw7 hRp6 hFar6 hx6 hg6 hv6 hlow hGb6 hB6 y0e y1e f0e f1e hsz6 hs7 hGb5 hRp5 hOw5 hB5 Hn0 HW5 Hs5 Hs4 y1c y1d y1h y0b y1b HGb3 HRp3 HOw3 HB3 Hs3 Hw3 hFar
            rw [← Hw7.out]
            clear Hw7
            cases mo
            · have x32 : (((T[3]'g3).toNat : Int) == 32) = true := hm32
              have hst := HST3.out
              rw [if_neg (by simp)] at hst
              obtain ⟨W8, hW8⟩ : ∃ W8, W8 = w7.alloc (.cells #[.int .i64 c, .slice o5 (P.length + 1) k5] 34) := ⟨_, rfl⟩
              have b8 : Below w7.heap.size w7 W8 := by rw [hW8]; exact (Below.refl _ _).alloc (Nat.le_refl _) _
              have hblk : W8.heap[w7.heap.size]? = some (.cells #[.int .i64 c, .slice o5 (P.length + 1) k5] 34 (0, 0)) := by rw [hW8]; exact heap_alloc_at _ _
              obtain ⟨n0, n1⟩ := two_cellsI hblk
              have hRp8 := mkHid (HRp7.out.below b8)
              have hOw8 := mkHid (HOw7.out.below b8)
              have hGb8 := mkHid ((b8.block GP hGs7).trans HGb7.out)
              have hB8 := mkHid (HB7.out.trans (b8.mono (by omega)))
              have hs8 : Hid (W8.heap.size = w7.heap.size + 1) := show _ = _ from by rw [hW8]; simp
              have HW8 := mkHid hW8
              have N0 := mkHid n0
              have N1 := mkHid n1
              clear hW8 b8 hblk n0 n1
              go_wp2_with (at_builtin; go_must (rw [← HW8.out]; refine wp_appRp rfl _ _ rfl (GP + 1) u3 E rfl hRp8.out.row ((⟨c, P ++ [t]⟩ : GReply), Value.slice o5 (P.length + 1) k5) w7.heap.size 1 rfl N0.out N1.out rfl (by omega) (by rw [hs8.out]; omega) ?_; intro v9 w9 hrow9 hg9; refine Hid.out ?_))
              refine mkHid ?_
              have hRp9 := hRp8.out.push hOw8.out HFar7.out hrow9 hg9
              have hlow9 : ∀ k, u3.ownBlock = some k → GP + 1 ≤ k := fun k hk => (World.ownsRow.lt hRp8.out.row k hk).1
              have hGb9 : w9.heap[GP]? = some (.cells #[.int .i64 c, .slice o5 (P.length + 1) k5] 34 (0, 0)) := (hg9.block GP (by rw [hs8.out]; omega) (fun e => by have := hlow9 _ e.symm; omega)).trans hGb8.out
              have hB9 : Below GP W w9 := hB8.out.grown hg9 (by rw [hs8.out]; omega) (fun k hk => by have := hlow9 k hk; omega)
              obtain ⟨y0g, y1g⟩ := two_cellsI hGb9
              have f0g := two_frozenI hGb9 0
              have f1g := two_frozenI hGb9 1
              have hGbZ : Hid (((w9.setCell ⟨GP, 0, none⟩ (.int .i64 0)).setCell ⟨GP, 1, none⟩ (.slice none 0 0)).heap[GP]? = some (.cells #[.int .i64 0, .slice none 0 0] 34 (0, 0))) := show _ = _ from by simp [World.setCell, Array.getElem?_modify, hGb9]
              have hRpZ := mkHid ((hRp9.set (R0 := GP) (j := 0) (u := .int .i64 0) (by omega)).set (R0 := GP) (j := 1) (u := .slice none 0 0) (by omega))
              have hBZ := mkHid ((hB9.setCell (p := ⟨GP, 0, none⟩) (Nat.le_refl _) (.int .i64 0)).setCell (p := ⟨GP, 1, none⟩) (Nat.le_refl _) (.slice none 0 0))
              have hEZ : Hid ((E ++ [((⟨c, P ++ [t]⟩ : GReply), Value.slice o5 (P.length + 1) k5)]).map (·.1) = R ++ [⟨c, P ++ [t]⟩]) := show _ = _ from by rw [List.map_append, hE0.out]; rfl
              have hLZ : yl.length + (E ++ [((⟨c, P ++ [t]⟩ : GReply), Value.slice o5 (P.length + 1) k5)]).length + ([] : List ByteArray).length ≤ s.size := by simp; omega
              have hStZ : Hid (Rl.rdT yl (R ++ [⟨c, P ++ [t]⟩]) 0 [] = Z) := hst.symm
              clear hRp9 hGb9 hB9 hg9 hrow9 hlow9 hRp8 hOw8 hGb8 hB8 hst
              generalize (E ++ [((⟨c, P ++ [t]⟩ : GReply), Value.slice o5 (P.length + 1) k5)]) = E9 at *
              go_wp2
              go_roundw
              case rel => exact ⟨yl, _, 0, [], E9, none, 0, rfl, hLZ, hStZ, hEZ, hRpZ, OwnX.nil _ _, fun i hi => by cases ho : E9[i].2.ownBlock with | none => exact .inl ho | some k => exact .inr (by rw [ho]; simp [Value.ownBlock]), hGbZ, hBZ⟩
              case measure => simp [strLenR, szL]; omega
            · have x32 : (((T[3]'g3).toNat : Int) == 32) = false := hm32
              have hst := HST3.out
              rw [if_pos rfl] at hst
              have hStZ : Hid (Rl.rdT yl R c (P ++ [t]) = Z) := hst.symm
              have hLZ : yl.length + E.length + (P ++ [t]).length ≤ s.size := by simp; omega
              have hpe : P.length + 1 = (P ++ [t]).length := by simp
              rw [hpe] at HGb7 HOw7 HFar7
              clear hst hpe
              go_wp2
              go_roundw
              case rel => exact ⟨yl, R, c, P ++ [t], E, o5, k5, rfl, hLZ, hStZ, hE0, HRp7, HOw7, HFar7, HGb7, HB7⟩
              case measure => simp [strLenR, szL]; omega
          · go_simp
            refine hK _ _ ?_
            clear hK K
            go_simp
            refine wpAny_ready (rs := [1]) (by kernel_rfl) (by simp) ?_
            refine AllReady.cons rfl (fun K hK => ?_) AllReady.nil
            go_simp
            refine hK _ _ ?_
            clear hK K
            go_simp
            refine wpAny_ready (rs := [6]) (by kernel_rfl) (by simp) ?_
            refine AllReady.cons rfl (fun K hK => ?_) AllReady.nil
            first | rw [← HW5.out] | skip
            refine opAppX _ _ rfl (GP + 1) (.slice lo_ P.length lc) P rfl hOw5.out t w4.heap.size 1 rfl Hn0.out (by omega) (by rw [Hs5.out]; have := Hs4.out; omega) ?_
            intro y5 w6 hx6 hg6 hv6
            have hlow : ∀ k, (Value.slice lo_ P.length lc).ownBlock = some k → GP + 1 ≤ k := fun k hk => (World.ownsRow.lt hOw5.out k hk).1
            have hGb6 : w6.heap[GP]? = some (.cells #[.int .i64 c, .slice lo_ P.length lc] 34 (0, 0)) := (hg6.block GP (by rw [Hs5.out]; have := Hs4.out; omega) (fun e => by have := hlow _ e.symm; omega)).trans hGb5.out
            have hB6 : Below GP W w6 := hB5.out.grown hg6 (by rw [Hs5.out]; have := Hs4.out; omega) (fun k hk => by have := hlow k hk; omega)
            have hRp6 := hRp5.out.keepFar hOw5.out hg6 hFar.out
            have hFar6 := far_new hRp5.out (Nat.le_refl _) hFar.out hv6
            obtain ⟨o5, k5, hv5⟩ := hx6.shape
            rw [show (P ++ [t]).length = P.length + 1 from by simp] at hv5
            subst hv5
            obtain ⟨y0e, y1e⟩ := two_cellsI hGb6
            have f0e := two_frozenI hGb6 0
            have f1e := two_frozenI hGb6 1
            have hsz6 : W5.heap.size ≤ w6.heap.size := hg6.size
            refine hK _ _ ?_
            clear hK K
            go_simp
            refine wpAny_take (i := 7) (v := .pointer (some ⟨GP, 1, none⟩)) rfl (by kernel_rfl) (by kernel_rfl) (by kernel_rfl) (fun _ _ _ h => h) (Or.inl ⟨by rfl, ?_⟩) ?_
            · intro w
              go_simp
              all_goals first | done | (intro h; exfalso; omega) | omega
            go_simp
            refine wpAny_ready (rs := [8]) (by kernel_rfl) (by simp) ?_
            refine AllReady.cons rfl (fun K hK => ?_) AllReady.nil
            go_simp
            refine hK _ _ ?_
            clear hK K
            go_simp
            refine wpAny_done (by kernel_rfl) ?_ _
            obtain ⟨w7, hw7⟩ : ∃ w7, w7 = w6.setCell ⟨GP, 1, none⟩ (.slice o5 (P.length + 1) k5) := ⟨_, rfl⟩
            have gr7 : w6.grownBy w7 (some GP) := by rw [hw7]; exact grG_set w6 GP 1 _
            have hGb7 : w7.heap[GP]? = some (.cells #[.int .i64 c, .slice o5 (P.length + 1) k5] 34 (0, 0)) := by rw [hw7]; simp [World.setCell, Array.getElem?_modify, hGb6]
            have hRp7 : Rp (GP + 1) u3 E w7 := by rw [hw7]; exact hRp6.set (by omega)
            have hOw7 : OwnX (GP + 1) (.slice o5 (P.length + 1) k5) (P ++ [t]) w7 := hx6.keep gr7 (by
              cases ho : (Value.slice o5 (P.length + 1) k5).ownBlock with
              | none => exact .inl rfl
              | some k => exact .inr (by have := (World.ownsRow.lt hx6 k ho).1; intro e; cases e; omega))
            have hB7 : Below GP W w7 := by rw [hw7]; exact hB6.setCell (p := ⟨GP, 1, none⟩) (Nat.le_refl _) _
            have hs7 : w7.heap.size = w6.heap.size := by rw [hw7]; simp [World.setCell]
            have hGs7 : GP < w7.heap.size := heap_lt hGb7
            have HGb7 := mkHid hGb7
            have HRp7 := mkHid hRp7
            have HOw7 := mkHid hOw7
            have HB7 := mkHid hB7
            have HFar7 : Hid (∀ (i : Nat) (hi : i < E.length), Far E[i].2 (.slice o5 (P.length + 1) k5)) := hFar6
            have Hw7 := mkHid hw7
            obtain ⟨y0f, y1f⟩ := two_cellsI hGb7
            have f0f := two_frozenI hGb7 0
            have f1f := two_frozenI hGb7 1
            clear gr7 hGb7 hRp7 hOw7 hB7 hw7 hRp6 hFar6 hx6 hg6 hv6 hlow hGb6 hB6 y0e y1e f0e f1e hsz6 hs7 hGb5 hRp5 hOw5 hB5 Hn0 HW5 Hs5 Hs4 y1c y1d y1h y0b y1b HGb3 HRp3 HOw3 HB3 Hs3 Hw3 hFar
            rw [← Hw7.out]
            clear Hw7
            cases mo
            · have x32 : (((T[3]'g3).toNat : Int) == 32) = true := hm32
              have hst := HST3.out
              rw [if_neg (by simp)] at hst
              obtain ⟨W8, hW8⟩ : ∃ W8, W8 = w7.alloc (.cells #[.int .i64 c, .slice o5 (P.length + 1) k5] 34) := ⟨_, rfl⟩
              have b8 : Below w7.heap.size w7 W8 := by rw [hW8]; exact (Below.refl _ _).alloc (Nat.le_refl _) _
              have hblk : W8.heap[w7.heap.size]? = some (.cells #[.int .i64 c, .slice o5 (P.length + 1) k5] 34 (0, 0)) := by rw [hW8]; exact heap_alloc_at _ _
              obtain ⟨n0, n1⟩ := two_cellsI hblk
              have hRp8 := mkHid (HRp7.out.below b8)
              have hOw8 := mkHid (HOw7.out.below b8)
              have hGb8 := mkHid ((b8.block GP hGs7).trans HGb7.out)
              have hB8 := mkHid (HB7.out.trans (b8.mono (by omega)))
              have hs8 : Hid (W8.heap.size = w7.heap.size + 1) := show _ = _ from by rw [hW8]; simp
              have HW8 := mkHid hW8
              have N0 := mkHid n0
              have N1 := mkHid n1
              clear hW8 b8 hblk n0 n1
              go_wp2_with (at_builtin; go_must (rw [← HW8.out]; refine wp_appRp rfl _ _ rfl (GP + 1) u3 E rfl hRp8.out.row ((⟨c, P ++ [t]⟩ : GReply), Value.slice o5 (P.length + 1) k5) w7.heap.size 1 rfl N0.out N1.out rfl (by omega) (by rw [hs8.out]; omega) ?_; intro v9 w9 hrow9 hg9; refine Hid.out ?_))
              refine mkHid ?_
              have hRp9 := hRp8.out.push hOw8.out HFar7.out hrow9 hg9
              have hlow9 : ∀ k, u3.ownBlock = some k → GP + 1 ≤ k := fun k hk => (World.ownsRow.lt hRp8.out.row k hk).1
              have hGb9 : w9.heap[GP]? = some (.cells #[.int .i64 c, .slice o5 (P.length + 1) k5] 34 (0, 0)) := (hg9.block GP (by rw [hs8.out]; omega) (fun e => by have := hlow9 _ e.symm; omega)).trans hGb8.out
              have hB9 : Below GP W w9 := hB8.out.grown hg9 (by rw [hs8.out]; omega) (fun k hk => by have := hlow9 k hk; omega)
              obtain ⟨y0g, y1g⟩ := two_cellsI hGb9
              have f0g := two_frozenI hGb9 0
              have f1g := two_frozenI hGb9 1
              have hGbZ : Hid (((w9.setCell ⟨GP, 0, none⟩ (.int .i64 0)).setCell ⟨GP, 1, none⟩ (.slice none 0 0)).heap[GP]? = some (.cells #[.int .i64 0, .slice none 0 0] 34 (0, 0))) := show _ = _ from by simp [World.setCell, Array.getElem?_modify, hGb9]
              have hRpZ := mkHid ((hRp9.set (R0 := GP) (j := 0) (u := .int .i64 0) (by omega)).set (R0 := GP) (j := 1) (u := .slice none 0 0) (by omega))
              have hBZ := mkHid ((hB9.setCell (p := ⟨GP, 0, none⟩) (Nat.le_refl _) (.int .i64 0)).setCell (p := ⟨GP, 1, none⟩) (Nat.le_refl _) (.slice none 0 0))
              have hEZ : Hid ((E ++ [((⟨c, P ++ [t]⟩ : GReply), Value.slice o5 (P.length + 1) k5)]).map (·.1) = R ++ [⟨c, P ++ [t]⟩]) := show _ = _ from by rw [List.map_append, hE0.out]; rfl
              have hLZ : yl.length + (E ++ [((⟨c, P ++ [t]⟩ : GReply), Value.slice o5 (P.length + 1) k5)]).length + ([] : List ByteArray).length ≤ s.size := by simp; omega
              have hStZ : Hid (Rl.rdT yl (R ++ [⟨c, P ++ [t]⟩]) 0 [] = Z) := hst.symm
              clear hRp9 hGb9 hB9 hg9 hrow9 hlow9 hRp8 hOw8 hGb8 hB8 hst
              generalize (E ++ [((⟨c, P ++ [t]⟩ : GReply), Value.slice o5 (P.length + 1) k5)]) = E9 at *
              go_wp2
              go_roundw
              case rel => exact ⟨yl, _, 0, [], E9, none, 0, rfl, hLZ, hStZ, hEZ, hRpZ, OwnX.nil _ _, fun i hi => by cases ho : E9[i].2.ownBlock with | none => exact .inl ho | some k => exact .inr (by rw [ho]; simp [Value.ownBlock]), hGbZ, hBZ⟩
              case measure => simp [strLenR, szL]; omega
            · have x32 : (((T[3]'g3).toNat : Int) == 32) = false := hm32
              have hst := HST3.out
              rw [if_pos rfl] at hst
              have hStZ : Hid (Rl.rdT yl R c (P ++ [t]) = Z) := hst.symm
              have hLZ : yl.length + E.length + (P ++ [t]).length ≤ s.size := by simp; omega
              have hpe : P.length + 1 = (P ++ [t]).length := by simp
              rw [hpe] at HGb7 HOw7 HFar7
              clear hst hpe
              go_wp2
              go_roundw
              case rel => exact ⟨yl, R, c, P ++ [t], E, o5, k5, rfl, hLZ, hStZ, hE0, HRp7, HOw7, HFar7, HGb7, HB7⟩
              case measure => simp [strLenR, szL]; omega
end Go.Proofs.YtmclnkcpflehdaaDoor
