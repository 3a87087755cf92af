
/- The specification's ReadFilter. (By tools/gen/rftop.py.) -/
import Derived.Test.YtlphojaeaogehaaGreatDoorRfDeep
import Derived.Test.YtlphojaeaogehaaGreatDoorHeadTests
import Derived.Test.YtlphojaeaogehaaGreatDoorRfLex
namespace Go.Proofs.YtlphojaeaogehaaGreatDoor
open Go.RowKit Go.Lib Go.Maps
def Rf.fin (l : List UInt8) (T : List Rf.Tk) : Rf.Out → Int × Nat × List Nd
  | .bad j => (3, Rf.line l (Rf.pos T j), [])
  | .ok _ N => if (N.any Rf.long || (decide (2000 < N.length) || decide (20 < Tr.depTo (Fn.kids N) N.length (N.length - 1)))) = true then (4, 0, []) else (0, 0, N)
def Rf.ans (l : List UInt8) : Int × Nat × List Nd := Rf.fin l (Rf.tk l) (Rf.script (Rf.tk l))
set_option maxRecDepth 20000 in
theorem Rf.fin_bad {l : List UInt8} {T : List Rf.Tk} {j : Nat} {N : List Nd} (h : (N.any Rf.long || (decide (2000 < N.length) || decide (20 < Tr.depTo (Fn.kids N) N.length (N.length - 1)))) = true) : Rf.fin l T (.ok j N) = (4, 0, []) := if_pos h
set_option maxRecDepth 20000 in
theorem Rf.fin_ok {l : List UInt8} {T : List Rf.Tk} {j : Nat} {N : List Nd} (h : (N.any Rf.long || (decide (2000 < N.length) || decide (20 < Tr.depTo (Fn.kids N) N.length (N.length - 1)))) = false) : Rf.fin l T (.ok j N) = (0, 0, N) := if_neg (Bool.eq_false_iff.1 h)
set_option maxRecDepth 20000 in
theorem tks_of (l : List UInt8) (hl : l.length ≤ 10000) : Tks l (Rf.tk l) ((Rf.tk l).map (Rf.en l)) := by
  obtain ⟨h1, h2⟩ := Rf.tk_one l
  refine ⟨rfl, by omega, ?_, ?_⟩
  · intro e he hk
    obtain ⟨t, ht, rfl⟩ := List.mem_map.1 he
    obtain ⟨n1, n2, n3⟩ := h1.num t ht hk
    refine ⟨by show 1 ≤ (Rf.ba t.text).size; rw [Rf.ba_size]; exact n1, by show (Rf.ba t.text).size ≤ 9; rw [Rf.ba_size]; exact n2, ?_⟩
    show (Rf.ba t.text).toList.all Rf.digK = true
    rw [Rf.ba_list]
    exact n3
  · intro i hi a b
    have e : Rf.kind (Rf.tk l) i = (Rf.tk l)[i].kind := by unfold Rf.kind; rw [List.getElem?_eq_getElem hi]; rfl
    rw [e] at a b
    exact h1.nxt i hi a b
set_option maxRecDepth 20000 in
theorem tks_small (l : List UInt8) (hl : l.length ≤ 10000) : Rf.Small (Rf.tk l) := fun t ht => Nat.le_trans ((Rf.tk_one l).1.small t ht) hl
set_option maxRecDepth 20000 in
theorem Tks.line {l : List UInt8} {T : List Rf.Tk} {TE : List TkE} (h : Tks l T TE) (i : Nat) (hi : i < TE.length) : TE[i].2.2 = Rf.line l (Rf.pos T i) := by
  have h2 : i < T.length := by rw [← h.length]; exact hi
  obtain rfl := h.map
  simp [Rf.pos, Rf.en, List.getElem?_eq_getElem h2]
set_option maxRecDepth 20000 in
theorem Nt.lower {B B' : Nat} {v : Value} {E : List NdE} {w : World} (h : Nt B v E w) (hB : B' ≤ B) : Nt B' v E w :=
  ⟨own_base h.row hB, fun s hs => ⟨(h.own s hs).1, fun hn => own_base ((h.own s hs).2 hn) hB⟩, h.sep, fun s hs => ⟨(h.ownN s hs).1, fun hn => own_base ((h.ownN s hs).2 hn) hB⟩, h.sepN⟩
set_option maxRecDepth 20000 in
theorem good_fits {T : List Rf.Tk} {N : List Nd} (h : Rf.Good T N) (hT : T.length ≤ 30000) : (∀ n ∈ N, n.fits 1048576) ∧ ∀ i, i < N.length → ∀ k ∈ Fn.kids N i, 0 ≤ k ∧ k < (i : Int) := by
  refine ⟨fun n hn => ?_, fun i hi k hk => ?_⟩
  · obtain ⟨i, hi, rfl⟩ := List.getElem_of_mem hn
    have := h i hi
    exact ⟨Nat.le_trans this.text (by omega), Nat.le_trans this.nl (by omega), fun t ht => Nat.le_trans (this.ns t ht) (by omega), Nat.le_trans this.yl (by omega), fun t ht => Nat.le_trans (this.ys t ht) (by omega), Nat.le_trans this.kl (by omega)⟩
  · unfold Fn.kids at hk
    rw [List.getElem?_eq_getElem hi] at hk
    exact (h i hi).kids k hk
set_option maxRecDepth 20000 in
theorem Nt.setRow {B R0 : Nat} {v : Value} {E : List NdE} {w : World} (h : Nt B v E w) (hR : R0 < B) (cs : Array Value) : Nt B v E (w.setRow R0 cs) := by
  have key : ∀ (x : Value), (∀ k, x.ownBlock = some k → B ≤ k) → x.ownBlock = none ∨ x.ownBlock ≠ some R0 := by
    intro x hx
    cases ho : x.ownBlock with
    | none => exact .inl rfl
    | some k => exact .inr (by have := hx k ho; intro e; cases e; omega)
  refine h.grown (grown_setRow w R0 cs) (key _ fun k hk => (World.ownsRow.lt h.row k hk).1) (fun s hs => ?_) (fun s hs => ?_)
  · by_cases hn : s.2 = []
    · exact .inl hn
    · exact .inr (key _ fun k hk => (World.ownsRow.lt ((h.own s hs).2 hn) k hk).1)
  · by_cases hn : s.2 = []
    · exact .inl hn
    · exact .inr (key _ fun k hk => (World.ownsRow.lt ((h.ownN s hs).2 hn) k hk).1)
def Rf.topEnd : Rf.KO → Rf.Out
  | .ok i N ks => .ok i (N ++ [{ Rf.zn 1 with kids := ks }])
  | .bad j => .bad j
set_option maxRecDepth 20000 in
theorem Rf.script_eq (T : List Rf.Tk) : Rf.script T = Rf.topEnd (Rf.all T (Rf.lv T T.length).2 T.length 0 [] []) := by
  unfold Rf.script
  cases Rf.all T (Rf.lv T T.length).2 T.length 0 [] [] <;> rfl
/-- A script that is being read. -/
def TopInv (g : Nat) (tv : Value) (T : List Rf.Tk) (TE : List TkE) (w : World) (B : Nat) (R : Rf.Out) (C : Nat → List Nd → Rf.Out) (wr : World) : Prop :=
  ∃ (j : Nat) (bd mn : Bool) (v' vd : Value) (A : List NdE) (ks : List Int) (F : Nat), j < T.length ∧ T.length ≤ j + F ∧ ks.length ≤ j + 1 ∧ (bd = false → ks.length ≤ j) ∧ A.length ≤ 3 * j ∧ Hid (Fm g tv TE (.slice none 0 0) [] w B { Rf.zn 1 with kids := ks } (.slice none 0 0) (.slice none 0 0) vd j bd mn v' A wr) ∧ Hid (bd = true → R = .bad j) ∧ Hid (bd = false → R = Rf.topEnd (Rf.all T C F j (A.map (·.1)) ks) ∧ mn = big A)
set_option maxRecDepth 20000 in
set_option maxHeartbeats 8000000 in
theorem specReadBig (s : ByteArray) (w : World) (hs : 10000 < s.size) :
    Calls Tryz.prog 4 #[.string s] w fun e w' => e = .returned (.agg #[.int .i64 2, .int .i64 0, .slice none 0 0]) ∧ Below w.heap.size w w' := by
  obtain ⟨W1, hW1⟩ : ∃ W1, w.alloc (.cells #[.int .i64 0, .int .i64 0, .slice none 0 0] 24) = W1 := ⟨_, rfl⟩
  have hr1 : W1.heap[w.heap.size]? = some (.cells #[.int .i64 0, .int .i64 0, .slice none 0 0] 24 (0, 0)) := by rw [← hW1]; exact heap_alloc_at _ _
  have hb1 : Below w.heap.size w W1 := by rw [← hW1]; exact (Below.refl _ _).alloc (Nat.le_refl _) _
  have HW1 := mkHid hW1
  have Hb1 := mkHid hb1
  clear hW1 hb1
  go_enter Tryz.func4, Tryz.ntmps4
  go_wp2_with (first | (rw [HW1.out]; refine wpL_store_row rfl 24 _ _ rfl w.heap.size #[.int .i64 2, .int .i64 0, .slice none 0 0] rfl rfl 24 _ hr1 (by kernel_rfl) rfl (by simp [Value.oneCell']) ?_) | go_in)
  refine bodyPost_ret (v := .agg #[.int .i64 2, .int .i64 0, .slice none 0 0]) (results_cell_row Tryz.results4 _ _ w.heap.size 24 _ (0, 0) _ rfl (setRow_heap _ _ _ _ _ _ hr1) Tryz.underlying24 rfl (by kernel_rfl)) rfl ?_
  exact ⟨rfl, Hb1.out.grown (grown_setRow _ _ _) Hb1.out.size (fun j hj => by cases hj; exact Nat.le_refl _)⟩
set_option maxRecDepth 20000 in
set_option maxHeartbeats 16000000 in
theorem specReadF (s : ByteArray) (w : World) (hs : s.size ≤ 10000) :
    Calls Tryz.prog 4 #[.string s] w fun e w' => ∃ v E, e = .returned (.agg #[.int .i64 (Rf.ans s.data.toList).1, .int .i64 ((Rf.ans s.data.toList).2.1 : Int), v]) ∧ Nt w.heap.size v E w' ∧ E.map (·.1) = (Rf.ans s.data.toList).2.2 ∧ Below w.heap.size w w' := by
  obtain ⟨l, hl⟩ : ∃ l, s.data.toList = l := ⟨_, rfl⟩
  have hn : l.length = s.size := by rw [← hl]; simp
  obtain ⟨T, hT⟩ : ∃ T, Rf.tk l = T := ⟨_, rfl⟩
  obtain ⟨Z, hZ⟩ : ∃ Z, Rf.ans l = Z := ⟨_, rfl⟩
  obtain ⟨R, hR⟩ : ∃ R, Rf.script T = R := ⟨_, rfl⟩
  have hZR : Z = Rf.fin l T R := by rw [← hZ, ← hR, ← hT]; rfl
  rw [hl, hZ]
  have hsm : Rf.Small T := by rw [← hT]; exact tks_small l (by omega)
  have hT1 : T.length ≤ 10001 := by have := (Rf.tk_one l).2; rw [hT] at this; omega
  have hT0 : 0 < T.length := by have := (Rf.tk_one l).1.pos; rw [hT] at this; exact this
  have hK : Tks l T (T.map (Rf.en l)) := by rw [← hT]; exact tks_of l (by omega)
  have hSz : ∀ e ∈ T.map (Rf.en l), e.2.1.size ≤ 1048576 := by
    intro e he
    obtain ⟨t, ht, rfl⟩ := List.mem_map.1 he
    show (Rf.ba t.text).size ≤ _
    rw [Rf.ba_size]
    exact Nat.le_trans (hsm t ht) (by omega)
  obtain ⟨W1, hW1⟩ : ∃ W1, w.alloc (.cells #[.int .i64 0, .int .i64 0, .slice none 0 0] 24) = W1 := ⟨_, rfl⟩
  have hr1 : W1.heap[w.heap.size]? = some (.cells #[.int .i64 0, .int .i64 0, .slice none 0 0] 24 (0, 0)) := by rw [← hW1]; exact heap_alloc_at _ _
  have hb1 : Below w.heap.size w W1 := by rw [← hW1]; exact (Below.refl _ _).alloc (Nat.le_refl _) _
  have hs1 : w.heap.size < W1.heap.size := by rw [← hW1]; simp
  have kL := mkHid (specLex s W1 hs)
  have HW1 := mkHid hW1
  have Hb1 := mkHid hb1
  have Hr1 := mkHid hr1
  have HZ := mkHid hZR
  have HR := mkHid hR
  have Hl := mkHid hl
  have HT := mkHid hT
  have Hsm := mkHid hsm
  have HK := mkHid hK
  have HSz := mkHid hSz
  clear hW1 hb1 hr1 hZ hZR hR hl hT hsm hK hSz
  go_enter Tryz.func4, Tryz.ntmps4
  go_wp2_with (go_at_call 9; fail)
  rw [HW1.out]
  refine kL.out.mono ?_
  rintro e w2 ⟨tv, TE, rfl, hO, hE, hb2⟩
  have hTE : TE = T.map (Rf.en l) := by rw [hE.out, Hl.out, ← hn, ← HT.out]; rfl
  rw [← hTE] at HK HSz
  have hll1 : TE.length ≤ T.length := by rw [HK.out.length]; exact Nat.le_refl _
  have hll2 : T.length ≤ TE.length := by rw [HK.out.length]; exact Nat.le_refl _
  clear hTE hE
  have hr2 := (hb2.block w.heap.size hs1).trans Hr1.out
  have hs2 := hb2.size
  have Hb2 := mkHid (Hb1.out.trans (hb2.mono (Nat.le_of_lt hs1)))
  have Hr2 := mkHid hr2
  obtain ⟨o, cap, htv⟩ := hO.out.shape
  obtain ⟨g, hg⟩ : ∃ g, w2.heap.size = g := ⟨_, rfl⟩
  obtain ⟨W3, hW3⟩ : ∃ W3, w2.alloc (.cells #[tv, .int .i64 0, .bool false, .bool false, .slice none 0 0] 33) = W3 := ⟨_, rfl⟩
  have b3 : Below w2.heap.size w2 W3 := by rw [← hW3]; exact (Below.refl _ _).alloc (Nat.le_refl _) _
  have s3 : W3.heap.size = g + 1 := by rw [← hW3, ← hg]; simp
  have R3 : Rs g tv TE 0 false false (.slice none 0 0) [] W3 := ⟨by rw [← hW3, ← hg]; exact heap_alloc_at _ _, own_base (hO.out.below b3) (Nat.zero_le _), Nt.nil _ _⟩
  have hown : ∀ k, tv.ownBlock = some k → w.heap.size < k := fun k hk => by have := (World.ownsRow.lt hO.out k hk).1; omega
  replace hown := mkHid hown
  have S0 := mkHid (Fm.start (by omega) R3 (Ef.refl2 _ _ _) 1)
  obtain ⟨B, hB⟩ : ∃ B, W3.heap.size = B := ⟨_, rfl⟩
  obtain ⟨W4, hW4⟩ : ∃ W4, W3.alloc (.cells #[.int .i64 1, .int .i64 0, .int .i64 0, .string ⟨#[]⟩, .slice none 0 0, .slice none 0 0, .slice none 0 0] 37) = W4 := ⟨_, rfl⟩
  rw [hB, show W3.alloc (.cells (sevC (Rf.zn 1) (.slice none 0 0) (.slice none 0 0) (.slice none 0 0)) 37) = W4 from hW4] at S0
  have Hb3 := mkHid (Hb2.out.trans (b3.mono Hb2.out.size))
  have Hr3 := mkHid ((b3.block w.heap.size (by omega)).trans Hr2.out)
  have hgw : w.heap.size < g := by omega
  have hBg : B = g + 1 := by omega
  have hBg2 : g < B := by omega
  replace hBg := mkHid hBg
  have hg3 : g < W3.heap.size := by omega
  replace s3 := mkHid s3
  have HLv := mkHid (fun f => (specLv g tv l T TE HK.out (by omega) HSz.out f).2)
  have HTop : Hid (TopInv g tv T TE W3 B R (Rf.lv T T.length).2 W4) := ⟨0, false, false, _, _, [], [], T.length, hT0, by omega, by simp, by simp, by simp, S0, fun e => (by cases e), fun _ => ⟨by rw [← HR.out]; exact Rf.script_eq T, rfl⟩⟩
  obtain ⟨C, hC⟩ : ∃ C, (Rf.lv T T.length).2 = C := ⟨_, rfl⟩
  replace HLv := mkHid (HLv.out T.length)
  rw [hC] at HTop HLv
  have HW3 := mkHid hW3
  have HW4 := mkHid hW4
  have Hg := mkHid hg
  have HB := mkHid hB
  have HC := mkHid hC
  clear hW3 hW4 hg hB hO hb2 hr2 b3 R3 S0 kL hC
  subst htv
  go_wp2
  rw [HW3.out, HW4.out, Hg.out, ← hBg.out]
  generalize Value.slice o TE.length cap = tv at *
  clear HW3 HW4 Hg HB
  go_loopw [] (fun wr => TopInv g tv T TE W3 B R C wr) (fun wr => blkM T g wr)
  case atStart => exact HTop.out
  case round =>
    clear HTop
    obtain ⟨j, bd, mn, v', vd, A, ks, F, hj, hF, hks, hks2, hcn, S, R1, R2⟩ := hrel
    have c1' := mkHid (five S.out.rs.blk).2.1
    have c2' := mkHid (five S.out.rs.blk).2.2.1
    obtain ⟨F, rfl⟩ : ∃ F', F = F' + 1 := ⟨F - 1, by omega⟩
    have hr5 := mkHid ((S.out.ef.keep w.heap.size (by omega) (by omega) (by simp [Value.ownBlock])).trans Hr3.out)
    obtain ⟨c0, c1, c2, c3, c4⟩ := five S.out.rs.blk
    obtain ⟨o, cap, htv⟩ := S.out.rs.tks.shape
    have htk := S.out.rs.tks
    rw [htv] at htk c0
    replace htv := mkHid htv
    have hj4 : j < TE.length := by omega
    obtain ⟨q, ho, -, -, e0, e1, e2⟩ := htk.at j hj4
    subst ho
    clear htk
    have hii : ((j : Nat) : Int) < (TE.length : Int) := by omega
    have hkd := HK.out.kind j hj4
    have hln := HK.out.line j hj4
    generalize TE[j].1 = k1 at *
    generalize TE[j].2.1 = t1 at *
    generalize TE[j].2.2 = ln at *
    cases bd
    · have hks2 := hks2 rfl
      obtain ⟨hRb, hmn⟩ := R2.out rfl
      replace hRb := mkHid hRb
      replace hmn := mkHid hmn
      clear R1 R2
      by_cases hk : k1 = 101
      · have hk1 : ((k1 : Int) != 101) = false := by rw [bne_eq_false_iff_eq, hk]; rfl
        have hkr : Hid (Rf.kind T j = 101) := show _ = _ from by rw [← hkd]; exact hk
        clear hk hkd
        go_wp2
        go_quiet (fail)
        have bN : Below wr.heap.size wr (wr.drewN nq) := below_drewN (Below.refl _ _) nq
        obtain ⟨V, hV⟩ : ∃ V, wr.drewN nq = V := ⟨_, rfl⟩
        rw [hV] at bN
        have S1 := mkHid (S.out.small (S.out.rs.below bN) (Ef.of_below bN))
        have HV := mkHid hV
        clear S bN hV c0 c1 c2 c3 c4 e0 e1 e2
        obtain ⟨c0, c1, c2, c3, c4⟩ := five S1.out.rs.blk
        rw [htv.out] at c0
        obtain ⟨oD, cD, eD⟩ := own_shape S1.out.od
        subst eD
        have hbk := S1.out.blk
        have d0 : V.cell? ⟨B, 0, none⟩ = some (.int .i64 1) := by simp [World.cell?, hbk]; rfl
        have d1 : V.cell? ⟨B, 1, none⟩ = some (.int .i64 0) := by simp [World.cell?, hbk]; rfl
        have d2 : V.cell? ⟨B, 2, none⟩ = some (.int .i64 0) := by simp [World.cell?, hbk]; rfl
        have d3 : V.cell? ⟨B, 3, none⟩ = some (.string ⟨#[]⟩) := by simp [World.cell?, hbk]; rfl
        have d4 : V.cell? ⟨B, 4, none⟩ = some (.slice none 0 0) := by simp [World.cell?, hbk]
        have d5 : V.cell? ⟨B, 5, none⟩ = some (.slice none 0 0) := by simp [World.cell?, hbk]
        have d6 : V.cell? ⟨B, 6, none⟩ = some (.slice oD ks.length cD) := by simp [World.cell?, hbk]
        clear hbk
        rw [← HV.out] at c0 c1 c2 c3 c4 d0 d1 d2 d3 d4 d5 d6
        have kP := mkHid (S1.out.put (by simp; omega))
        clear S1
        go_wp2_with (go_at_call 11; fail)
        rw [HV.out]
        refine kP.out.mono ?_
        rintro e w9 ⟨rfl, v9, h9, e9, n9, f9, g9⟩
        clear d0 d1 d2 d3 d4 d5 d6 kP c0 c1 c2 c3 c4 HV
        rw [List.nil_append] at h9
        obtain ⟨E9, hE9⟩ : ∃ E9, A ++ [(({ Rf.zn 1 with kids := ks } : Nd), (.slice none 0 0 : Value), (.slice none 0 0 : Value), Value.slice oD ks.length cD)] = E9 := ⟨_, rfl⟩
        rw [hE9] at h9
        obtain ⟨N, hN⟩ : ∃ N, E9.map (·.1) = N := ⟨_, rfl⟩
        have hNl : N.length = E9.length := by rw [← hN, List.length_map]
        have hRR : R = .ok j N := by
          rw [hRb.out, Rf.all, if_pos (by rw [hkr.out]; rfl), ← hN, ← hE9]
          simp [Rf.topEnd]
        have hbig : N.any Rf.long = mn := by
          rw [hmn.out, ← hN, ← hE9]
          simp [big, Rf.long, List.any_map, List.any_append, Rf.zn]
          rfl
        obtain ⟨hgood, hpos⟩ := Rf.script_ok Hsm.out (HR.out.trans hRR)
        have hz : Z = Rf.fin l T (.ok j N) := by rw [HZ.out, hRR]
        have hr9 := (e9.keep w.heap.size (by omega) (by omega) (by simp [Value.ownBlock])).trans Hr3.out
        have hb9 : Below w.heap.size w w9 := ⟨e9.os.trans Hb3.out.os, e9.tape.trans Hb3.out.tape, e9.output.trans Hb3.out.output, Nat.le_trans Hb3.out.size e9.size, fun k hk => (e9.keep k (by omega) (by omega) (by simp [Value.ownBlock])).trans (Hb3.out.block k hk)⟩
        obtain ⟨o9, c9, ev9⟩ := h9.nt.shape
        subst ev9
        obtain ⟨c0, c1, c2, c3, c4⟩ := five h9.blk
        have hnt := mkHid h9.nt
        have hl9 : E9.length ≤ 100000 := by rw [← hE9]; simp; omega
        have Hz := mkHid hz
        have Hb9 := mkHid hb9
        have HN := mkHid hN
        clear hz hb9 hE9 hN hRR e9 n9 f9 g9 hmn hRb
        obtain ⟨n9, hn9⟩ : ∃ n9, E9.length = n9 := ⟨_, rfl⟩
        rw [hn9] at c4 hnt hNl hl9
        have hds := mkHid (by have := h9.nt.nds; rw [HN.out] at this; exact this : Nds w9.heap.size w9 o9 N)
        clear h9 hn9
        have bad4 : (N.any Rf.long || (decide (2000 < N.length) || decide (20 < Tr.depTo (Fn.kids N) N.length (N.length - 1)))) = true → ∃ v E, Ending.returned (.agg #[.int .i64 4, .int .i64 0, .slice none 0 0]) = .returned (.agg #[.int .i64 Z.1, .int .i64 (Z.2.1 : Int), v]) ∧ Nt w.heap.size v E (w9.setRow w.heap.size #[.int .i64 4, .int .i64 0, .slice none 0 0]) ∧ E.map (·.1) = Z.2.2 := by
          intro h
          have e : Z = (4, 0, []) := by rw [Hz.out]; exact Rf.fin_bad h
          rw [e]
          exact ⟨_, [], rfl, Nt.nil _ _, rfl⟩
        replace bad4 := mkHid bad4
        have Hbig := mkHid hbig
        have HNl := mkHid hNl
        clear hbig hNl
        cases mn
        · by_cases h2 : 2000 < n9
          · have hx := mkHid (bad4.out (by rw [HNl.out, decide_eq_true h2]; simp))
            have dh : decide ((2000 : Int) < (n9 : Int)) = true := decide_eq_true (by omega)
            clear bad4
            go_wp2_with (first | (refine wpL_store_row rfl 24 _ _ rfl w.heap.size #[.int .i64 4, .int .i64 0, .slice none 0 0] rfl rfl 24 _ hr9 (by kernel_rfl) rfl (by simp [Value.oneCell']) ?_) | go_in)
            refine bodyPost_ret (v := .agg #[.int .i64 4, .int .i64 0, .slice none 0 0]) (results_cell_row Tryz.results4 _ _ w.heap.size 24 _ (0, 0) _ rfl (setRow_heap _ _ _ _ _ _ hr9) Tryz.underlying24 rfl (by kernel_rfl)) rfl ?_
            obtain ⟨v, E, x1, x2, x3⟩ := hx.out
            exact ⟨v, E, x1, x2, x3, Hb9.out.grown (grown_setRow _ _ _) Hb9.out.size (fun j hj => by cases hj; exact Nat.le_refl _)⟩
          · have dh : decide ((2000 : Int) < (n9 : Int)) = false := decide_eq_false (by omega)
            have hgf := good_fits hgood (by omega)
            have kD := mkHid (by have := specDeep o9 N c9 w9 hds.out (by rw [HNl.out]; omega) hpos hgf.1 hgf.2; rw [HNl.out] at this; exact this)
            obtain ⟨dp, hdp⟩ : ∃ dp, Tr.depTo (Fn.kids N) n9 (n9 - 1) = dp := ⟨_, rfl⟩
            rw [hdp] at kD
            rw [HNl.out, hdp] at bad4
            replace hdp := mkHid hdp
            clear hgf
            go_wp2_with (go_at_call 12; fail)
            refine kD.out.mono ?_
            rintro e w10 ⟨rfl, hb10⟩
            have hs9 : w.heap.size < w9.heap.size := heap_ltM hr9
            have hg9 : g < w9.heap.size := World.block_lt_of_cell? _ _ c0
            have hr10 := (hb10.block w.heap.size hs9).trans hr9
            have Hb10 := mkHid (Hb9.out.trans (hb10.mono Hb9.out.size))
            have c4' := (hb10.cell (p := ⟨g, 4, none⟩) hg9).trans c4
            have hnt10 := mkHid (hnt.out.below hb10)
            clear kD hb10 c0 c1 c2 c3 c4 hnt hr9
            by_cases h20 : 20 < dp
            · have dd : decide ((20 : Int) < (dp : Int)) = true := decide_eq_true (by omega)
              have hZ4 : Hid (Z = (4, 0, [])) := by
                show _ = _
                rw [Hz.out]
                exact Rf.fin_bad (by rw [HNl.out, hdp.out, decide_eq_true h20]; simp)
              clear bad4
              go_wp2_with (first | (refine wpL_store_row rfl 24 _ _ rfl w.heap.size #[.int .i64 4, .int .i64 0, .slice none 0 0] rfl rfl 24 _ hr10 (by kernel_rfl) rfl (by simp [Value.oneCell']) ?_) | go_in)
              refine bodyPost_ret (v := .agg #[.int .i64 4, .int .i64 0, .slice none 0 0]) (results_cell_row Tryz.results4 _ _ w.heap.size 24 _ (0, 0) _ rfl (setRow_heap _ _ _ _ _ _ hr10) Tryz.underlying24 rfl (by kernel_rfl)) rfl ?_
              rw [hZ4.out]
              exact ⟨_, [], rfl, Nt.nil _ _, rfl, Hb10.out.grown (grown_setRow _ _ _) Hb10.out.size (fun j hj => by cases hj; exact Nat.le_refl _)⟩
            · have dd : decide ((20 : Int) < (dp : Int)) = false := decide_eq_false (by omega)
              have hZ0 : Hid (Z = (0, 0, N)) := by
                show _ = _
                rw [Hz.out]
                exact Rf.fin_ok (by rw [Hbig.out, HNl.out, hdp.out, decide_eq_false h20, decide_eq_false h2]; simp)
              clear bad4
              go_wp2_with (first | (refine wpL_store_row rfl 24 _ _ rfl w.heap.size #[.int .i64 0, .int .i64 0, .slice o9 n9 c9] rfl rfl 24 _ hr10 (by kernel_rfl) rfl (by simp [Value.oneCell']) ?_) | go_in)
              refine bodyPost_ret (v := .agg #[.int .i64 0, .int .i64 0, .slice o9 n9 c9]) (results_cell_row Tryz.results4 _ _ w.heap.size 24 _ (0, 0) _ rfl (setRow_heap _ _ _ _ _ _ hr10) Tryz.underlying24 rfl (by kernel_rfl)) rfl ?_
              rw [hZ0.out]
              refine ⟨_, E9, rfl, ?_, HN.out, Hb10.out.grown (grown_setRow _ _ _) Hb10.out.size (fun j hj => by cases hj; exact Nat.le_refl _)⟩
              exact (hnt10.out.setRow (show w.heap.size < g + 1 by omega) _).lower (show w.heap.size ≤ g + 1 by omega)
        · have hx := mkHid (bad4.out (by rw [Hbig.out]; rfl))
          clear bad4
          go_wp2_with (first | (refine wpL_store_row rfl 24 _ _ rfl w.heap.size #[.int .i64 4, .int .i64 0, .slice none 0 0] rfl rfl 24 _ hr9 (by kernel_rfl) rfl (by simp [Value.oneCell']) ?_) | go_in)
          refine bodyPost_ret (v := .agg #[.int .i64 4, .int .i64 0, .slice none 0 0]) (results_cell_row Tryz.results4 _ _ w.heap.size 24 _ (0, 0) _ rfl (setRow_heap _ _ _ _ _ _ hr9) Tryz.underlying24 rfl (by kernel_rfl)) rfl ?_
          obtain ⟨v, E, x1, x2, x3⟩ := hx.out
          exact ⟨v, E, x1, x2, x3, Hb9.out.grown (grown_setRow _ _ _) Hb9.out.size (fun j hj => by cases hj; exact Nat.le_refl _)⟩
      · have hk1 : ((k1 : Int) != 101) = true := by rw [bne_iff_ne]; intro e; exact hk (by omega)
        have hkr : Hid (¬ (Rf.kind T j == 101) = true) := by show ¬ _; rw [beq_iff_eq, ← hkd]; exact hk
        clear hk hkd
        go_wp2
        go_quiet (fail)
        have bN : Below wr.heap.size wr (wr.drewN nq) := below_drewN (Below.refl _ _) nq
        obtain ⟨V, hV⟩ : ∃ V, wr.drewN nq = V := ⟨_, rfl⟩
        rw [hV] at bN
        have S1 := mkHid (S.out.small (S.out.rs.below bN) (Ef.of_below bN))
        have HV := mkHid hV
        clear S bN hV c0 c1 c2 c3 c4 e0 e1 e2
        go_wp2
        rw [HV.out]
        clear HV
        obtain ⟨RR, hRR⟩ : ∃ RR : Act → Act → World → Prop, RR = (fun a a' w' => ∃ (z : Int) (A1 : List NdE) (j' : Nat) (bd' mn' : Bool) (v1 vd' : Value) (hh : Nat) (w3 : World), a' = (((((((a.put (some 33) (.pointer (some ⟨B, 6, none⟩))).put (some 34) vd).put (some 35) (.pointer (some ⟨g, 0, none⟩))).put (some 36) (.int .i64 z)).put (some 37) (.slice (some ⟨hh, 0, none⟩) 1 1)).put (some 38) vd').put (some 39) (.pointer (some ⟨B, 6, none⟩))) ∧ Hid (Fm g tv TE (.slice none 0 0) ([] : List NdE) W3 B { Rf.zn 1 with kids := ks ++ [z] } (.slice none 0 0) (.slice none 0 0) vd' j' bd' mn' v1 (A ++ A1) w') ∧ Hid (RdP g tv T TE 0 C j false mn v' (([] : List NdE) ++ A) V.drew z A1 j' bd' mn' v1 w3)) := ⟨_, rfl⟩
        have HRR := mkHid hRR
        clear hRR
        refine wp_cut RR ?_ ?_
        · have SD := mkHid (S1.out.small (S1.out.rs.below (below_drew (Below.refl _ _))) (Ef.of_below (below_drew (Below.refl _ _))))
          have kC := mkHid (HLv.out j false mn v' (([] : List NdE) ++ A) V.drew SD.out.rs hj (by omega) (by simp; omega))
          obtain ⟨oD, cD, eD⟩ := own_shape S1.out.od
          subst eD
          have y0 : V.cell? ⟨B, 6, none⟩ = some (.slice oD ks.length cD) := by simp [World.cell?, S1.out.blk]
          refine wp_region_any (by kernel_rfl) ?_
          refine wpAny_take (i := 0) (v := (.pointer (some ⟨B, 6, none⟩))) rfl (by kernel_rfl) (by kernel_rfl) (by kernel_rfl) (fun _ _ _ h => nomatch h.1) (Or.inl ⟨by rfl, ?_⟩) ?_
          · intro W3
            go_simp
            all_goals first | done | (intro h; exfalso; omega) | omega
          go_simp
          refine wpAny_take (i := 2) (v := (.pointer (some ⟨g, 0, none⟩))) rfl (by kernel_rfl) (by kernel_rfl) (by kernel_rfl) (fun _ _ _ h => nomatch h.1) (Or.inl ⟨by rfl, ?_⟩) ?_
          · intro W3
            go_simp
            all_goals first | done | (intro h; exfalso; omega) | omega
          go_simp
          refine wpAny_ready (rs := [1, 3]) (by kernel_rfl) (by simp) ?_
          refine AllReady.cons rfl (fun K hK => ?_) (AllReady.cons rfl (fun K hK => ?_) AllReady.nil)
          · skip
            go_simp
            refine hK _ _ ?_
            clear hK K
            go_simp
            refine wpAny_ready (rs := [3]) (by kernel_rfl) (by simp) ?_
            refine AllReady.cons rfl (fun K hK => ?_) AllReady.nil
            go_simp
            refine kC.out.mono ?_
            rintro e w3 ⟨z, A1, j', bd', mn', v1, rfl, hp⟩
            have S3 := mkHid (SD.out.call hp)
            have HP := mkHid hp
            clear hp
            have y3 : w3.cell? ⟨B, 6, none⟩ = some (.slice oD ks.length cD) := by simp [World.cell?, S3.out.blk]
            have y4 : (w3.alloc (.cells #[.int .i64 z] 2)).cell? ⟨B, 6, none⟩ = some (.slice oD ks.length cD) := (World.cell?_of_block (((Below.refl w3.heap.size w3).alloc (Nat.le_refl _) _).block B (heap_ltM S3.out.blk))).trans y3
            go_simp
            refine hK _ _ ?_
            clear hK K
            go_simp
            refine wpAny_ready (rs := [4]) (by kernel_rfl) (by simp) ?_
            refine AllReady.cons rfl (fun K hK => ?_) AllReady.nil
            go_simp
            refine hK _ _ ?_
            clear hK K
            go_simp
            refine wpAny_ready (rs := [5]) (by kernel_rfl) (by simp) ?_
            refine AllReady.cons rfl (fun K hK => ?_) AllReady.nil
            refine opAppKd _ _ rfl W3.heap.size (.slice oD ks.length cD) ks rfl (S3.out.od.below ((Below.refl _ _).alloc (Nat.le_refl _) _)) z w3.heap.size 1 rfl (by simp) (by omega) (by have := S3.out.ef.size; simp; omega) ?_
            intro vd' w4 ho4 hg4 hn4
            obtain ⟨x6, z6, s5⟩ := S3.out.kid ho4 hg4 hn4
            obtain ⟨o5, c5, e5⟩ := own_shape ho4
            rw [List.length_append, List.length_singleton] at e5
            subst e5
            have S5 := mkHid s5
            clear s5 ho4 hg4 hn4
            refine hK _ _ ?_
            clear hK K
            go_simp
            refine wpAny_take (i := 6) (v := (.pointer (some ⟨B, 6, none⟩))) rfl (by kernel_rfl) (by kernel_rfl) (by kernel_rfl) (fun _ _ _ h => nomatch h.1) (Or.inl ⟨by rfl, ?_⟩) ?_
            · intro W3
              go_simp
              all_goals first | done | (intro h; exfalso; omega) | omega
            go_simp
            refine wpAny_ready (rs := [7]) (by kernel_rfl) (by simp) ?_
            refine AllReady.cons rfl (fun K hK => ?_) AllReady.nil
            go_simp
            refine hK _ _ ?_
            clear hK K
            go_simp
            refine wpAny_done (by kernel_rfl) ?_ _
            first | refine ⟨rfl, ?_⟩ | skip
            rw [HRR.out]
            exact ⟨z, A1, j', bd', mn', v1, .slice o5 (ks.length + 1) c5, w3.heap.size, w3, by kernel_rfl, S5, HP⟩
          · skip
            go_simp
            refine kC.out.mono ?_
            rintro e w3 ⟨z, A1, j', bd', mn', v1, rfl, hp⟩
            have S3 := mkHid (SD.out.call hp)
            have HP := mkHid hp
            clear hp
            have y3 : w3.cell? ⟨B, 6, none⟩ = some (.slice oD ks.length cD) := by simp [World.cell?, S3.out.blk]
            have y4 : (w3.alloc (.cells #[.int .i64 z] 2)).cell? ⟨B, 6, none⟩ = some (.slice oD ks.length cD) := (World.cell?_of_block (((Below.refl w3.heap.size w3).alloc (Nat.le_refl _) _).block B (heap_ltM S3.out.blk))).trans y3
            go_simp
            refine hK _ _ ?_
            clear hK K
            go_simp
            refine wpAny_ready (rs := [1, 4]) (by kernel_rfl) (by simp) ?_
            refine AllReady.cons rfl (fun K hK => ?_) (AllReady.cons rfl (fun K hK => ?_) AllReady.nil)
            · skip
              go_simp
              refine hK _ _ ?_
              clear hK K
              go_simp
              refine wpAny_ready (rs := [4]) (by kernel_rfl) (by simp) ?_
              refine AllReady.cons rfl (fun K hK => ?_) AllReady.nil
              go_simp
              refine hK _ _ ?_
              clear hK K
              go_simp
              refine wpAny_ready (rs := [5]) (by kernel_rfl) (by simp) ?_
              refine AllReady.cons rfl (fun K hK => ?_) AllReady.nil
              refine opAppKd _ _ rfl W3.heap.size (.slice oD ks.length cD) ks rfl (S3.out.od.below ((Below.refl _ _).alloc (Nat.le_refl _) _)) z w3.heap.size 1 rfl (by simp) (by omega) (by have := S3.out.ef.size; simp; omega) ?_
              intro vd' w4 ho4 hg4 hn4
              obtain ⟨x6, z6, s5⟩ := S3.out.kid ho4 hg4 hn4
              obtain ⟨o5, c5, e5⟩ := own_shape ho4
              rw [List.length_append, List.length_singleton] at e5
              subst e5
              have S5 := mkHid s5
              clear s5 ho4 hg4 hn4
              refine hK _ _ ?_
              clear hK K
              go_simp
              refine wpAny_take (i := 6) (v := (.pointer (some ⟨B, 6, none⟩))) rfl (by kernel_rfl) (by kernel_rfl) (by kernel_rfl) (fun _ _ _ h => nomatch h.1) (Or.inl ⟨by rfl, ?_⟩) ?_
              · intro W3
                go_simp
                all_goals first | done | (intro h; exfalso; omega) | omega
              go_simp
              refine wpAny_ready (rs := [7]) (by kernel_rfl) (by simp) ?_
              refine AllReady.cons rfl (fun K hK => ?_) AllReady.nil
              go_simp
              refine hK _ _ ?_
              clear hK K
              go_simp
              refine wpAny_done (by kernel_rfl) ?_ _
              first | refine ⟨rfl, ?_⟩ | skip
              rw [HRR.out]
              exact ⟨z, A1, j', bd', mn', v1, .slice o5 (ks.length + 1) c5, w3.heap.size, w3, by kernel_rfl, S5, HP⟩
            · skip
              go_simp
              refine hK _ _ ?_
              clear hK K
              go_simp
              refine wpAny_ready (rs := [1]) (by kernel_rfl) (by simp) ?_
              refine AllReady.cons rfl (fun K hK => ?_) AllReady.nil
              go_simp
              refine hK _ _ ?_
              clear hK K
              go_simp
              refine wpAny_ready (rs := [5]) (by kernel_rfl) (by simp) ?_
              refine AllReady.cons rfl (fun K hK => ?_) AllReady.nil
              refine opAppKd _ _ rfl W3.heap.size (.slice oD ks.length cD) ks rfl (S3.out.od.below ((Below.refl _ _).alloc (Nat.le_refl _) _)) z w3.heap.size 1 rfl (by simp) (by omega) (by have := S3.out.ef.size; simp; omega) ?_
              intro vd' w4 ho4 hg4 hn4
              obtain ⟨x6, z6, s5⟩ := S3.out.kid ho4 hg4 hn4
              obtain ⟨o5, c5, e5⟩ := own_shape ho4
              rw [List.length_append, List.length_singleton] at e5
              subst e5
              have S5 := mkHid s5
              clear s5 ho4 hg4 hn4
              refine hK _ _ ?_
              clear hK K
              go_simp
              refine wpAny_take (i := 6) (v := (.pointer (some ⟨B, 6, none⟩))) rfl (by kernel_rfl) (by kernel_rfl) (by kernel_rfl) (fun _ _ _ h => nomatch h.1) (Or.inl ⟨by rfl, ?_⟩) ?_
              · intro W3
                go_simp
                all_goals first | done | (intro h; exfalso; omega) | omega
              go_simp
              refine wpAny_ready (rs := [7]) (by kernel_rfl) (by simp) ?_
              refine AllReady.cons rfl (fun K hK => ?_) AllReady.nil
              go_simp
              refine hK _ _ ?_
              clear hK K
              go_simp
              refine wpAny_done (by kernel_rfl) ?_ _
              first | refine ⟨rfl, ?_⟩ | skip
              rw [HRR.out]
              exact ⟨z, A1, j', bd', mn', v1, .slice o5 (ks.length + 1) c5, w3.heap.size, w3, by kernel_rfl, S5, HP⟩
        rw [HRR.out]
        clear HRR RR
        rintro a' w5 ⟨z, A1, j', bd', mn', v1, vd', hh, w3, rfl, S5, HP⟩
        obtain ⟨q1, q2⟩ := HP.out.given
        rw [List.nil_append] at q1 q2
        have hlt := HP.out.lt
        have hle := HP.out.le
        have hadv := HP.out.adv
        have hcnt := HP.out.cnt
        have c3 := mkHid (five S5.out.rs.blk).2.1
        have c4 := mkHid (five S5.out.rs.blk).2.2.1
        clear HP S1
        have HI : Hid (TopInv g tv T TE W3 B R C w5) := by
          cases bd'
          · have hadv := hadv rfl
            obtain ⟨p1, p2, p3⟩ := q2 rfl
            refine ⟨j', false, mn', v1, vd', A ++ A1, ks ++ [z], F, hlt, by omega, by simp; omega, fun _ => by simp; omega, by simp; omega, S5, fun e => (by cases e), fun _ => ⟨?_, ?_⟩⟩
            · rw [hRb.out, Rf.all, if_neg hkr.out, p1, p2]
            · rw [p3, hmn.out, big_app]
          · refine ⟨j', true, mn', v1, vd', A ++ A1, ks ++ [z], F + 1, hlt, by omega, by simp; omega, fun e => (by cases e), by simp; omega, S5, fun _ => ?_, fun e => (by cases e)⟩
            rw [hRb.out, Rf.all, if_neg hkr.out, q1 rfl]
            rfl
        have HM : Hid (blkM T g w5 < blkM T g wr) := by
          show _ < _
          unfold blkM
          rw [c1'.out, c2'.out, c3.out, c4.out]
          cases bd'
          · have hadv := hadv rfl
            simp [Lib.intOf]
            omega
          · simp [Lib.intOf]
            omega
        clear S5 q1 q2 hadv
        go_wp2
        go_simp
        go_roundw
        case rel =>
          exact HI.out
        case measure => exact HM.out
    · clear R2
      go_wp2
      go_quiet (fail)
      have bN : Below wr.heap.size wr (wr.drewN nq) := below_drewN (Below.refl _ _) nq
      obtain ⟨V, hV⟩ : ∃ V, wr.drewN nq = V := ⟨_, rfl⟩
      rw [hV] at bN
      have S1 := mkHid (S.out.small (S.out.rs.below bN) (Ef.of_below bN))
      have HV := mkHid hV
      clear bN hV c0 c1 c2 c3 c4 e0 e1 e2
      obtain ⟨c0, c1, c2, c3, c4⟩ := five S1.out.rs.blk
      have htk := S1.out.rs.tks
      rw [htv.out] at htk c0
      obtain ⟨q', ho, -, -, e0, e1, e2⟩ := htk.at j hj4
      obtain rfl : q = q' := by simpa using ho
      rw [show TE[j].2.2 = Rf.line l (Rf.pos T j) from HK.out.line j hj4] at e2
      have hqw : q ≠ w.heap.size := by have := hown.out q (by rw [htv.out]; rfl); omega
      clear htk ho e0 e1
      rw [← HV.out] at c0 c1 c2 c3 c4 e2
      go_wp2
      rw [HV.out]
      rw [HV.out] at c0 c1 c2 c3 c4 e2
      have hr9 := (S1.out.ef.keep w.heap.size (by omega) (by omega) (by simp [Value.ownBlock])).trans Hr3.out
      have hb9 : Below w.heap.size w V := ⟨S1.out.ef.os.trans Hb3.out.os, S1.out.ef.tape.trans Hb3.out.tape, S1.out.ef.output.trans Hb3.out.output, Nat.le_trans Hb3.out.size S1.out.ef.size, fun k hk => (S1.out.ef.keep k (by omega) (by omega) (by simp [Value.ownBlock])).trans (Hb3.out.block k hk)⟩
      obtain ⟨ll, hll⟩ : ∃ ll, Rf.line l (Rf.pos T j) = ll := ⟨_, rfl⟩
      rw [hll] at e2
      have hz : Hid (Z = (3, ll, [])) := by show _ = _; rw [HZ.out, R1.out trivial, ← hll]; rfl
      have Hb9 := mkHid hb9
      clear S1 S HV hb9 hll R1
      have hS : V.cell? ⟨g, 0, none⟩ = some (.slice (some ⟨q, 0, none⟩) TE.length cap) ∧ V.cell? ⟨g, 1, none⟩ = some (.int .i64 (j : Int)) ∧ V.cell? ⟨q, j * 3 + 2, none⟩ = some (.int .i64 (ll : Int)) := ⟨c0, c1, e2⟩
      refine wp_region_held (S := fun w => w.cell? ⟨g, 0, none⟩ = some (.slice (some ⟨q, 0, none⟩) TE.length cap) ∧ w.cell? ⟨g, 1, none⟩ = some (.int .i64 (j : Int)) ∧ w.cell? ⟨q, j * 3 + 2, none⟩ = some (.int .i64 (ll : Int))) (by kernel_rfl) ?_
      refine wpAnyH_take (i := 0) (v := .pointer (some ⟨g, 0, none⟩)) rfl (by kernel_rfl) (by kernel_rfl) (by kernel_rfl) (fun _ _ _ h => h) (Or.inl ⟨by rfl, ?_⟩) hS ?_
      · rintro w ⟨s1, s2, s3⟩
        go_simp
        all_goals first | done | (intro h; exfalso; omega) | omega
      go_simp
      refine wpAnyH_take (i := 1) (v := .pointer (some ⟨g, 0, none⟩)) rfl (by kernel_rfl) (by kernel_rfl) (by kernel_rfl) (fun _ _ _ h => h) (Or.inl ⟨by rfl, ?_⟩) hS ?_
      · rintro w ⟨s1, s2, s3⟩
        go_simp
        all_goals first | done | (intro h; exfalso; omega) | omega
      go_simp
      refine wpAnyH_take (i := 2) (v := .pointer (some ⟨g, 0, none⟩)) rfl (by kernel_rfl) (by kernel_rfl) (by kernel_rfl) (fun _ _ _ h => h) (Or.inl ⟨by rfl, ?_⟩) hS ?_
      · rintro w ⟨s1, s2, s3⟩
        go_simp
        all_goals first | done | (intro h; exfalso; omega) | omega
      go_simp
      refine wpAnyH_take (i := 3) (v := .slice (some ⟨q, 0, none⟩) TE.length cap) rfl (by kernel_rfl) (by kernel_rfl) (by kernel_rfl) (fun _ _ _ h => h) (Or.inl ⟨by rfl, ?_⟩) hS ?_
      · rintro w ⟨s1, s2, s3⟩
        go_simp
        all_goals first | done | (intro h; exfalso; omega) | omega
      go_simp
      refine wpAnyH_take (i := 4) (v := .pointer (some ⟨g, 0, none⟩)) rfl (by kernel_rfl) (by kernel_rfl) (by kernel_rfl) (fun _ _ _ h => h) (Or.inl ⟨by rfl, ?_⟩) hS ?_
      · rintro w ⟨s1, s2, s3⟩
        go_simp
        all_goals first | done | (intro h; exfalso; omega) | omega
      go_simp
      refine wpAnyH_take (i := 5) (v := .pointer (some ⟨g, 0, none⟩)) rfl (by kernel_rfl) (by kernel_rfl) (by kernel_rfl) (fun _ _ _ h => h) (Or.inl ⟨by rfl, ?_⟩) hS ?_
      · rintro w ⟨s1, s2, s3⟩
        go_simp
        all_goals first | done | (intro h; exfalso; omega) | omega
      go_simp
      refine wpAnyH_take (i := 6) (v := .pointer (some ⟨g, 1, none⟩)) rfl (by kernel_rfl) (by kernel_rfl) (by kernel_rfl) (fun _ _ _ h => h) (Or.inl ⟨by rfl, ?_⟩) hS ?_
      · rintro w ⟨s1, s2, s3⟩
        go_simp
        all_goals first | done | (intro h; exfalso; omega) | omega
      go_simp
      refine wpAnyH_take (i := 7) (v := .int .i64 (j : Int)) rfl (by kernel_rfl) (by kernel_rfl) (by kernel_rfl) (fun _ _ _ h => h) (Or.inl ⟨by rfl, ?_⟩) hS ?_
      · rintro w ⟨s1, s2, s3⟩
        go_simp
        all_goals first | done | (intro h; exfalso; omega) | omega
      go_simp
      refine wpAnyH_take (i := 8) (v := .pointer (some ⟨q, j * 3, none⟩)) rfl (by kernel_rfl) (by kernel_rfl) (by kernel_rfl) (fun _ _ _ h => h) (Or.inl ⟨by rfl, ?_⟩) hS ?_
      · rintro w ⟨s1, s2, s3⟩
        go_simp
        all_goals first | done | (intro h; exfalso; omega) | omega
      go_simp
      refine wpAnyH_take (i := 9) (v := .pointer (some ⟨q, j * 3 + 2, none⟩)) rfl (by kernel_rfl) (by kernel_rfl) (by kernel_rfl) (fun _ _ _ h => h) (Or.inl ⟨by rfl, ?_⟩) hS ?_
      · rintro w ⟨s1, s2, s3⟩
        go_simp
        all_goals first | done | (intro h; exfalso; omega) | omega
      go_simp
      refine wpAnyH_take (i := 10) (v := .int .i64 (ll : Int)) rfl (by kernel_rfl) (by kernel_rfl) (by kernel_rfl) (fun _ _ _ h => h) (Or.inl ⟨by rfl, ?_⟩) hS ?_
      · rintro w ⟨s1, s2, s3⟩
        go_simp
        all_goals first | done | (intro h; exfalso; omega) | omega
      go_simp
      refine wpAnyH_take (i := 11) (v := .agg #[.int .i64 3, .int .i64 (ll : Int), .slice none 0 0]) rfl (by kernel_rfl) (by kernel_rfl) (by kernel_rfl) (fun _ _ _ h => h) (Or.inl ⟨by rfl, ?_⟩) hS ?_
      · rintro w ⟨s1, s2, s3⟩
        go_simp
        all_goals first | done | (intro h; exfalso; omega) | omega
      go_simp
      refine wpAnyH_all (rs := [12]) (by kernel_rfl) (by simp) ?_
      intro k hk
      simp only [List.mem_cons, List.not_mem_nil, or_false] at hk
      subst hk
      refine wpOp_step rfl (fun K hK => ?_)
      refine wp_store_row 24 _ _ rfl w.heap.size #[.int .i64 3, .int .i64 (ll : Int), .slice none 0 0] rfl rfl 24 _ hr9 (by kernel_rfl) rfl (by simp [Value.oneCell']) ?_
      refine hK _ _ ⟨?_, ?_⟩
      · have kp : ∀ (b n : Nat) (x : Value), b ≠ w.heap.size → V.cell? ⟨b, n, none⟩ = some x → (V.setRow w.heap.size #[.int .i64 3, .int .i64 (ll : Int), .slice none 0 0]).cell? ⟨b, n, none⟩ = some x := fun b n x hb hx => (World.cell?_of_block (a := ⟨b, n, none⟩) ((grown_setRow V w.heap.size _).block b (World.block_lt_of_cell? _ _ hx) (by simpa using hb))).trans hx
        exact ⟨kp g 0 _ (by omega) c0, kp g 1 _ (by omega) c1, kp q _ _ hqw e2⟩
      clear hK K
      go_simp
      refine wpAnyH_done (by kernel_rfl) ?_ _
      go_wp2
      refine bodyPost_ret (v := .agg #[.int .i64 3, .int .i64 (ll : Int), .slice none 0 0]) (results_cell_row Tryz.results4 _ _ w.heap.size 24 _ (0, 0) _ rfl (setRow_heap _ _ _ _ _ _ hr9) Tryz.underlying24 rfl (by kernel_rfl)) rfl ?_
      rw [hz.out]
      exact ⟨_, [], rfl, Nt.nil _ _, rfl, (below_drew Hb9.out).grown (grown_setRow _ _ _) Hb9.out.size (fun j hj => by cases hj; exact Nat.le_refl _)⟩
end Go.Proofs.YtlphojaeaogehaaGreatDoor
